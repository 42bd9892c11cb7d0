/- Part 9 of what the proof stands on. -/
import Derived.Test.YtcjfeandnmochaaGreatDoorPkAH
namespace Go.Proofs.YtcjfeandnmochaaGreatDoor
open Go.ChangeShapes Go.WideShapes Go.ChangeAt Go.RowKit
set_option linter.unusedVariables false
set_option linter.unusedSimpArgs false
set_option maxRecDepth 20000
theorem lab_cases (rs : List ByteArray) :
  (∃ t r, rs = t :: r ∧ anyS [kOptional] (headS (.inr rs)) = true ∧ stX (pOn (.inr rs) (pTake [kOptional])) = .inr r ∧ pLabel rs = (2, r)) ∨
  (anyS [kOptional] (headS (.inr rs)) = false ∧ stX (pOn (.inr rs) (pTake [kOptional])) = .inr rs ∧ ∃ t r, rs = t :: r ∧ anyS [kRepeated] (headS (.inr rs)) = true ∧ stX (pOn (.inr rs) (pTake [kRepeated])) = .inr r ∧ pLabel rs = (3, r)) ∨
  (anyS [kOptional] (headS (.inr rs)) = false ∧ stX (pOn (.inr rs) (pTake [kOptional])) = .inr rs ∧ anyS [kRepeated] (headS (.inr rs)) = false ∧ stX (pOn (.inr rs) (pTake [kRepeated])) = .inr rs ∧ pLabel rs = (1, rs)) := by
 have his : ∀ k : ByteArray, anyS [k] noT = false → anyS [k] (headS (.inr rs)) = false → pIs k rs = false := by
  intro k hk h
  cases rs with
  | nil => rfl
  | cons t r =>
   simp only [headS] at h
   rw [any_one, beq_eq_false_iff_ne] at h
   have := is_cons k t r
   cases hp : pIs k (t :: r) with
   | false => rfl
   | true => rw [hp] at this; simp at this; exact absurd (by rw [this] : k.data.toList = t.data.toList) h
 rcases take_cases [kOptional] (.inr rs) (by decide +kernel) with ⟨t, r, e0, e1, e2, e3, e4⟩ | ⟨e1, e2, e3, e4, e5⟩
 ·left
  simp only [Sum.inr.injEq] at e0
  subst e0
  refine ⟨t, r, rfl, e3, by rw [e1]; rfl, ?_⟩
  unfold pLabel
  rw [any_one, beq_iff_eq] at e3
  rw [if_pos (by rw [is_cons]; exact e3.symm)]; rfl
 ·right
  have ho := his kOptional (by decide +kernel) e5
  rcases take_cases [kRepeated] (.inr rs) (by decide +kernel) with ⟨t, r, f0, f1, f2, f3, f4⟩ | ⟨f1, f2, f3, f4, f5⟩
  ·left
   simp only [Sum.inr.injEq] at f0
   subst f0
   refine ⟨e5, e1, t, r, rfl, f3, by rw [f1]; rfl, ?_⟩
   unfold pLabel
   rw [any_one, beq_iff_eq] at f3
   rw [if_neg (by rw [ho]; simp), if_pos (by rw [is_cons]; exact f3.symm)]; rfl
  ·right
   have hr := his kRepeated (by decide +kernel) f5
   refine ⟨e5, e1, f5, f1, ?_⟩
   unfold pLabel
   rw [if_neg (by rw [ho]; simp), if_neg (by rw [hr]; simp)]
theorem scal_noT : scalN noT = 0 := by decide +kernel
theorem type_cases (σ : Sg) : (∃ t r, σ = .inr (t :: r) ∧ 0 < scalN t ∧ pOn σ pType = .inr (((scalN t : Nat), noT), r)) ∨
  (scalN (headS σ) = 0 ∧ stX (pOn σ pType) = stX (pOn σ pName) ∧ res (0, noT) (pOn σ pType) = (0, res noT (pOn σ pName))) := by
 match σ with
 | .inl n => exact .inr ⟨scal_noT, rfl, rfl⟩
 | .inr [] => exact .inr ⟨scal_noT, rfl, rfl⟩
 | .inr (t :: r) =>
  by_cases h : 0 < scalN t
  ·left
   refine ⟨t, r, rfl, h, ?_⟩
   simp only [pOn, pType]
   rw [if_pos h]; rfl
  ·right
   refine ⟨by simp only [headS]; omega, ?_⟩
   simp only [pOn, pType, if_neg h]
   cases pName (t :: r) with
   | inl n => exact ⟨rfl, rfl⟩
   | inr x => obtain ⟨a, r'⟩ := x; exact ⟨rfl, rfl⟩
theorem flr_snoc (acc : List FlS) (f : FlS) : (flRows (acc ++ [f])).flatten = (flRows acc).flatten ++ [.string f.name, .int .i64 f.tag, .int .i64 f.label, .int .i64 f.kind, .string f.tname] := by simp [flRows, FlS.cells]
structure MF (w0 w : World) (gp gm Fb : Nat) (V : Value) (ts : List Tk) (σ : Sg) (m : MsS) (vf vr : Value) (fc : Array Value) : Prop where
 rf : Rf w gp V ts σ
 bm : Blk w gm #[.string m.name, vf, vr] 40
 bf : Blk w Fb fc 90
 hf : w.ownsRow (gm + 1) 90 5 vf m.fields.length (flRows m.fields).flatten
 ho : w.ownsRow (gm + 1) 3 1 vr m.reserved.length (inRows m.reserved).flatten
 kp : Kp (fun k => k = gp ∨ gm ≤ k) w0 w
 vfb : ∀ k, vf.ownBlock = some k → k < Fb
 vrb : ∀ k, vr.ownBlock = some k → k < Fb
 g1 : gp < gm
 g2 : gm < Fb
theorem MF.step {w0 w w' : World} {gp gm Fb : Nat} {V : Value} {ts : List Tk} {σ σ' : Sg} {m : MsS} {vf vr : Value} {fc : Array Value} (h : MF w0 w gp gm Fb V ts σ m vf vr fc) (k : Kp (fun k => k = gp) w w') (hr : Rf w' gp V ts σ') : MF w0 w' gp gm Fb V ts σ' m vf vr fc := by
 have a1 := h.g1
 have a2 := h.g2
 exact ⟨hr, h.bm.kp k (by omega), h.bf.kp k (by omega), own_kp h.hf k (fun k hk => by omega), own_kp h.ho k (fun k hk => by omega), h.kp.trans (k.weak (fun _ _ e => .inl e)), h.vfb, h.vrb, a1, a2⟩
theorem MF.set {w0 w : World} {gp gm Fb : Nat} {V : Value} {ts : List Tk} {σ : Sg} {m : MsS} {vf vr : Value} {fc fc' : Array Value} (h : MF w0 w gp gm Fb V ts σ m vf vr fc) (i : Nat) (u : Value) (hc : fc.setIfInBounds i u = fc') : MF w0 (w.setCell ⟨Fb, i, none⟩ u) gp gm Fb V ts σ m vf vr fc' := by
 have a1 := h.g1
 have a2 := h.g2
 have k : Kp (fun k => k = Fb) w (w.setCell ⟨Fb, i, none⟩ u) := Kp.setCell (p := ⟨Fb, i, none⟩) (Kp.refl (fun k => k = Fb) w) (fun _ => rfl) _
 exact ⟨h.rf.other (by simp only; omega) _, h.bm.kp k (by omega), h.bf.set i u hc, own_kpV h.hf k (fun k hk e => by have := h.vfb k hk; omega), own_kpV h.ho k (fun k hk e => by have := h.vrb k hk; omega), h.kp.setCell (fun _ => .inr (by simp only; omega)) _, h.vfb, h.vrb, a1, a2⟩
theorem MF.below {w0 w w' : World} {gp gm Fb : Nat} {V : Value} {ts : List Tk} {σ : Sg} {m : MsS} {vf vr : Value} {fc : Array Value} (h : MF w0 w gp gm Fb V ts σ m vf vr fc) (hb : Below w.heap.size w w') : MF w0 w' gp gm Fb V ts σ m vf vr fc := h.step (Kp.ofBelow hb) (h.rf.below hb)
set_option maxHeartbeats 8000000 in
theorem rmember_fld {w : World} {gp gm : Nat} {V : Value} {ts : List Tk} {rs : List ByteArray} {m : MsS} {vf vr : Value} (h : Rf w gp V ts (.inr rs)) (hnr : ¬ pIs kReserved rs = true) (hgm : gp < gm) (BM : Blk w gm #[.string m.name, vf, vr] 40) (hf : w.ownsRow (gm + 1) 90 5 vf m.fields.length (flRows m.fields).flatten) (ho : w.ownsRow (gm + 1) 3 1 vr m.reserved.length (inRows m.reserved).flatten) (hbf : Bd ts.length (.inr rs) m.fields.length) (hbr : Bd ts.length (.inr rs) m.reserved.length) :
  Calls Tryz.prog 84 #[.pointer (some ⟨gp, 0, none⟩), .pointer (some ⟨gm, 0, none⟩)] w fun e w' => e = .returned (.tuple #[]) ∧ ∃ m' vf' vr', Res (pMember m rs) m' ∧ Rf w' gp V ts (stX (pMember m rs)) ∧ Blk w' gm #[.string m'.name, vf', vr'] 40 ∧ w'.ownsRow (gm + 1) 90 5 vf' m'.fields.length (flRows m'.fields).flatten ∧ w'.ownsRow (gm + 1) 3 1 vr' m'.reserved.length (inRows m'.reserved).flatten ∧ Kp (fun k => k = gp ∨ gm ≤ k) w w' ∧ Bd ts.length (stX (pMember m rs)) m'.fields.length ∧ Bd ts.length (stX (pMember m rs)) m'.reserved.length := by
 obtain ⟨i0, hi, hz0, hz1, hz2⟩ := info_parts infoF
 have hfew := h.few
 have HMem : Hid (∀ f, Res (pField rs) f → stX (pMember m rs) = stX (pField rs) ∧ Res (pMember m rs) ⟨m.name, m.fields ++ [f], m.reserved⟩) := fun f hf => member_fld hnr hf
 have HBR : Hid (Bd ts.length (stX (pMember m rs)) m.reserved.length) := hbr.keep (member_lt m rs).le
 have HBF : Hid (Bd ts.length (stX (pMember m rs)) (m.fields.length + 1)) := hbf.step (member_lt m rs)
 have hlenF : m.fields.length ≤ 100000 := by have := hbf.2 rs rfl; omega
 have HFst : Hid (∀ v : NmS, Res (pOn (stX (pOn (stX (pOn (.inr rs) pLab)) pType)) pValue) v → stX (pOn (stX (pOn (stX (pOn (.inr rs) pLab)) pType)) pValue) = stX (pOn (.inr rs) pField) ∧ Res (pOn (.inr rs) pField) ⟨v.name, v.n, res 1 (pOn (.inr rs) pLab), (res (0, noT) (pOn (stX (pOn (.inr rs) pLab)) pType)).1, (res (0, noT) (pOn (stX (pOn (.inr rs) pLab)) pType)).2⟩) := field_st (.inr rs)
 have HE : Hid (stX (pOn (.inr rs) (pTake [kReserved])) = .inr rs ∧ anyS [kReserved] (headS (.inr rs)) = false) := by
  rcases reserved_cases rs with ⟨t, r, rfl, ht, _⟩ | ⟨_, e1, e2⟩
  ·exact absurd (by rw [is_cons]; exact ht) hnr
  ·refine ⟨e1, ?_⟩
   rcases take_cases [kReserved] (.inr rs) (by decide +kernel) with ⟨t, r, f0, f1, f2, f3, f4⟩ | ⟨f1, f2, f3, f4, f5⟩
   ·rw [f1] at e2
    simp only [res] at e2
    rw [e2] at f4
    simp [noT] at f4
   ·exact f5
 have HF0 : Hid (w.ownsRow (gm + 1) 90 5 vf m.fields.length (flRows m.fields).flatten) := hf
 have HO0 : Hid (w.ownsRow (gm + 1) 3 1 vr m.reserved.length (inRows m.reserved).flatten) := ho
 have HLC := lab_cases rs
 clear hbf hbr hf ho hnr
 go_enter Tryz.func84, Tryz.ntmps84
 go_wp2_with fail
 refine (ris_any kReserved h (by decide +kernel)).mono ?_
 rintro e w1 ⟨rfl, h1, k1⟩
 rw [HE.out.1] at h1
 rw [HE.out.2]
 have BM1 := BM.kp k1 (by omega)
 have K1 : Kp (fun k => k = gp ∨ gm ≤ k) w w1 := k1.weak (fun _ _ e => .inl e)
 have HO1 := own_kpH HO0 k1 (fun k hk => by omega)
 have HF1 := own_kpH HF0 k1 (fun k hk => by omega)
 clear h k1 BM HO0 HF0 HE
 have H2 : MF w (w1.alloc (.cells #[.string ⟨#[]⟩, .int .i64 0, .int .i64 1, .int .i64 0, .string ⟨#[]⟩] 90)) gp gm w1.heap.size V ts (.inr rs) m vf vr #[.string ⟨#[]⟩, .int .i64 0, .int .i64 1, .int .i64 0, .string ⟨#[]⟩] :=
  ⟨h1.alloc _, BM1.below ((Below.refl _ _).alloc (Nat.le_refl _) _), Blk.new w1 _ _, HF1.out.alloc _, HO1.out.alloc _, K1.alloc _, fun k hk => (HF1.out.lt k hk).2, fun k hk => (HO1.out.lt k hk).2, hgm, BM1.lt⟩
 clear h1 BM1 K1 HO1 HF1
 rcases HLC with ⟨t, r, rfl, la, lb', lc⟩ | ⟨la, lb', t, r, rfl, ma, mb, mc⟩ | ⟨la, lb', ma, mb, mc⟩
 ·have HE1 : Hid (stX (pOn (.inr (t :: r)) (pTake [kOptional])) = .inr r ∧ anyS [kOptional] (headS (.inr (t :: r))) = true) := ⟨lb', la⟩
  have HFj : Hid (∀ v : NmS, Res (pOn (stX (pOn (.inr r) pType)) pValue) v → stX (pOn (stX (pOn (.inr r) pType)) pValue) = stX (pField (t :: r)) ∧ Res (pField (t :: r)) ⟨v.name, v.n, 2, (res (0, noT) (pOn (.inr r) pType)).1, (res (0, noT) (pOn (.inr r) pType)).2⟩) := by
   have := HFst.out
   have e1 : stX (pOn (.inr (t :: r)) pLab) = .inr r := by simp only [pOn, pLab, lc, stX]
   have e2 : res 1 (pOn (.inr (t :: r)) pLab) = 2 := by simp only [pOn, pLab, lc, res]
   rw [e1, e2] at this
   exact this
  clear la lb' lc HFst
  go_wp2_with fail
  generalize w1.heap.size = Fb at *
  refine (ris_any kOptional H2.rf (by decide +kernel)).mono ?_
  rintro e w2 ⟨rfl, h3, k3⟩
  rw [HE1.out.1] at h3
  rw [HE1.out.2]
  have H3 := H2.step k3 h3
  clear h3 k3 H2 HE1
  have s0 := H3.bf.cell 2
  have f0 := H3.bf.froz 2
  simp only [List.getElem?_toArray, List.getElem?_cons_succ, List.getElem?_cons_zero] at s0
  have HL := H3.set 2 (.int .i64 2) rfl
  simp only [List.setIfInBounds_toArray, List.set_cons_zero, List.set_cons_succ] at HL
  clear H3
  go_wp2_with fail
  clear s0 f0
  generalize (.inr r : Sg) = σ1 at *
  generalize w2.setCell ⟨Fb, 2, none⟩ (.int .i64 2) = WL at *
  go_wp2_with fail
  refine (rtext_any HL.rf).mono ?_
  rintro e w4 ⟨rfl, hb4⟩
  have H4 := HL.below hb4
  clear hb4 HL
  go_wp2_with fail
  refine (rscalar_any _ _).mono ?_
  rintro e w5 ⟨rfl, hb5⟩
  have H5 := H4.below hb5
  clear hb5 H4
  rcases type_cases σ1 with ⟨t2, r2, rfl, y1, y2⟩ | ⟨y1, y2, y3⟩
  ·rw [y2] at HFj
   simp only [stX, res] at HFj
   simp only [headS]
   have s0 := H5.bf.cell 3
   have f0 := H5.bf.froz 3
   simp only [List.getElem?_toArray, List.getElem?_cons_succ, List.getElem?_cons_zero] at s0
   have H6 := H5.set 3 (.int .i64 ((scalN t2 : Nat) : Int)) rfl
   simp only [List.setIfInBounds_toArray, List.set_cons_zero, List.set_cons_succ] at H6
   generalize scalN t2 = sc at *
   clear y2
   obtain ⟨n, hn, hm, c0, c1, c3, f1, f3⟩ := H6.rf.open
   have hn' := hn
   simp only [leftS, List.length_cons] at hn'
   have hn2 : n < 9223372036854775807 := by omega
   have HR : Hid (∀ u : Value, u = .int .i64 ((n + 1 : Nat) : Int) → Rf ((w5.setCell ⟨Fb, 3, none⟩ (.int .i64 (sc : Int))).setCell ⟨gp, 1, none⟩ u) gp V ts (.inr r2)) := fun u hu => H6.rf.next hn hu
   have hgpF : gp < Fb := by have := H6.g1; have := H6.g2; omega
   clear hn hn' hm c0 c3 f3 H5
   go_wp2_with fail
   have HA := H6.step (Kp.setCell (p := ⟨gp, 1, none⟩) (Kp.refl (fun k => k = gp) _) (fun _ => rfl) (.int .i64 ((n : Int) + 1))) (HR.out _ rfl)
   clear s0 f0 c1 f1 HR H6
   have HFi : Hid (∀ v : NmS, Res (pOn (.inr r2) pValue) v → stX (pOn (.inr r2) pValue) = stX (pField (t :: r)) ∧ Res (pField (t :: r)) ⟨v.name, v.n, 2, (sc : Int), noT⟩) := HFj
   clear HFj
   simp only [noT] at HFi
   generalize (.inr r2 : Sg) = σ2 at *
   generalize (w5.setCell ⟨Fb, 3, none⟩ (.int .i64 (sc : Int))).setCell ⟨gp, 1, none⟩ (.int .i64 ((n : Int) + 1)) = WA at *
   go_wp2_with fail
   refine (pname_any HA.rf).mono ?_
   rintro e w7 ⟨rfl, h7, k7⟩
   have H7 := HA.step k7 h7
   clear h7 k7 HA
   have HV : Hid (stX (pOn (stX (pOn (stX (pOn (stX (pOn σ2 pName)) (pMust kEq))) pNum)) (pMust kSemi)) = stX (pOn σ2 pValue) ∧ Res (pOn σ2 pValue) ⟨res noT (pOn σ2 pName), (res 0 (pOn (stX (pOn (stX (pOn σ2 pName)) (pMust kEq))) pNum) : Nat)⟩) := value_st σ2
   generalize res noT (pOn σ2 pName) = x1 at *
   generalize stX (pOn σ2 pName) = σ3 at *
   have s0 := H7.bf.cell 0
   have f0 := H7.bf.froz 0
   simp only [List.getElem?_toArray, List.getElem?_cons_succ, List.getElem?_cons_zero] at s0
   have H8 := H7.set 0 (.string x1) rfl
   simp only [List.setIfInBounds_toArray, List.set_cons_zero] at H8
   go_wp2_with fail
   clear s0 f0 H7
   refine (rmust_any kEq H8.rf (by decide +kernel)).mono ?_
   rintro e w8 ⟨rfl, h9, k9⟩
   have H9 := H8.step k9 h9
   clear h9 k9 H8
   generalize stX (pOn σ3 (pMust kEq)) = σ4 at *
   go_wp2_with fail
   refine (pnumber_any H9.rf).mono ?_
   rintro e w9 ⟨rfl, h10, k10⟩
   have H10 := H9.step k10 h10
   clear h10 k10 H9
   generalize (res 0 (pOn σ4 pNum) : Nat) = x3 at *
   generalize stX (pOn σ4 pNum) = σ5 at *
   have s0 := H10.bf.cell 1
   have f0 := H10.bf.froz 1
   simp only [List.getElem?_toArray, List.getElem?_cons_succ, List.getElem?_cons_zero] at s0
   have H11 := H10.set 1 (.int .i64 (x3 : Int)) rfl
   simp only [List.setIfInBounds_toArray, List.set_cons_zero, List.set_cons_succ] at H11
   go_wp2_with fail
   clear s0 f0 H10
   refine (rmust_any kSemi H11.rf (by decide +kernel)).mono ?_
   rintro e w10 ⟨rfl, h12, k12⟩
   have H12 := H11.step k12 h12
   clear h12 k12 H11
   obtain ⟨z1, z2⟩ := HFi.out ⟨x1, x3⟩ HV.out.2
   obtain ⟨y1, y2⟩ := HMem.out _ z2
   have e9 : stX (pOn σ5 (pMust kSemi)) = stX (pMember m (t :: r)) := by rw [HV.out.1, z1, y1]
   rw [e9] at H12
   have HY : Hid (Res (pMember m (t :: r)) ⟨m.name, m.fields ++ [⟨x1, x3, 2, (sc : Int), ⟨#[]⟩⟩], m.reserved⟩) := y2
   clear z1 z2 y1 y2 e9 HV HFi HMem
   have BG := H12.bm
   have BE := H12.bf
   go_wp2_with fail
   refine wp_region_held_drew (S := fun _ => True) (by kernel_rfl) trivial (fun hS => ?_)
   refine rg_take 0 72 (.pointer (some ⟨gm, 0, none⟩)) _ rfl rfl (by kernel_rfl) (by kernel_rfl) (by kernel_rfl) (fun _ _ _ h => h) (by rfl) (fun w' hw' => ?_) trivial (listed' := #[true, false, false, false, false, false, false, false, false, false, false]) (by kernel_rfl) rfl ?_
   ·go_simp
   simp only [List.setIfInBounds_toArray, List.set_cons_zero, List.set_cons_succ]
   refine rg_take 1 73 (.pointer (some ⟨gm, 0, none⟩)) _ rfl rfl (by kernel_rfl) (by kernel_rfl) (by kernel_rfl) (fun _ _ _ h => h) (by rfl) (fun w' hw' => ?_) trivial (listed' := #[true, true, false, false, false, false, false, false, false, false, false]) (by kernel_rfl) rfl ?_
   ·go_simp
   simp only [List.setIfInBounds_toArray, List.set_cons_zero, List.set_cons_succ]
   refine rg_take 2 74 (.pointer (some ⟨gm, 0, none⟩)) _ rfl rfl (by kernel_rfl) (by kernel_rfl) (by kernel_rfl) (fun _ _ _ h => h) (by rfl) (fun w' hw' => ?_) trivial (listed' := #[true, true, true, false, false, false, false, false, false, false, false]) (by kernel_rfl) rfl ?_
   ·go_simp
   simp only [List.setIfInBounds_toArray, List.set_cons_zero, List.set_cons_succ]
   refine rg_take 3 75 (.pointer (some ⟨gm, 1, none⟩)) _ rfl rfl (by kernel_rfl) (by kernel_rfl) (by kernel_rfl) (fun _ _ _ h => h) (by rfl) (fun w' hw' => ?_) trivial (listed' := #[true, true, true, true, false, false, false, false, false, false, false]) (by kernel_rfl) rfl ?_
   ·go_simp
   simp only [List.setIfInBounds_toArray, List.set_cons_zero, List.set_cons_succ]
   have BGd := BG.below (Below.refl _ _).drew
   have BEd := BE.below (Below.refl _ _).drew
   refine rg_llb 4 5 6 76 77 78 vf (.agg #[.string x1, .int .i64 (x3 : Int), .int .i64 (2), .int .i64 ((sc : Int)), .string ⟨#[]⟩]) (.slice (some ⟨w10.drew.heap.size, 0, none⟩) 1 1) (w10.drew.alloc (.cells #[.string x1, .int .i64 (x3 : Int), .int .i64 (2), .int .i64 ((sc : Int)), .string ⟨#[]⟩] 90)) rfl rfl rfl rfl rfl rfl (by kernel_rfl) (by kernel_rfl) (by kernel_rfl) (by kernel_rfl) (by kernel_rfl) (fun _ => rfl) (fun _ => rfl) (fun _ => rfl) (by decide) (by decide) (by decide) (by decide) ?g0 ?g1 ?g2 ?g3 ?g4 ?g5 ?g6 ?_
   case g0 => have hg0 := (BGd.cell 1).trans rfl; go_simp
   case g1 => have hg0 := (BGd.cell 1).trans rfl; simp only [List.setIfInBounds_toArray, List.set_cons_zero, List.set_cons_succ]; go_simp
   case g2 => have hg0 : (w10.alloc (.cells #[.string x1, .int .i64 (x3 : Int), .int .i64 (2), .int .i64 ((sc : Int)), .string ⟨#[]⟩] 90)).cell? ⟨gm, 1, none⟩ = some (vf) := ((BG.below ((Below.refl _ _).alloc (Nat.le_refl _) (.cells #[.string x1, .int .i64 (x3 : Int), .int .i64 (2), .int .i64 ((sc : Int)), .string ⟨#[]⟩] 90))).cell 1).trans rfl; simp only [List.setIfInBounds_toArray, List.set_cons_zero, List.set_cons_succ]; go_simp
   case g3 => have he0 := (BEd.cell 0).trans rfl; have he1 := (BEd.cell 1).trans rfl; have he2 := (BEd.cell 2).trans rfl; have he3 := (BEd.cell 3).trans rfl; have he4 := (BEd.cell 4).trans rfl; go_simp
   case g4 => have he0 := (BEd.cell 0).trans rfl; have he1 := (BEd.cell 1).trans rfl; have he2 := (BEd.cell 2).trans rfl; have he3 := (BEd.cell 3).trans rfl; have he4 := (BEd.cell 4).trans rfl; simp only [List.setIfInBounds_toArray, List.set_cons_zero, List.set_cons_succ]; go_simp
   case g5 => simp only [List.setIfInBounds_toArray, List.set_cons_zero, List.set_cons_succ]; go_simp
   case g6 => simp only [List.setIfInBounds_toArray, List.set_cons_zero, List.set_cons_succ]; go_simp
   simp only [List.setIfInBounds_toArray, List.set_cons_zero, List.set_cons_succ]
   have H13 := (H12.below (Below.refl _ _).drew).below ((Below.refl _ _).alloc (Nat.le_refl _) (.cells #[.string x1, .int .i64 (x3 : Int), .int .i64 (2), .int .i64 ((sc : Int)), .string ⟨#[]⟩] 90))
   clear H12 BG BE BGd BEd
   have hM6 : gm + 1 ≤ w10.drew.heap.size := by have := H13.bm.lt; have e : (w10.drew.alloc (.cells #[.string x1, .int .i64 (x3 : Int), .int .i64 (2), .int .i64 ((sc : Int)), .string ⟨#[]⟩] 90)).heap.size = w10.drew.heap.size + 1 := Array.size_push ..; have a2 := H13.g2; have a3 := H13.bf.lt; rw [e] at a3; omega
   obtain ⟨v6, w6, hrun, ho6, hg6, _, hat6⟩ := run_append_own_at (P := Tryz.prog) (w10.drew.alloc (.cells #[.string x1, .int .i64 (x3 : Int), .int .i64 (2), .int .i64 ((sc : Int)), .string ⟨#[]⟩] 90)) (gm + 1) 37 37 90 i0 _ 5 56 Tryz.underlying37 hi hz0 hz1 hz2 rfl (by decide) _ _ _ H13.hf ⟨w10.drew.heap.size, 0, none⟩ 1 1 [.string x1, .int .i64 (x3 : Int), .int .i64 (2), .int .i64 ((sc : Int)), .string ⟨#[]⟩] rfl (cells_new _ #[.string x1, .int .i64 (x3 : Int), .int .i64 (2), .int .i64 ((sc : Int)), .string ⟨#[]⟩] _) (by intro u hu; simp at hu; rcases hu with rfl | rfl | rfl | rfl | rfl <;> rfl) (by unfold maxLen; omega) (by omega) (by have e : (w10.drew.alloc (.cells #[.string x1, .int .i64 (x3 : Int), .int .i64 (2), .int .i64 ((sc : Int)), .string ⟨#[]⟩] 90)).heap.size = w10.drew.heap.size + 1 := Array.size_push ..; rw [e]; omega)
   have k56 : Kp (fun k => vf.ownBlock = some k) (w10.drew.alloc (.cells #[.string x1, .int .i64 (x3 : Int), .int .i64 (2), .int .i64 ((sc : Int)), .string ⟨#[]⟩] 90)) w6 := (Kp.refl _ _).grown hg6 (fun k hk _ => hk)
   have hvb : ∀ k, vf.ownBlock = some k → gm + 1 ≤ k := fun k hk => (H13.hf.lt k hk).1
   have h7 : Rf w6 gp V ts (stX (pMember m (t :: r))) := H13.rf.kp k56 (fun k hk e => by have := hvb k e; omega)
   have BM7 := H13.bm.kp k56 (fun e => by have := hvb _ e; omega)
   have K7 : Kp (fun k => k = gp ∨ gm ≤ k) w w6 := H13.kp.trans2 k56 (fun k hk e => by have := hvb k e; omega)
   have HO7 : Hid (w6.ownsRow (gm + 1) 3 1 vr m.reserved.length (inRows m.reserved).flatten) := own_kpV H13.ho k56 (fun k hk e => own_apart H13.hf H13.ho (by decide) k e hk)
   obtain ⟨nA, hnA⟩ : ∃ n, m.fields.length = n := ⟨_, rfl⟩
   have HNA : Hid (m.fields.length = nA) := hnA
   rw [hnA] at ho6
   obtain ⟨va, vc, hvv⟩ := own_form ho6
   subst hvv
   have HF7 : Hid (w6.ownsRow (gm + 1) 90 5 (.slice va (nA + 1) vc) (m.fields ++ [(⟨x1, x3, 2, (sc : Int), ⟨#[]⟩⟩ : FlS)]).length (flRows (m.fields ++ [(⟨x1, x3, 2, (sc : Int), ⟨#[]⟩⟩ : FlS)])).flatten) := by
    show World.ownsRow _ _ _ _ _ _ _
    rw [flr_snoc, List.length_append, HNA.out]; exact ho6
   have mc' := BM7.cell 1
   have mf := BM7.froz 1
   simp only [List.getElem?_toArray, List.getElem?_cons_succ, List.getElem?_cons_zero] at mc'
   clear ho6 hg6 hat6 k56 hvb H13 hnA
   refine rg_run 7 79 (.slice va (nA + 1) vc) (w6) rfl rfl (by kernel_rfl) (by rfl) (listed' := #[true, true, true, true, true, true, true, true, false, false, false]) (by kernel_rfl) ?_ trivial ?_
   ·exact append_run rfl rfl rfl hrun
   simp only [List.setIfInBounds_toArray, List.set_cons_zero, List.set_cons_succ]
   clear hrun
   refine rg_run 8 80 (.pointer (some ⟨gm, 0, none⟩)) (w6) rfl rfl (by kernel_rfl) (by rfl) (listed' := #[true, true, true, true, true, true, true, true, true, false, false]) (by kernel_rfl) ?_ trivial ?_
   ·go_simp
   simp only [List.setIfInBounds_toArray, List.set_cons_zero, List.set_cons_succ]
   refine rg_run 9 81 (.pointer (some ⟨gm, 1, none⟩)) (w6) rfl rfl (by kernel_rfl) (by rfl) (listed' := #[true, true, true, true, true, true, true, true, true, true, false]) (by kernel_rfl) ?_ trivial ?_
   ·go_simp
   simp only [List.setIfInBounds_toArray, List.set_cons_zero, List.set_cons_succ]
   refine rg_store 10 (w6.setCell ⟨gm, 1, none⟩ (.slice va (nA + 1) vc)) rfl rfl (by kernel_rfl) (by rfl) (listed' := #[true, true, true, true, true, true, true, true, true, true, true]) (by kernel_rfl) ?_ trivial ?_
   ·go_simp
   refine wpAnyH_done (by kernel_rfl) ?_ _
   have k9 : Kp (fun k => k = gm) w6 (w6.setCell ⟨gm, 1, none⟩ (.slice va (nA + 1) vc)) := Kp.setCell (p := ⟨gm, 1, none⟩) (Kp.refl (fun k => k = gm) w6) (fun _ => rfl) _
   have h9 : Rf (w6.setCell ⟨gm, 1, none⟩ (.slice va (nA + 1) vc)) gp V ts (stX (pMember m (t :: r))) := h7.other hgm _
   have BM9 : Blk (w6.setCell ⟨gm, 1, none⟩ (.slice va (nA + 1) vc)) gm #[.string m.name, .slice va (nA + 1) vc, vr] 40 := BM7.set 1 _ rfl
   have K9 : Kp (fun k => k = gp ∨ gm ≤ k) w (w6.setCell ⟨gm, 1, none⟩ (.slice va (nA + 1) vc)) := K7.setCell (fun _ => .inr (Nat.le_refl _)) _
   have HO9 := own_kpH HO7 k9 (fun k hk => by omega)
   have HF9 := own_kpH HF7 k9 (fun k hk => by omega)
   clear h7 BM7 K7 HO7 HF7 k9 mc' mf
   go_wp2_with fail
   refine bodyPost_end (results_none' rfl _ _ _) rfl ?_
   exact ⟨rfl, ⟨m.name, m.fields ++ [⟨x1, x3, 2, (sc : Int), ⟨#[]⟩⟩], m.reserved⟩, _, vr, HY.out, h9, BM9, HF9.out, HO9.out, K9, by show Bd _ _ (m.fields ++ [_]).length; rw [List.length_append]; exact HBF.out, HBR.out⟩
  ·rw [y2, y3] at HFj
   simp only at HFj
   rw [y1]
   have s0 := H5.bf.cell 3
   have f0 := H5.bf.froz 3
   simp only [List.getElem?_toArray, List.getElem?_cons_succ, List.getElem?_cons_zero] at s0
   have H6 := H5.set 3 (.int .i64 0) rfl
   simp only [List.setIfInBounds_toArray, List.set_cons_zero, List.set_cons_succ] at H6
   clear y1 y2 y3 H5
   go_wp2_with fail
   clear s0 f0
   refine (pname_any H6.rf).mono ?_
   rintro e w6' ⟨rfl, h6', k6'⟩
   have H7' := H6.step k6' h6'
   clear h6' k6' H6
   generalize res noT (pOn σ1 pName) = xt at *
   generalize stX (pOn σ1 pName) = σ2 at *
   have s0 := H7'.bf.cell 4
   have f0 := H7'.bf.froz 4
   simp only [List.getElem?_toArray, List.getElem?_cons_succ, List.getElem?_cons_zero] at s0
   have HA := H7'.set 4 (.string xt) rfl
   simp only [List.setIfInBounds_toArray, List.set_cons_zero, List.set_cons_succ] at HA
   clear H7'
   have HFi : Hid (∀ v : NmS, Res (pOn σ2 pValue) v → stX (pOn σ2 pValue) = stX (pField (t :: r)) ∧ Res (pField (t :: r)) ⟨v.name, v.n, 2, 0, xt⟩) := HFj
   clear HFj
   go_wp2_with fail
   clear s0 f0
   generalize w6'.setCell ⟨Fb, 4, none⟩ (.string xt) = WA at *
   go_wp2_with fail
   refine (pname_any HA.rf).mono ?_
   rintro e w7 ⟨rfl, h7, k7⟩
   have H7 := HA.step k7 h7
   clear h7 k7 HA
   have HV : Hid (stX (pOn (stX (pOn (stX (pOn (stX (pOn σ2 pName)) (pMust kEq))) pNum)) (pMust kSemi)) = stX (pOn σ2 pValue) ∧ Res (pOn σ2 pValue) ⟨res noT (pOn σ2 pName), (res 0 (pOn (stX (pOn (stX (pOn σ2 pName)) (pMust kEq))) pNum) : Nat)⟩) := value_st σ2
   generalize res noT (pOn σ2 pName) = x1 at *
   generalize stX (pOn σ2 pName) = σ3 at *
   have s0 := H7.bf.cell 0
   have f0 := H7.bf.froz 0
   simp only [List.getElem?_toArray, List.getElem?_cons_succ, List.getElem?_cons_zero] at s0
   have H8 := H7.set 0 (.string x1) rfl
   simp only [List.setIfInBounds_toArray, List.set_cons_zero] at H8
   go_wp2_with fail
   clear s0 f0 H7
   refine (rmust_any kEq H8.rf (by decide +kernel)).mono ?_
   rintro e w8 ⟨rfl, h9, k9⟩
   have H9 := H8.step k9 h9
   clear h9 k9 H8
   generalize stX (pOn σ3 (pMust kEq)) = σ4 at *
   go_wp2_with fail
   refine (pnumber_any H9.rf).mono ?_
   rintro e w9 ⟨rfl, h10, k10⟩
   have H10 := H9.step k10 h10
   clear h10 k10 H9
   generalize (res 0 (pOn σ4 pNum) : Nat) = x3 at *
   generalize stX (pOn σ4 pNum) = σ5 at *
   have s0 := H10.bf.cell 1
   have f0 := H10.bf.froz 1
   simp only [List.getElem?_toArray, List.getElem?_cons_succ, List.getElem?_cons_zero] at s0
   have H11 := H10.set 1 (.int .i64 (x3 : Int)) rfl
   simp only [List.setIfInBounds_toArray, List.set_cons_zero, List.set_cons_succ] at H11
   go_wp2_with fail
   clear s0 f0 H10
   refine (rmust_any kSemi H11.rf (by decide +kernel)).mono ?_
   rintro e w10 ⟨rfl, h12, k12⟩
   have H12 := H11.step k12 h12
   clear h12 k12 H11
   obtain ⟨z1, z2⟩ := HFi.out ⟨x1, x3⟩ HV.out.2
   obtain ⟨y1, y2⟩ := HMem.out _ z2
   have e9 : stX (pOn σ5 (pMust kSemi)) = stX (pMember m (t :: r)) := by rw [HV.out.1, z1, y1]
   rw [e9] at H12
   have HY : Hid (Res (pMember m (t :: r)) ⟨m.name, m.fields ++ [⟨x1, x3, 2, 0, xt⟩], m.reserved⟩) := y2
   clear z1 z2 y1 y2 e9 HV HFi HMem
   have BG := H12.bm
   have BE := H12.bf
   go_wp2_with fail
   refine wp_region_held_drew (S := fun _ => True) (by kernel_rfl) trivial (fun hS => ?_)
   refine rg_take 0 72 (.pointer (some ⟨gm, 0, none⟩)) _ rfl rfl (by kernel_rfl) (by kernel_rfl) (by kernel_rfl) (fun _ _ _ h => h) (by rfl) (fun w' hw' => ?_) trivial (listed' := #[true, false, false, false, false, false, false, false, false, false, false]) (by kernel_rfl) rfl ?_
   ·go_simp
   simp only [List.setIfInBounds_toArray, List.set_cons_zero, List.set_cons_succ]
   refine rg_take 1 73 (.pointer (some ⟨gm, 0, none⟩)) _ rfl rfl (by kernel_rfl) (by kernel_rfl) (by kernel_rfl) (fun _ _ _ h => h) (by rfl) (fun w' hw' => ?_) trivial (listed' := #[true, true, false, false, false, false, false, false, false, false, false]) (by kernel_rfl) rfl ?_
   ·go_simp
   simp only [List.setIfInBounds_toArray, List.set_cons_zero, List.set_cons_succ]
   refine rg_take 2 74 (.pointer (some ⟨gm, 0, none⟩)) _ rfl rfl (by kernel_rfl) (by kernel_rfl) (by kernel_rfl) (fun _ _ _ h => h) (by rfl) (fun w' hw' => ?_) trivial (listed' := #[true, true, true, false, false, false, false, false, false, false, false]) (by kernel_rfl) rfl ?_
   ·go_simp
   simp only [List.setIfInBounds_toArray, List.set_cons_zero, List.set_cons_succ]
   refine rg_take 3 75 (.pointer (some ⟨gm, 1, none⟩)) _ rfl rfl (by kernel_rfl) (by kernel_rfl) (by kernel_rfl) (fun _ _ _ h => h) (by rfl) (fun w' hw' => ?_) trivial (listed' := #[true, true, true, true, false, false, false, false, false, false, false]) (by kernel_rfl) rfl ?_
   ·go_simp
   simp only [List.setIfInBounds_toArray, List.set_cons_zero, List.set_cons_succ]
   have BGd := BG.below (Below.refl _ _).drew
   have BEd := BE.below (Below.refl _ _).drew
   refine rg_llb 4 5 6 76 77 78 vf (.agg #[.string x1, .int .i64 (x3 : Int), .int .i64 (2), .int .i64 (0), .string xt]) (.slice (some ⟨w10.drew.heap.size, 0, none⟩) 1 1) (w10.drew.alloc (.cells #[.string x1, .int .i64 (x3 : Int), .int .i64 (2), .int .i64 (0), .string xt] 90)) rfl rfl rfl rfl rfl rfl (by kernel_rfl) (by kernel_rfl) (by kernel_rfl) (by kernel_rfl) (by kernel_rfl) (fun _ => rfl) (fun _ => rfl) (fun _ => rfl) (by decide) (by decide) (by decide) (by decide) ?g0 ?g1 ?g2 ?g3 ?g4 ?g5 ?g6 ?_
   case g0 => have hg0 := (BGd.cell 1).trans rfl; go_simp
   case g1 => have hg0 := (BGd.cell 1).trans rfl; simp only [List.setIfInBounds_toArray, List.set_cons_zero, List.set_cons_succ]; go_simp
   case g2 => have hg0 : (w10.alloc (.cells #[.string x1, .int .i64 (x3 : Int), .int .i64 (2), .int .i64 (0), .string xt] 90)).cell? ⟨gm, 1, none⟩ = some (vf) := ((BG.below ((Below.refl _ _).alloc (Nat.le_refl _) (.cells #[.string x1, .int .i64 (x3 : Int), .int .i64 (2), .int .i64 (0), .string xt] 90))).cell 1).trans rfl; simp only [List.setIfInBounds_toArray, List.set_cons_zero, List.set_cons_succ]; go_simp
   case g3 => have he0 := (BEd.cell 0).trans rfl; have he1 := (BEd.cell 1).trans rfl; have he2 := (BEd.cell 2).trans rfl; have he3 := (BEd.cell 3).trans rfl; have he4 := (BEd.cell 4).trans rfl; go_simp
   case g4 => have he0 := (BEd.cell 0).trans rfl; have he1 := (BEd.cell 1).trans rfl; have he2 := (BEd.cell 2).trans rfl; have he3 := (BEd.cell 3).trans rfl; have he4 := (BEd.cell 4).trans rfl; simp only [List.setIfInBounds_toArray, List.set_cons_zero, List.set_cons_succ]; go_simp
   case g5 => simp only [List.setIfInBounds_toArray, List.set_cons_zero, List.set_cons_succ]; go_simp
   case g6 => simp only [List.setIfInBounds_toArray, List.set_cons_zero, List.set_cons_succ]; go_simp
   simp only [List.setIfInBounds_toArray, List.set_cons_zero, List.set_cons_succ]
   have H13 := (H12.below (Below.refl _ _).drew).below ((Below.refl _ _).alloc (Nat.le_refl _) (.cells #[.string x1, .int .i64 (x3 : Int), .int .i64 (2), .int .i64 (0), .string xt] 90))
   clear H12 BG BE BGd BEd
   have hM6 : gm + 1 ≤ w10.drew.heap.size := by have := H13.bm.lt; have e : (w10.drew.alloc (.cells #[.string x1, .int .i64 (x3 : Int), .int .i64 (2), .int .i64 (0), .string xt] 90)).heap.size = w10.drew.heap.size + 1 := Array.size_push ..; have a2 := H13.g2; have a3 := H13.bf.lt; rw [e] at a3; omega
   obtain ⟨v6, w6, hrun, ho6, hg6, _, hat6⟩ := run_append_own_at (P := Tryz.prog) (w10.drew.alloc (.cells #[.string x1, .int .i64 (x3 : Int), .int .i64 (2), .int .i64 (0), .string xt] 90)) (gm + 1) 37 37 90 i0 _ 5 56 Tryz.underlying37 hi hz0 hz1 hz2 rfl (by decide) _ _ _ H13.hf ⟨w10.drew.heap.size, 0, none⟩ 1 1 [.string x1, .int .i64 (x3 : Int), .int .i64 (2), .int .i64 (0), .string xt] rfl (cells_new _ #[.string x1, .int .i64 (x3 : Int), .int .i64 (2), .int .i64 (0), .string xt] _) (by intro u hu; simp at hu; rcases hu with rfl | rfl | rfl | rfl | rfl <;> rfl) (by unfold maxLen; omega) (by omega) (by have e : (w10.drew.alloc (.cells #[.string x1, .int .i64 (x3 : Int), .int .i64 (2), .int .i64 (0), .string xt] 90)).heap.size = w10.drew.heap.size + 1 := Array.size_push ..; rw [e]; omega)
   have k56 : Kp (fun k => vf.ownBlock = some k) (w10.drew.alloc (.cells #[.string x1, .int .i64 (x3 : Int), .int .i64 (2), .int .i64 (0), .string xt] 90)) w6 := (Kp.refl _ _).grown hg6 (fun k hk _ => hk)
   have hvb : ∀ k, vf.ownBlock = some k → gm + 1 ≤ k := fun k hk => (H13.hf.lt k hk).1
   have h7 : Rf w6 gp V ts (stX (pMember m (t :: r))) := H13.rf.kp k56 (fun k hk e => by have := hvb k e; omega)
   have BM7 := H13.bm.kp k56 (fun e => by have := hvb _ e; omega)
   have K7 : Kp (fun k => k = gp ∨ gm ≤ k) w w6 := H13.kp.trans2 k56 (fun k hk e => by have := hvb k e; omega)
   have HO7 : Hid (w6.ownsRow (gm + 1) 3 1 vr m.reserved.length (inRows m.reserved).flatten) := own_kpV H13.ho k56 (fun k hk e => own_apart H13.hf H13.ho (by decide) k e hk)
   obtain ⟨nA, hnA⟩ : ∃ n, m.fields.length = n := ⟨_, rfl⟩
   have HNA : Hid (m.fields.length = nA) := hnA
   rw [hnA] at ho6
   obtain ⟨va, vc, hvv⟩ := own_form ho6
   subst hvv
   have HF7 : Hid (w6.ownsRow (gm + 1) 90 5 (.slice va (nA + 1) vc) (m.fields ++ [(⟨x1, x3, 2, 0, xt⟩ : FlS)]).length (flRows (m.fields ++ [(⟨x1, x3, 2, 0, xt⟩ : FlS)])).flatten) := by
    show World.ownsRow _ _ _ _ _ _ _
    rw [flr_snoc, List.length_append, HNA.out]; exact ho6
   have mc' := BM7.cell 1
   have mf := BM7.froz 1
   simp only [List.getElem?_toArray, List.getElem?_cons_succ, List.getElem?_cons_zero] at mc'
   clear ho6 hg6 hat6 k56 hvb H13 hnA
   refine rg_run 7 79 (.slice va (nA + 1) vc) (w6) rfl rfl (by kernel_rfl) (by rfl) (listed' := #[true, true, true, true, true, true, true, true, false, false, false]) (by kernel_rfl) ?_ trivial ?_
   ·exact append_run rfl rfl rfl hrun
   simp only [List.setIfInBounds_toArray, List.set_cons_zero, List.set_cons_succ]
   clear hrun
   refine rg_run 8 80 (.pointer (some ⟨gm, 0, none⟩)) (w6) rfl rfl (by kernel_rfl) (by rfl) (listed' := #[true, true, true, true, true, true, true, true, true, false, false]) (by kernel_rfl) ?_ trivial ?_
   ·go_simp
   simp only [List.setIfInBounds_toArray, List.set_cons_zero, List.set_cons_succ]
   refine rg_run 9 81 (.pointer (some ⟨gm, 1, none⟩)) (w6) rfl rfl (by kernel_rfl) (by rfl) (listed' := #[true, true, true, true, true, true, true, true, true, true, false]) (by kernel_rfl) ?_ trivial ?_
   ·go_simp
   simp only [List.setIfInBounds_toArray, List.set_cons_zero, List.set_cons_succ]
   refine rg_store 10 (w6.setCell ⟨gm, 1, none⟩ (.slice va (nA + 1) vc)) rfl rfl (by kernel_rfl) (by rfl) (listed' := #[true, true, true, true, true, true, true, true, true, true, true]) (by kernel_rfl) ?_ trivial ?_
   ·go_simp
   refine wpAnyH_done (by kernel_rfl) ?_ _
   have k9 : Kp (fun k => k = gm) w6 (w6.setCell ⟨gm, 1, none⟩ (.slice va (nA + 1) vc)) := Kp.setCell (p := ⟨gm, 1, none⟩) (Kp.refl (fun k => k = gm) w6) (fun _ => rfl) _
   have h9 : Rf (w6.setCell ⟨gm, 1, none⟩ (.slice va (nA + 1) vc)) gp V ts (stX (pMember m (t :: r))) := h7.other hgm _
   have BM9 : Blk (w6.setCell ⟨gm, 1, none⟩ (.slice va (nA + 1) vc)) gm #[.string m.name, .slice va (nA + 1) vc, vr] 40 := BM7.set 1 _ rfl
   have K9 : Kp (fun k => k = gp ∨ gm ≤ k) w (w6.setCell ⟨gm, 1, none⟩ (.slice va (nA + 1) vc)) := K7.setCell (fun _ => .inr (Nat.le_refl _)) _
   have HO9 := own_kpH HO7 k9 (fun k hk => by omega)
   have HF9 := own_kpH HF7 k9 (fun k hk => by omega)
   clear h7 BM7 K7 HO7 HF7 k9 mc' mf
   go_wp2_with fail
   refine bodyPost_end (results_none' rfl _ _ _) rfl ?_
   exact ⟨rfl, ⟨m.name, m.fields ++ [⟨x1, x3, 2, 0, xt⟩], m.reserved⟩, _, vr, HY.out, h9, BM9, HF9.out, HO9.out, K9, by show Bd _ _ (m.fields ++ [_]).length; rw [List.length_append]; exact HBF.out, HBR.out⟩
 ·have HE1 : Hid (stX (pOn (.inr (t :: r)) (pTake [kOptional])) = .inr (t :: r) ∧ anyS [kOptional] (headS (.inr (t :: r))) = false) := ⟨lb', la⟩
  have HE2 : Hid (stX (pOn (.inr (t :: r)) (pTake [kRepeated])) = .inr r ∧ anyS [kRepeated] (headS (.inr (t :: r))) = true) := ⟨mb, ma⟩
  have HFj : Hid (∀ v : NmS, Res (pOn (stX (pOn (.inr r) pType)) pValue) v → stX (pOn (stX (pOn (.inr r) pType)) pValue) = stX (pField (t :: r)) ∧ Res (pField (t :: r)) ⟨v.name, v.n, 3, (res (0, noT) (pOn (.inr r) pType)).1, (res (0, noT) (pOn (.inr r) pType)).2⟩) := by
   have := HFst.out
   have e1 : stX (pOn (.inr (t :: r)) pLab) = .inr r := by simp only [pOn, pLab, mc, stX]
   have e2 : res 1 (pOn (.inr (t :: r)) pLab) = 3 := by simp only [pOn, pLab, mc, res]
   rw [e1, e2] at this
   exact this
  clear la lb' ma mb mc HFst
  go_wp2_with fail
  generalize w1.heap.size = Fb at *
  refine (ris_any kOptional H2.rf (by decide +kernel)).mono ?_
  rintro e w2 ⟨rfl, h3, k3⟩
  rw [HE1.out.1] at h3
  rw [HE1.out.2]
  have H3 := H2.step k3 h3
  clear h3 k3 H2 HE1
  go_wp2_with fail
  refine (ris_any kRepeated H3.rf (by decide +kernel)).mono ?_
  rintro e w3 ⟨rfl, h3, k3⟩
  rw [HE2.out.1] at h3
  rw [HE2.out.2]
  have H3' := H3.step k3 h3
  clear h3 k3 H3 HE2
  have s0 := H3'.bf.cell 2
  have f0 := H3'.bf.froz 2
  simp only [List.getElem?_toArray, List.getElem?_cons_succ, List.getElem?_cons_zero] at s0
  have HL := H3'.set 2 (.int .i64 3) rfl
  simp only [List.setIfInBounds_toArray, List.set_cons_zero, List.set_cons_succ] at HL
  clear H3'
  go_wp2_with fail
  clear s0 f0
  generalize (.inr r : Sg) = σ1 at *
  generalize w3.setCell ⟨Fb, 2, none⟩ (.int .i64 3) = WL at *
  go_wp2_with fail
  refine (rtext_any HL.rf).mono ?_
  rintro e w4 ⟨rfl, hb4⟩
  have H4 := HL.below hb4
  clear hb4 HL
  go_wp2_with fail
  refine (rscalar_any _ _).mono ?_
  rintro e w5 ⟨rfl, hb5⟩
  have H5 := H4.below hb5
  clear hb5 H4
  rcases type_cases σ1 with ⟨t2, r2, rfl, y1, y2⟩ | ⟨y1, y2, y3⟩
  ·rw [y2] at HFj
   simp only [stX, res] at HFj
   simp only [headS]
   have s0 := H5.bf.cell 3
   have f0 := H5.bf.froz 3
   simp only [List.getElem?_toArray, List.getElem?_cons_succ, List.getElem?_cons_zero] at s0
   have H6 := H5.set 3 (.int .i64 ((scalN t2 : Nat) : Int)) rfl
   simp only [List.setIfInBounds_toArray, List.set_cons_zero, List.set_cons_succ] at H6
   generalize scalN t2 = sc at *
   clear y2
   obtain ⟨n, hn, hm, c0, c1, c3, f1, f3⟩ := H6.rf.open
   have hn' := hn
   simp only [leftS, List.length_cons] at hn'
   have hn2 : n < 9223372036854775807 := by omega
   have HR : Hid (∀ u : Value, u = .int .i64 ((n + 1 : Nat) : Int) → Rf ((w5.setCell ⟨Fb, 3, none⟩ (.int .i64 (sc : Int))).setCell ⟨gp, 1, none⟩ u) gp V ts (.inr r2)) := fun u hu => H6.rf.next hn hu
   have hgpF : gp < Fb := by have := H6.g1; have := H6.g2; omega
   clear hn hn' hm c0 c3 f3 H5
   go_wp2_with fail
   have HA := H6.step (Kp.setCell (p := ⟨gp, 1, none⟩) (Kp.refl (fun k => k = gp) _) (fun _ => rfl) (.int .i64 ((n : Int) + 1))) (HR.out _ rfl)
   clear s0 f0 c1 f1 HR H6
   have HFi : Hid (∀ v : NmS, Res (pOn (.inr r2) pValue) v → stX (pOn (.inr r2) pValue) = stX (pField (t :: r)) ∧ Res (pField (t :: r)) ⟨v.name, v.n, 3, (sc : Int), noT⟩) := HFj
   clear HFj
   simp only [noT] at HFi
   generalize (.inr r2 : Sg) = σ2 at *
   generalize (w5.setCell ⟨Fb, 3, none⟩ (.int .i64 (sc : Int))).setCell ⟨gp, 1, none⟩ (.int .i64 ((n : Int) + 1)) = WA at *
   go_wp2_with fail
   refine (pname_any HA.rf).mono ?_
   rintro e w7 ⟨rfl, h7, k7⟩
   have H7 := HA.step k7 h7
   clear h7 k7 HA
   have HV : Hid (stX (pOn (stX (pOn (stX (pOn (stX (pOn σ2 pName)) (pMust kEq))) pNum)) (pMust kSemi)) = stX (pOn σ2 pValue) ∧ Res (pOn σ2 pValue) ⟨res noT (pOn σ2 pName), (res 0 (pOn (stX (pOn (stX (pOn σ2 pName)) (pMust kEq))) pNum) : Nat)⟩) := value_st σ2
   generalize res noT (pOn σ2 pName) = x1 at *
   generalize stX (pOn σ2 pName) = σ3 at *
   have s0 := H7.bf.cell 0
   have f0 := H7.bf.froz 0
   simp only [List.getElem?_toArray, List.getElem?_cons_succ, List.getElem?_cons_zero] at s0
   have H8 := H7.set 0 (.string x1) rfl
   simp only [List.setIfInBounds_toArray, List.set_cons_zero] at H8
   go_wp2_with fail
   clear s0 f0 H7
   refine (rmust_any kEq H8.rf (by decide +kernel)).mono ?_
   rintro e w8 ⟨rfl, h9, k9⟩
   have H9 := H8.step k9 h9
   clear h9 k9 H8
   generalize stX (pOn σ3 (pMust kEq)) = σ4 at *
   go_wp2_with fail
   refine (pnumber_any H9.rf).mono ?_
   rintro e w9 ⟨rfl, h10, k10⟩
   have H10 := H9.step k10 h10
   clear h10 k10 H9
   generalize (res 0 (pOn σ4 pNum) : Nat) = x3 at *
   generalize stX (pOn σ4 pNum) = σ5 at *
   have s0 := H10.bf.cell 1
   have f0 := H10.bf.froz 1
   simp only [List.getElem?_toArray, List.getElem?_cons_succ, List.getElem?_cons_zero] at s0
   have H11 := H10.set 1 (.int .i64 (x3 : Int)) rfl
   simp only [List.setIfInBounds_toArray, List.set_cons_zero, List.set_cons_succ] at H11
   go_wp2_with fail
   clear s0 f0 H10
   refine (rmust_any kSemi H11.rf (by decide +kernel)).mono ?_
   rintro e w10 ⟨rfl, h12, k12⟩
   have H12 := H11.step k12 h12
   clear h12 k12 H11
   obtain ⟨z1, z2⟩ := HFi.out ⟨x1, x3⟩ HV.out.2
   obtain ⟨y1, y2⟩ := HMem.out _ z2
   have e9 : stX (pOn σ5 (pMust kSemi)) = stX (pMember m (t :: r)) := by rw [HV.out.1, z1, y1]
   rw [e9] at H12
   have HY : Hid (Res (pMember m (t :: r)) ⟨m.name, m.fields ++ [⟨x1, x3, 3, (sc : Int), ⟨#[]⟩⟩], m.reserved⟩) := y2
   clear z1 z2 y1 y2 e9 HV HFi HMem
   have BG := H12.bm
   have BE := H12.bf
   go_wp2_with fail
   refine wp_region_held_drew (S := fun _ => True) (by kernel_rfl) trivial (fun hS => ?_)
   refine rg_take 0 72 (.pointer (some ⟨gm, 0, none⟩)) _ rfl rfl (by kernel_rfl) (by kernel_rfl) (by kernel_rfl) (fun _ _ _ h => h) (by rfl) (fun w' hw' => ?_) trivial (listed' := #[true, false, false, false, false, false, false, false, false, false, false]) (by kernel_rfl) rfl ?_
   ·go_simp
   simp only [List.setIfInBounds_toArray, List.set_cons_zero, List.set_cons_succ]
   refine rg_take 1 73 (.pointer (some ⟨gm, 0, none⟩)) _ rfl rfl (by kernel_rfl) (by kernel_rfl) (by kernel_rfl) (fun _ _ _ h => h) (by rfl) (fun w' hw' => ?_) trivial (listed' := #[true, true, false, false, false, false, false, false, false, false, false]) (by kernel_rfl) rfl ?_
   ·go_simp
   simp only [List.setIfInBounds_toArray, List.set_cons_zero, List.set_cons_succ]
   refine rg_take 2 74 (.pointer (some ⟨gm, 0, none⟩)) _ rfl rfl (by kernel_rfl) (by kernel_rfl) (by kernel_rfl) (fun _ _ _ h => h) (by rfl) (fun w' hw' => ?_) trivial (listed' := #[true, true, true, false, false, false, false, false, false, false, false]) (by kernel_rfl) rfl ?_
   ·go_simp
   simp only [List.setIfInBounds_toArray, List.set_cons_zero, List.set_cons_succ]
   refine rg_take 3 75 (.pointer (some ⟨gm, 1, none⟩)) _ rfl rfl (by kernel_rfl) (by kernel_rfl) (by kernel_rfl) (fun _ _ _ h => h) (by rfl) (fun w' hw' => ?_) trivial (listed' := #[true, true, true, true, false, false, false, false, false, false, false]) (by kernel_rfl) rfl ?_
   ·go_simp
   simp only [List.setIfInBounds_toArray, List.set_cons_zero, List.set_cons_succ]
   have BGd := BG.below (Below.refl _ _).drew
   have BEd := BE.below (Below.refl _ _).drew
   refine rg_llb 4 5 6 76 77 78 vf (.agg #[.string x1, .int .i64 (x3 : Int), .int .i64 (3), .int .i64 ((sc : Int)), .string ⟨#[]⟩]) (.slice (some ⟨w10.drew.heap.size, 0, none⟩) 1 1) (w10.drew.alloc (.cells #[.string x1, .int .i64 (x3 : Int), .int .i64 (3), .int .i64 ((sc : Int)), .string ⟨#[]⟩] 90)) rfl rfl rfl rfl rfl rfl (by kernel_rfl) (by kernel_rfl) (by kernel_rfl) (by kernel_rfl) (by kernel_rfl) (fun _ => rfl) (fun _ => rfl) (fun _ => rfl) (by decide) (by decide) (by decide) (by decide) ?g0 ?g1 ?g2 ?g3 ?g4 ?g5 ?g6 ?_
   case g0 => have hg0 := (BGd.cell 1).trans rfl; go_simp
   case g1 => have hg0 := (BGd.cell 1).trans rfl; simp only [List.setIfInBounds_toArray, List.set_cons_zero, List.set_cons_succ]; go_simp
   case g2 => have hg0 : (w10.alloc (.cells #[.string x1, .int .i64 (x3 : Int), .int .i64 (3), .int .i64 ((sc : Int)), .string ⟨#[]⟩] 90)).cell? ⟨gm, 1, none⟩ = some (vf) := ((BG.below ((Below.refl _ _).alloc (Nat.le_refl _) (.cells #[.string x1, .int .i64 (x3 : Int), .int .i64 (3), .int .i64 ((sc : Int)), .string ⟨#[]⟩] 90))).cell 1).trans rfl; simp only [List.setIfInBounds_toArray, List.set_cons_zero, List.set_cons_succ]; go_simp
   case g3 => have he0 := (BEd.cell 0).trans rfl; have he1 := (BEd.cell 1).trans rfl; have he2 := (BEd.cell 2).trans rfl; have he3 := (BEd.cell 3).trans rfl; have he4 := (BEd.cell 4).trans rfl; go_simp
   case g4 => have he0 := (BEd.cell 0).trans rfl; have he1 := (BEd.cell 1).trans rfl; have he2 := (BEd.cell 2).trans rfl; have he3 := (BEd.cell 3).trans rfl; have he4 := (BEd.cell 4).trans rfl; simp only [List.setIfInBounds_toArray, List.set_cons_zero, List.set_cons_succ]; go_simp
   case g5 => simp only [List.setIfInBounds_toArray, List.set_cons_zero, List.set_cons_succ]; go_simp
   case g6 => simp only [List.setIfInBounds_toArray, List.set_cons_zero, List.set_cons_succ]; go_simp
   simp only [List.setIfInBounds_toArray, List.set_cons_zero, List.set_cons_succ]
   have H13 := (H12.below (Below.refl _ _).drew).below ((Below.refl _ _).alloc (Nat.le_refl _) (.cells #[.string x1, .int .i64 (x3 : Int), .int .i64 (3), .int .i64 ((sc : Int)), .string ⟨#[]⟩] 90))
   clear H12 BG BE BGd BEd
   have hM6 : gm + 1 ≤ w10.drew.heap.size := by have := H13.bm.lt; have e : (w10.drew.alloc (.cells #[.string x1, .int .i64 (x3 : Int), .int .i64 (3), .int .i64 ((sc : Int)), .string ⟨#[]⟩] 90)).heap.size = w10.drew.heap.size + 1 := Array.size_push ..; have a2 := H13.g2; have a3 := H13.bf.lt; rw [e] at a3; omega
   obtain ⟨v6, w6, hrun, ho6, hg6, _, hat6⟩ := run_append_own_at (P := Tryz.prog) (w10.drew.alloc (.cells #[.string x1, .int .i64 (x3 : Int), .int .i64 (3), .int .i64 ((sc : Int)), .string ⟨#[]⟩] 90)) (gm + 1) 37 37 90 i0 _ 5 56 Tryz.underlying37 hi hz0 hz1 hz2 rfl (by decide) _ _ _ H13.hf ⟨w10.drew.heap.size, 0, none⟩ 1 1 [.string x1, .int .i64 (x3 : Int), .int .i64 (3), .int .i64 ((sc : Int)), .string ⟨#[]⟩] rfl (cells_new _ #[.string x1, .int .i64 (x3 : Int), .int .i64 (3), .int .i64 ((sc : Int)), .string ⟨#[]⟩] _) (by intro u hu; simp at hu; rcases hu with rfl | rfl | rfl | rfl | rfl <;> rfl) (by unfold maxLen; omega) (by omega) (by have e : (w10.drew.alloc (.cells #[.string x1, .int .i64 (x3 : Int), .int .i64 (3), .int .i64 ((sc : Int)), .string ⟨#[]⟩] 90)).heap.size = w10.drew.heap.size + 1 := Array.size_push ..; rw [e]; omega)
   have k56 : Kp (fun k => vf.ownBlock = some k) (w10.drew.alloc (.cells #[.string x1, .int .i64 (x3 : Int), .int .i64 (3), .int .i64 ((sc : Int)), .string ⟨#[]⟩] 90)) w6 := (Kp.refl _ _).grown hg6 (fun k hk _ => hk)
   have hvb : ∀ k, vf.ownBlock = some k → gm + 1 ≤ k := fun k hk => (H13.hf.lt k hk).1
   have h7 : Rf w6 gp V ts (stX (pMember m (t :: r))) := H13.rf.kp k56 (fun k hk e => by have := hvb k e; omega)
   have BM7 := H13.bm.kp k56 (fun e => by have := hvb _ e; omega)
   have K7 : Kp (fun k => k = gp ∨ gm ≤ k) w w6 := H13.kp.trans2 k56 (fun k hk e => by have := hvb k e; omega)
   have HO7 : Hid (w6.ownsRow (gm + 1) 3 1 vr m.reserved.length (inRows m.reserved).flatten) := own_kpV H13.ho k56 (fun k hk e => own_apart H13.hf H13.ho (by decide) k e hk)
   obtain ⟨nA, hnA⟩ : ∃ n, m.fields.length = n := ⟨_, rfl⟩
   have HNA : Hid (m.fields.length = nA) := hnA
   rw [hnA] at ho6
   obtain ⟨va, vc, hvv⟩ := own_form ho6
   subst hvv
   have HF7 : Hid (w6.ownsRow (gm + 1) 90 5 (.slice va (nA + 1) vc) (m.fields ++ [(⟨x1, x3, 3, (sc : Int), ⟨#[]⟩⟩ : FlS)]).length (flRows (m.fields ++ [(⟨x1, x3, 3, (sc : Int), ⟨#[]⟩⟩ : FlS)])).flatten) := by
    show World.ownsRow _ _ _ _ _ _ _
    rw [flr_snoc, List.length_append, HNA.out]; exact ho6
   have mc' := BM7.cell 1
   have mf := BM7.froz 1
   simp only [List.getElem?_toArray, List.getElem?_cons_succ, List.getElem?_cons_zero] at mc'
   clear ho6 hg6 hat6 k56 hvb H13 hnA
   refine rg_run 7 79 (.slice va (nA + 1) vc) (w6) rfl rfl (by kernel_rfl) (by rfl) (listed' := #[true, true, true, true, true, true, true, true, false, false, false]) (by kernel_rfl) ?_ trivial ?_
   ·exact append_run rfl rfl rfl hrun
   simp only [List.setIfInBounds_toArray, List.set_cons_zero, List.set_cons_succ]
   clear hrun
   refine rg_run 8 80 (.pointer (some ⟨gm, 0, none⟩)) (w6) rfl rfl (by kernel_rfl) (by rfl) (listed' := #[true, true, true, true, true, true, true, true, true, false, false]) (by kernel_rfl) ?_ trivial ?_
   ·go_simp
   simp only [List.setIfInBounds_toArray, List.set_cons_zero, List.set_cons_succ]
   refine rg_run 9 81 (.pointer (some ⟨gm, 1, none⟩)) (w6) rfl rfl (by kernel_rfl) (by rfl) (listed' := #[true, true, true, true, true, true, true, true, true, true, false]) (by kernel_rfl) ?_ trivial ?_
   ·go_simp
   simp only [List.setIfInBounds_toArray, List.set_cons_zero, List.set_cons_succ]
   refine rg_store 10 (w6.setCell ⟨gm, 1, none⟩ (.slice va (nA + 1) vc)) rfl rfl (by kernel_rfl) (by rfl) (listed' := #[true, true, true, true, true, true, true, true, true, true, true]) (by kernel_rfl) ?_ trivial ?_
   ·go_simp
   refine wpAnyH_done (by kernel_rfl) ?_ _
   have k9 : Kp (fun k => k = gm) w6 (w6.setCell ⟨gm, 1, none⟩ (.slice va (nA + 1) vc)) := Kp.setCell (p := ⟨gm, 1, none⟩) (Kp.refl (fun k => k = gm) w6) (fun _ => rfl) _
   have h9 : Rf (w6.setCell ⟨gm, 1, none⟩ (.slice va (nA + 1) vc)) gp V ts (stX (pMember m (t :: r))) := h7.other hgm _
   have BM9 : Blk (w6.setCell ⟨gm, 1, none⟩ (.slice va (nA + 1) vc)) gm #[.string m.name, .slice va (nA + 1) vc, vr] 40 := BM7.set 1 _ rfl
   have K9 : Kp (fun k => k = gp ∨ gm ≤ k) w (w6.setCell ⟨gm, 1, none⟩ (.slice va (nA + 1) vc)) := K7.setCell (fun _ => .inr (Nat.le_refl _)) _
   have HO9 := own_kpH HO7 k9 (fun k hk => by omega)
   have HF9 := own_kpH HF7 k9 (fun k hk => by omega)
   clear h7 BM7 K7 HO7 HF7 k9 mc' mf
   go_wp2_with fail
   refine bodyPost_end (results_none' rfl _ _ _) rfl ?_
   exact ⟨rfl, ⟨m.name, m.fields ++ [⟨x1, x3, 3, (sc : Int), ⟨#[]⟩⟩], m.reserved⟩, _, vr, HY.out, h9, BM9, HF9.out, HO9.out, K9, by show Bd _ _ (m.fields ++ [_]).length; rw [List.length_append]; exact HBF.out, HBR.out⟩
  ·rw [y2, y3] at HFj
   simp only at HFj
   rw [y1]
   have s0 := H5.bf.cell 3
   have f0 := H5.bf.froz 3
   simp only [List.getElem?_toArray, List.getElem?_cons_succ, List.getElem?_cons_zero] at s0
   have H6 := H5.set 3 (.int .i64 0) rfl
   simp only [List.setIfInBounds_toArray, List.set_cons_zero, List.set_cons_succ] at H6
   clear y1 y2 y3 H5
   go_wp2_with fail
   clear s0 f0
   refine (pname_any H6.rf).mono ?_
   rintro e w6' ⟨rfl, h6', k6'⟩
   have H7' := H6.step k6' h6'
   clear h6' k6' H6
   generalize res noT (pOn σ1 pName) = xt at *
   generalize stX (pOn σ1 pName) = σ2 at *
   have s0 := H7'.bf.cell 4
   have f0 := H7'.bf.froz 4
   simp only [List.getElem?_toArray, List.getElem?_cons_succ, List.getElem?_cons_zero] at s0
   have HA := H7'.set 4 (.string xt) rfl
   simp only [List.setIfInBounds_toArray, List.set_cons_zero, List.set_cons_succ] at HA
   clear H7'
   have HFi : Hid (∀ v : NmS, Res (pOn σ2 pValue) v → stX (pOn σ2 pValue) = stX (pField (t :: r)) ∧ Res (pField (t :: r)) ⟨v.name, v.n, 3, 0, xt⟩) := HFj
   clear HFj
   go_wp2_with fail
   clear s0 f0
   generalize w6'.setCell ⟨Fb, 4, none⟩ (.string xt) = WA at *
   go_wp2_with fail
   refine (pname_any HA.rf).mono ?_
   rintro e w7 ⟨rfl, h7, k7⟩
   have H7 := HA.step k7 h7
   clear h7 k7 HA
   have HV : Hid (stX (pOn (stX (pOn (stX (pOn (stX (pOn σ2 pName)) (pMust kEq))) pNum)) (pMust kSemi)) = stX (pOn σ2 pValue) ∧ Res (pOn σ2 pValue) ⟨res noT (pOn σ2 pName), (res 0 (pOn (stX (pOn (stX (pOn σ2 pName)) (pMust kEq))) pNum) : Nat)⟩) := value_st σ2
   generalize res noT (pOn σ2 pName) = x1 at *
   generalize stX (pOn σ2 pName) = σ3 at *
   have s0 := H7.bf.cell 0
   have f0 := H7.bf.froz 0
   simp only [List.getElem?_toArray, List.getElem?_cons_succ, List.getElem?_cons_zero] at s0
   have H8 := H7.set 0 (.string x1) rfl
   simp only [List.setIfInBounds_toArray, List.set_cons_zero] at H8
   go_wp2_with fail
   clear s0 f0 H7
   refine (rmust_any kEq H8.rf (by decide +kernel)).mono ?_
   rintro e w8 ⟨rfl, h9, k9⟩
   have H9 := H8.step k9 h9
   clear h9 k9 H8
   generalize stX (pOn σ3 (pMust kEq)) = σ4 at *
   go_wp2_with fail
   refine (pnumber_any H9.rf).mono ?_
   rintro e w9 ⟨rfl, h10, k10⟩
   have H10 := H9.step k10 h10
   clear h10 k10 H9
   generalize (res 0 (pOn σ4 pNum) : Nat) = x3 at *
   generalize stX (pOn σ4 pNum) = σ5 at *
   have s0 := H10.bf.cell 1
   have f0 := H10.bf.froz 1
   simp only [List.getElem?_toArray, List.getElem?_cons_succ, List.getElem?_cons_zero] at s0
   have H11 := H10.set 1 (.int .i64 (x3 : Int)) rfl
   simp only [List.setIfInBounds_toArray, List.set_cons_zero, List.set_cons_succ] at H11
   go_wp2_with fail
   clear s0 f0 H10
   refine (rmust_any kSemi H11.rf (by decide +kernel)).mono ?_
   rintro e w10 ⟨rfl, h12, k12⟩
   have H12 := H11.step k12 h12
   clear h12 k12 H11
   obtain ⟨z1, z2⟩ := HFi.out ⟨x1, x3⟩ HV.out.2
   obtain ⟨y1, y2⟩ := HMem.out _ z2
   have e9 : stX (pOn σ5 (pMust kSemi)) = stX (pMember m (t :: r)) := by rw [HV.out.1, z1, y1]
   rw [e9] at H12
   have HY : Hid (Res (pMember m (t :: r)) ⟨m.name, m.fields ++ [⟨x1, x3, 3, 0, xt⟩], m.reserved⟩) := y2
   clear z1 z2 y1 y2 e9 HV HFi HMem
   have BG := H12.bm
   have BE := H12.bf
   go_wp2_with fail
   refine wp_region_held_drew (S := fun _ => True) (by kernel_rfl) trivial (fun hS => ?_)
   refine rg_take 0 72 (.pointer (some ⟨gm, 0, none⟩)) _ rfl rfl (by kernel_rfl) (by kernel_rfl) (by kernel_rfl) (fun _ _ _ h => h) (by rfl) (fun w' hw' => ?_) trivial (listed' := #[true, false, false, false, false, false, false, false, false, false, false]) (by kernel_rfl) rfl ?_
   ·go_simp
   simp only [List.setIfInBounds_toArray, List.set_cons_zero, List.set_cons_succ]
   refine rg_take 1 73 (.pointer (some ⟨gm, 0, none⟩)) _ rfl rfl (by kernel_rfl) (by kernel_rfl) (by kernel_rfl) (fun _ _ _ h => h) (by rfl) (fun w' hw' => ?_) trivial (listed' := #[true, true, false, false, false, false, false, false, false, false, false]) (by kernel_rfl) rfl ?_
   ·go_simp
   simp only [List.setIfInBounds_toArray, List.set_cons_zero, List.set_cons_succ]
   refine rg_take 2 74 (.pointer (some ⟨gm, 0, none⟩)) _ rfl rfl (by kernel_rfl) (by kernel_rfl) (by kernel_rfl) (fun _ _ _ h => h) (by rfl) (fun w' hw' => ?_) trivial (listed' := #[true, true, true, false, false, false, false, false, false, false, false]) (by kernel_rfl) rfl ?_
   ·go_simp
   simp only [List.setIfInBounds_toArray, List.set_cons_zero, List.set_cons_succ]
   refine rg_take 3 75 (.pointer (some ⟨gm, 1, none⟩)) _ rfl rfl (by kernel_rfl) (by kernel_rfl) (by kernel_rfl) (fun _ _ _ h => h) (by rfl) (fun w' hw' => ?_) trivial (listed' := #[true, true, true, true, false, false, false, false, false, false, false]) (by kernel_rfl) rfl ?_
   ·go_simp
   simp only [List.setIfInBounds_toArray, List.set_cons_zero, List.set_cons_succ]
   have BGd := BG.below (Below.refl _ _).drew
   have BEd := BE.below (Below.refl _ _).drew
   refine rg_llb 4 5 6 76 77 78 vf (.agg #[.string x1, .int .i64 (x3 : Int), .int .i64 (3), .int .i64 (0), .string xt]) (.slice (some ⟨w10.drew.heap.size, 0, none⟩) 1 1) (w10.drew.alloc (.cells #[.string x1, .int .i64 (x3 : Int), .int .i64 (3), .int .i64 (0), .string xt] 90)) rfl rfl rfl rfl rfl rfl (by kernel_rfl) (by kernel_rfl) (by kernel_rfl) (by kernel_rfl) (by kernel_rfl) (fun _ => rfl) (fun _ => rfl) (fun _ => rfl) (by decide) (by decide) (by decide) (by decide) ?g0 ?g1 ?g2 ?g3 ?g4 ?g5 ?g6 ?_
   case g0 => have hg0 := (BGd.cell 1).trans rfl; go_simp
   case g1 => have hg0 := (BGd.cell 1).trans rfl; simp only [List.setIfInBounds_toArray, List.set_cons_zero, List.set_cons_succ]; go_simp
   case g2 => have hg0 : (w10.alloc (.cells #[.string x1, .int .i64 (x3 : Int), .int .i64 (3), .int .i64 (0), .string xt] 90)).cell? ⟨gm, 1, none⟩ = some (vf) := ((BG.below ((Below.refl _ _).alloc (Nat.le_refl _) (.cells #[.string x1, .int .i64 (x3 : Int), .int .i64 (3), .int .i64 (0), .string xt] 90))).cell 1).trans rfl; simp only [List.setIfInBounds_toArray, List.set_cons_zero, List.set_cons_succ]; go_simp
   case g3 => have he0 := (BEd.cell 0).trans rfl; have he1 := (BEd.cell 1).trans rfl; have he2 := (BEd.cell 2).trans rfl; have he3 := (BEd.cell 3).trans rfl; have he4 := (BEd.cell 4).trans rfl; go_simp
   case g4 => have he0 := (BEd.cell 0).trans rfl; have he1 := (BEd.cell 1).trans rfl; have he2 := (BEd.cell 2).trans rfl; have he3 := (BEd.cell 3).trans rfl; have he4 := (BEd.cell 4).trans rfl; simp only [List.setIfInBounds_toArray, List.set_cons_zero, List.set_cons_succ]; go_simp
   case g5 => simp only [List.setIfInBounds_toArray, List.set_cons_zero, List.set_cons_succ]; go_simp
   case g6 => simp only [List.setIfInBounds_toArray, List.set_cons_zero, List.set_cons_succ]; go_simp
   simp only [List.setIfInBounds_toArray, List.set_cons_zero, List.set_cons_succ]
   have H13 := (H12.below (Below.refl _ _).drew).below ((Below.refl _ _).alloc (Nat.le_refl _) (.cells #[.string x1, .int .i64 (x3 : Int), .int .i64 (3), .int .i64 (0), .string xt] 90))
   clear H12 BG BE BGd BEd
   have hM6 : gm + 1 ≤ w10.drew.heap.size := by have := H13.bm.lt; have e : (w10.drew.alloc (.cells #[.string x1, .int .i64 (x3 : Int), .int .i64 (3), .int .i64 (0), .string xt] 90)).heap.size = w10.drew.heap.size + 1 := Array.size_push ..; have a2 := H13.g2; have a3 := H13.bf.lt; rw [e] at a3; omega
   obtain ⟨v6, w6, hrun, ho6, hg6, _, hat6⟩ := run_append_own_at (P := Tryz.prog) (w10.drew.alloc (.cells #[.string x1, .int .i64 (x3 : Int), .int .i64 (3), .int .i64 (0), .string xt] 90)) (gm + 1) 37 37 90 i0 _ 5 56 Tryz.underlying37 hi hz0 hz1 hz2 rfl (by decide) _ _ _ H13.hf ⟨w10.drew.heap.size, 0, none⟩ 1 1 [.string x1, .int .i64 (x3 : Int), .int .i64 (3), .int .i64 (0), .string xt] rfl (cells_new _ #[.string x1, .int .i64 (x3 : Int), .int .i64 (3), .int .i64 (0), .string xt] _) (by intro u hu; simp at hu; rcases hu with rfl | rfl | rfl | rfl | rfl <;> rfl) (by unfold maxLen; omega) (by omega) (by have e : (w10.drew.alloc (.cells #[.string x1, .int .i64 (x3 : Int), .int .i64 (3), .int .i64 (0), .string xt] 90)).heap.size = w10.drew.heap.size + 1 := Array.size_push ..; rw [e]; omega)
   have k56 : Kp (fun k => vf.ownBlock = some k) (w10.drew.alloc (.cells #[.string x1, .int .i64 (x3 : Int), .int .i64 (3), .int .i64 (0), .string xt] 90)) w6 := (Kp.refl _ _).grown hg6 (fun k hk _ => hk)
   have hvb : ∀ k, vf.ownBlock = some k → gm + 1 ≤ k := fun k hk => (H13.hf.lt k hk).1
   have h7 : Rf w6 gp V ts (stX (pMember m (t :: r))) := H13.rf.kp k56 (fun k hk e => by have := hvb k e; omega)
   have BM7 := H13.bm.kp k56 (fun e => by have := hvb _ e; omega)
   have K7 : Kp (fun k => k = gp ∨ gm ≤ k) w w6 := H13.kp.trans2 k56 (fun k hk e => by have := hvb k e; omega)
   have HO7 : Hid (w6.ownsRow (gm + 1) 3 1 vr m.reserved.length (inRows m.reserved).flatten) := own_kpV H13.ho k56 (fun k hk e => own_apart H13.hf H13.ho (by decide) k e hk)
   obtain ⟨nA, hnA⟩ : ∃ n, m.fields.length = n := ⟨_, rfl⟩
   have HNA : Hid (m.fields.length = nA) := hnA
   rw [hnA] at ho6
   obtain ⟨va, vc, hvv⟩ := own_form ho6
   subst hvv
   have HF7 : Hid (w6.ownsRow (gm + 1) 90 5 (.slice va (nA + 1) vc) (m.fields ++ [(⟨x1, x3, 3, 0, xt⟩ : FlS)]).length (flRows (m.fields ++ [(⟨x1, x3, 3, 0, xt⟩ : FlS)])).flatten) := by
    show World.ownsRow _ _ _ _ _ _ _
    rw [flr_snoc, List.length_append, HNA.out]; exact ho6
   have mc' := BM7.cell 1
   have mf := BM7.froz 1
   simp only [List.getElem?_toArray, List.getElem?_cons_succ, List.getElem?_cons_zero] at mc'
   clear ho6 hg6 hat6 k56 hvb H13 hnA
   refine rg_run 7 79 (.slice va (nA + 1) vc) (w6) rfl rfl (by kernel_rfl) (by rfl) (listed' := #[true, true, true, true, true, true, true, true, false, false, false]) (by kernel_rfl) ?_ trivial ?_
   ·exact append_run rfl rfl rfl hrun
   simp only [List.setIfInBounds_toArray, List.set_cons_zero, List.set_cons_succ]
   clear hrun
   refine rg_run 8 80 (.pointer (some ⟨gm, 0, none⟩)) (w6) rfl rfl (by kernel_rfl) (by rfl) (listed' := #[true, true, true, true, true, true, true, true, true, false, false]) (by kernel_rfl) ?_ trivial ?_
   ·go_simp
   simp only [List.setIfInBounds_toArray, List.set_cons_zero, List.set_cons_succ]
   refine rg_run 9 81 (.pointer (some ⟨gm, 1, none⟩)) (w6) rfl rfl (by kernel_rfl) (by rfl) (listed' := #[true, true, true, true, true, true, true, true, true, true, false]) (by kernel_rfl) ?_ trivial ?_
   ·go_simp
   simp only [List.setIfInBounds_toArray, List.set_cons_zero, List.set_cons_succ]
   refine rg_store 10 (w6.setCell ⟨gm, 1, none⟩ (.slice va (nA + 1) vc)) rfl rfl (by kernel_rfl) (by rfl) (listed' := #[true, true, true, true, true, true, true, true, true, true, true]) (by kernel_rfl) ?_ trivial ?_
   ·go_simp
   refine wpAnyH_done (by kernel_rfl) ?_ _
   have k9 : Kp (fun k => k = gm) w6 (w6.setCell ⟨gm, 1, none⟩ (.slice va (nA + 1) vc)) := Kp.setCell (p := ⟨gm, 1, none⟩) (Kp.refl (fun k => k = gm) w6) (fun _ => rfl) _
   have h9 : Rf (w6.setCell ⟨gm, 1, none⟩ (.slice va (nA + 1) vc)) gp V ts (stX (pMember m (t :: r))) := h7.other hgm _
   have BM9 : Blk (w6.setCell ⟨gm, 1, none⟩ (.slice va (nA + 1) vc)) gm #[.string m.name, .slice va (nA + 1) vc, vr] 40 := BM7.set 1 _ rfl
   have K9 : Kp (fun k => k = gp ∨ gm ≤ k) w (w6.setCell ⟨gm, 1, none⟩ (.slice va (nA + 1) vc)) := K7.setCell (fun _ => .inr (Nat.le_refl _)) _
   have HO9 := own_kpH HO7 k9 (fun k hk => by omega)
   have HF9 := own_kpH HF7 k9 (fun k hk => by omega)
   clear h7 BM7 K7 HO7 HF7 k9 mc' mf
   go_wp2_with fail
   refine bodyPost_end (results_none' rfl _ _ _) rfl ?_
   exact ⟨rfl, ⟨m.name, m.fields ++ [⟨x1, x3, 3, 0, xt⟩], m.reserved⟩, _, vr, HY.out, h9, BM9, HF9.out, HO9.out, K9, by show Bd _ _ (m.fields ++ [_]).length; rw [List.length_append]; exact HBF.out, HBR.out⟩
 ·have HE1 : Hid (stX (pOn (.inr rs) (pTake [kOptional])) = .inr rs ∧ anyS [kOptional] (headS (.inr rs)) = false) := ⟨lb', la⟩
  have HE2 : Hid (stX (pOn (.inr rs) (pTake [kRepeated])) = .inr rs ∧ anyS [kRepeated] (headS (.inr rs)) = false) := ⟨mb, ma⟩
  have HFj : Hid (∀ v : NmS, Res (pOn (stX (pOn (.inr rs) pType)) pValue) v → stX (pOn (stX (pOn (.inr rs) pType)) pValue) = stX (pField rs) ∧ Res (pField rs) ⟨v.name, v.n, 1, (res (0, noT) (pOn (.inr rs) pType)).1, (res (0, noT) (pOn (.inr rs) pType)).2⟩) := by
   have := HFst.out
   have e1 : stX (pOn (.inr rs) pLab) = .inr rs := by simp only [pOn, pLab, mc, stX]
   have e2 : res 1 (pOn (.inr rs) pLab) = 1 := by simp only [pOn, pLab, mc, res]
   rw [e1, e2] at this
   exact this
  clear la lb' ma mb mc HFst
  go_wp2_with fail
  generalize w1.heap.size = Fb at *
  refine (ris_any kOptional H2.rf (by decide +kernel)).mono ?_
  rintro e w2 ⟨rfl, h3, k3⟩
  rw [HE1.out.1] at h3
  rw [HE1.out.2]
  have H3 := H2.step k3 h3
  clear h3 k3 H2 HE1
  go_wp2_with fail
  refine (ris_any kRepeated H3.rf (by decide +kernel)).mono ?_
  rintro e WL ⟨rfl, h3, k3⟩
  rw [HE2.out.1] at h3
  rw [HE2.out.2]
  have HL := H3.step k3 h3
  clear h3 k3 H3 HE2
  generalize (.inr rs : Sg) = σ1 at *
  go_wp2_with fail
  refine (rtext_any HL.rf).mono ?_
  rintro e w4 ⟨rfl, hb4⟩
  have H4 := HL.below hb4
  clear hb4 HL
  go_wp2_with fail
  refine (rscalar_any _ _).mono ?_
  rintro e w5 ⟨rfl, hb5⟩
  have H5 := H4.below hb5
  clear hb5 H4
  rcases type_cases σ1 with ⟨t2, r2, rfl, y1, y2⟩ | ⟨y1, y2, y3⟩
  ·rw [y2] at HFj
   simp only [stX, res] at HFj
   simp only [headS]
   have s0 := H5.bf.cell 3
   have f0 := H5.bf.froz 3
   simp only [List.getElem?_toArray, List.getElem?_cons_succ, List.getElem?_cons_zero] at s0
   have H6 := H5.set 3 (.int .i64 ((scalN t2 : Nat) : Int)) rfl
   simp only [List.setIfInBounds_toArray, List.set_cons_zero, List.set_cons_succ] at H6
   generalize scalN t2 = sc at *
   clear y2
   obtain ⟨n, hn, hm, c0, c1, c3, f1, f3⟩ := H6.rf.open
   have hn' := hn
   simp only [leftS, List.length_cons] at hn'
   have hn2 : n < 9223372036854775807 := by omega
   have HR : Hid (∀ u : Value, u = .int .i64 ((n + 1 : Nat) : Int) → Rf ((w5.setCell ⟨Fb, 3, none⟩ (.int .i64 (sc : Int))).setCell ⟨gp, 1, none⟩ u) gp V ts (.inr r2)) := fun u hu => H6.rf.next hn hu
   have hgpF : gp < Fb := by have := H6.g1; have := H6.g2; omega
   clear hn hn' hm c0 c3 f3 H5
   go_wp2_with fail
   have HA := H6.step (Kp.setCell (p := ⟨gp, 1, none⟩) (Kp.refl (fun k => k = gp) _) (fun _ => rfl) (.int .i64 ((n : Int) + 1))) (HR.out _ rfl)
   clear s0 f0 c1 f1 HR H6
   have HFi : Hid (∀ v : NmS, Res (pOn (.inr r2) pValue) v → stX (pOn (.inr r2) pValue) = stX (pField rs) ∧ Res (pField rs) ⟨v.name, v.n, 1, (sc : Int), noT⟩) := HFj
   clear HFj
   simp only [noT] at HFi
   generalize (.inr r2 : Sg) = σ2 at *
   generalize (w5.setCell ⟨Fb, 3, none⟩ (.int .i64 (sc : Int))).setCell ⟨gp, 1, none⟩ (.int .i64 ((n : Int) + 1)) = WA at *
   go_wp2_with fail
   refine (pname_any HA.rf).mono ?_
   rintro e w7 ⟨rfl, h7, k7⟩
   have H7 := HA.step k7 h7
   clear h7 k7 HA
   have HV : Hid (stX (pOn (stX (pOn (stX (pOn (stX (pOn σ2 pName)) (pMust kEq))) pNum)) (pMust kSemi)) = stX (pOn σ2 pValue) ∧ Res (pOn σ2 pValue) ⟨res noT (pOn σ2 pName), (res 0 (pOn (stX (pOn (stX (pOn σ2 pName)) (pMust kEq))) pNum) : Nat)⟩) := value_st σ2
   generalize res noT (pOn σ2 pName) = x1 at *
   generalize stX (pOn σ2 pName) = σ3 at *
   have s0 := H7.bf.cell 0
   have f0 := H7.bf.froz 0
   simp only [List.getElem?_toArray, List.getElem?_cons_succ, List.getElem?_cons_zero] at s0
   have H8 := H7.set 0 (.string x1) rfl
   simp only [List.setIfInBounds_toArray, List.set_cons_zero] at H8
   go_wp2_with fail
   clear s0 f0 H7
   refine (rmust_any kEq H8.rf (by decide +kernel)).mono ?_
   rintro e w8 ⟨rfl, h9, k9⟩
   have H9 := H8.step k9 h9
   clear h9 k9 H8
   generalize stX (pOn σ3 (pMust kEq)) = σ4 at *
   go_wp2_with fail
   refine (pnumber_any H9.rf).mono ?_
   rintro e w9 ⟨rfl, h10, k10⟩
   have H10 := H9.step k10 h10
   clear h10 k10 H9
   generalize (res 0 (pOn σ4 pNum) : Nat) = x3 at *
   generalize stX (pOn σ4 pNum) = σ5 at *
   have s0 := H10.bf.cell 1
   have f0 := H10.bf.froz 1
   simp only [List.getElem?_toArray, List.getElem?_cons_succ, List.getElem?_cons_zero] at s0
   have H11 := H10.set 1 (.int .i64 (x3 : Int)) rfl
   simp only [List.setIfInBounds_toArray, List.set_cons_zero, List.set_cons_succ] at H11
   go_wp2_with fail
   clear s0 f0 H10
   refine (rmust_any kSemi H11.rf (by decide +kernel)).mono ?_
   rintro e w10 ⟨rfl, h12, k12⟩
   have H12 := H11.step k12 h12
   clear h12 k12 H11
   obtain ⟨z1, z2⟩ := HFi.out ⟨x1, x3⟩ HV.out.2
   obtain ⟨y1, y2⟩ := HMem.out _ z2
   have e9 : stX (pOn σ5 (pMust kSemi)) = stX (pMember m rs) := by rw [HV.out.1, z1, y1]
   rw [e9] at H12
   have HY : Hid (Res (pMember m rs) ⟨m.name, m.fields ++ [⟨x1, x3, 1, (sc : Int), ⟨#[]⟩⟩], m.reserved⟩) := y2
   clear z1 z2 y1 y2 e9 HV HFi HMem
   have BG := H12.bm
   have BE := H12.bf
   go_wp2_with fail
   refine wp_region_held_drew (S := fun _ => True) (by kernel_rfl) trivial (fun hS => ?_)
   refine rg_take 0 72 (.pointer (some ⟨gm, 0, none⟩)) _ rfl rfl (by kernel_rfl) (by kernel_rfl) (by kernel_rfl) (fun _ _ _ h => h) (by rfl) (fun w' hw' => ?_) trivial (listed' := #[true, false, false, false, false, false, false, false, false, false, false]) (by kernel_rfl) rfl ?_
   ·go_simp
   simp only [List.setIfInBounds_toArray, List.set_cons_zero, List.set_cons_succ]
   refine rg_take 1 73 (.pointer (some ⟨gm, 0, none⟩)) _ rfl rfl (by kernel_rfl) (by kernel_rfl) (by kernel_rfl) (fun _ _ _ h => h) (by rfl) (fun w' hw' => ?_) trivial (listed' := #[true, true, false, false, false, false, false, false, false, false, false]) (by kernel_rfl) rfl ?_
   ·go_simp
   simp only [List.setIfInBounds_toArray, List.set_cons_zero, List.set_cons_succ]
   refine rg_take 2 74 (.pointer (some ⟨gm, 0, none⟩)) _ rfl rfl (by kernel_rfl) (by kernel_rfl) (by kernel_rfl) (fun _ _ _ h => h) (by rfl) (fun w' hw' => ?_) trivial (listed' := #[true, true, true, false, false, false, false, false, false, false, false]) (by kernel_rfl) rfl ?_
   ·go_simp
   simp only [List.setIfInBounds_toArray, List.set_cons_zero, List.set_cons_succ]
   refine rg_take 3 75 (.pointer (some ⟨gm, 1, none⟩)) _ rfl rfl (by kernel_rfl) (by kernel_rfl) (by kernel_rfl) (fun _ _ _ h => h) (by rfl) (fun w' hw' => ?_) trivial (listed' := #[true, true, true, true, false, false, false, false, false, false, false]) (by kernel_rfl) rfl ?_
   ·go_simp
   simp only [List.setIfInBounds_toArray, List.set_cons_zero, List.set_cons_succ]
   have BGd := BG.below (Below.refl _ _).drew
   have BEd := BE.below (Below.refl _ _).drew
   refine rg_llb 4 5 6 76 77 78 vf (.agg #[.string x1, .int .i64 (x3 : Int), .int .i64 (1), .int .i64 ((sc : Int)), .string ⟨#[]⟩]) (.slice (some ⟨w10.drew.heap.size, 0, none⟩) 1 1) (w10.drew.alloc (.cells #[.string x1, .int .i64 (x3 : Int), .int .i64 (1), .int .i64 ((sc : Int)), .string ⟨#[]⟩] 90)) rfl rfl rfl rfl rfl rfl (by kernel_rfl) (by kernel_rfl) (by kernel_rfl) (by kernel_rfl) (by kernel_rfl) (fun _ => rfl) (fun _ => rfl) (fun _ => rfl) (by decide) (by decide) (by decide) (by decide) ?g0 ?g1 ?g2 ?g3 ?g4 ?g5 ?g6 ?_
   case g0 => have hg0 := (BGd.cell 1).trans rfl; go_simp
   case g1 => have hg0 := (BGd.cell 1).trans rfl; simp only [List.setIfInBounds_toArray, List.set_cons_zero, List.set_cons_succ]; go_simp
   case g2 => have hg0 : (w10.alloc (.cells #[.string x1, .int .i64 (x3 : Int), .int .i64 (1), .int .i64 ((sc : Int)), .string ⟨#[]⟩] 90)).cell? ⟨gm, 1, none⟩ = some (vf) := ((BG.below ((Below.refl _ _).alloc (Nat.le_refl _) (.cells #[.string x1, .int .i64 (x3 : Int), .int .i64 (1), .int .i64 ((sc : Int)), .string ⟨#[]⟩] 90))).cell 1).trans rfl; simp only [List.setIfInBounds_toArray, List.set_cons_zero, List.set_cons_succ]; go_simp
   case g3 => have he0 := (BEd.cell 0).trans rfl; have he1 := (BEd.cell 1).trans rfl; have he2 := (BEd.cell 2).trans rfl; have he3 := (BEd.cell 3).trans rfl; have he4 := (BEd.cell 4).trans rfl; go_simp
   case g4 => have he0 := (BEd.cell 0).trans rfl; have he1 := (BEd.cell 1).trans rfl; have he2 := (BEd.cell 2).trans rfl; have he3 := (BEd.cell 3).trans rfl; have he4 := (BEd.cell 4).trans rfl; simp only [List.setIfInBounds_toArray, List.set_cons_zero, List.set_cons_succ]; go_simp
   case g5 => simp only [List.setIfInBounds_toArray, List.set_cons_zero, List.set_cons_succ]; go_simp
   case g6 => simp only [List.setIfInBounds_toArray, List.set_cons_zero, List.set_cons_succ]; go_simp
   simp only [List.setIfInBounds_toArray, List.set_cons_zero, List.set_cons_succ]
   have H13 := (H12.below (Below.refl _ _).drew).below ((Below.refl _ _).alloc (Nat.le_refl _) (.cells #[.string x1, .int .i64 (x3 : Int), .int .i64 (1), .int .i64 ((sc : Int)), .string ⟨#[]⟩] 90))
   clear H12 BG BE BGd BEd
   have hM6 : gm + 1 ≤ w10.drew.heap.size := by have := H13.bm.lt; have e : (w10.drew.alloc (.cells #[.string x1, .int .i64 (x3 : Int), .int .i64 (1), .int .i64 ((sc : Int)), .string ⟨#[]⟩] 90)).heap.size = w10.drew.heap.size + 1 := Array.size_push ..; have a2 := H13.g2; have a3 := H13.bf.lt; rw [e] at a3; omega
   obtain ⟨v6, w6, hrun, ho6, hg6, _, hat6⟩ := run_append_own_at (P := Tryz.prog) (w10.drew.alloc (.cells #[.string x1, .int .i64 (x3 : Int), .int .i64 (1), .int .i64 ((sc : Int)), .string ⟨#[]⟩] 90)) (gm + 1) 37 37 90 i0 _ 5 56 Tryz.underlying37 hi hz0 hz1 hz2 rfl (by decide) _ _ _ H13.hf ⟨w10.drew.heap.size, 0, none⟩ 1 1 [.string x1, .int .i64 (x3 : Int), .int .i64 (1), .int .i64 ((sc : Int)), .string ⟨#[]⟩] rfl (cells_new _ #[.string x1, .int .i64 (x3 : Int), .int .i64 (1), .int .i64 ((sc : Int)), .string ⟨#[]⟩] _) (by intro u hu; simp at hu; rcases hu with rfl | rfl | rfl | rfl | rfl <;> rfl) (by unfold maxLen; omega) (by omega) (by have e : (w10.drew.alloc (.cells #[.string x1, .int .i64 (x3 : Int), .int .i64 (1), .int .i64 ((sc : Int)), .string ⟨#[]⟩] 90)).heap.size = w10.drew.heap.size + 1 := Array.size_push ..; rw [e]; omega)
   have k56 : Kp (fun k => vf.ownBlock = some k) (w10.drew.alloc (.cells #[.string x1, .int .i64 (x3 : Int), .int .i64 (1), .int .i64 ((sc : Int)), .string ⟨#[]⟩] 90)) w6 := (Kp.refl _ _).grown hg6 (fun k hk _ => hk)
   have hvb : ∀ k, vf.ownBlock = some k → gm + 1 ≤ k := fun k hk => (H13.hf.lt k hk).1
   have h7 : Rf w6 gp V ts (stX (pMember m rs)) := H13.rf.kp k56 (fun k hk e => by have := hvb k e; omega)
   have BM7 := H13.bm.kp k56 (fun e => by have := hvb _ e; omega)
   have K7 : Kp (fun k => k = gp ∨ gm ≤ k) w w6 := H13.kp.trans2 k56 (fun k hk e => by have := hvb k e; omega)
   have HO7 : Hid (w6.ownsRow (gm + 1) 3 1 vr m.reserved.length (inRows m.reserved).flatten) := own_kpV H13.ho k56 (fun k hk e => own_apart H13.hf H13.ho (by decide) k e hk)
   obtain ⟨nA, hnA⟩ : ∃ n, m.fields.length = n := ⟨_, rfl⟩
   have HNA : Hid (m.fields.length = nA) := hnA
   rw [hnA] at ho6
   obtain ⟨va, vc, hvv⟩ := own_form ho6
   subst hvv
   have HF7 : Hid (w6.ownsRow (gm + 1) 90 5 (.slice va (nA + 1) vc) (m.fields ++ [(⟨x1, x3, 1, (sc : Int), ⟨#[]⟩⟩ : FlS)]).length (flRows (m.fields ++ [(⟨x1, x3, 1, (sc : Int), ⟨#[]⟩⟩ : FlS)])).flatten) := by
    show World.ownsRow _ _ _ _ _ _ _
    rw [flr_snoc, List.length_append, HNA.out]; exact ho6
   have mc' := BM7.cell 1
   have mf := BM7.froz 1
   simp only [List.getElem?_toArray, List.getElem?_cons_succ, List.getElem?_cons_zero] at mc'
   clear ho6 hg6 hat6 k56 hvb H13 hnA
   refine rg_run 7 79 (.slice va (nA + 1) vc) (w6) rfl rfl (by kernel_rfl) (by rfl) (listed' := #[true, true, true, true, true, true, true, true, false, false, false]) (by kernel_rfl) ?_ trivial ?_
   ·exact append_run rfl rfl rfl hrun
   simp only [List.setIfInBounds_toArray, List.set_cons_zero, List.set_cons_succ]
   clear hrun
   refine rg_run 8 80 (.pointer (some ⟨gm, 0, none⟩)) (w6) rfl rfl (by kernel_rfl) (by rfl) (listed' := #[true, true, true, true, true, true, true, true, true, false, false]) (by kernel_rfl) ?_ trivial ?_
   ·go_simp
   simp only [List.setIfInBounds_toArray, List.set_cons_zero, List.set_cons_succ]
   refine rg_run 9 81 (.pointer (some ⟨gm, 1, none⟩)) (w6) rfl rfl (by kernel_rfl) (by rfl) (listed' := #[true, true, true, true, true, true, true, true, true, true, false]) (by kernel_rfl) ?_ trivial ?_
   ·go_simp
   simp only [List.setIfInBounds_toArray, List.set_cons_zero, List.set_cons_succ]
   refine rg_store 10 (w6.setCell ⟨gm, 1, none⟩ (.slice va (nA + 1) vc)) rfl rfl (by kernel_rfl) (by rfl) (listed' := #[true, true, true, true, true, true, true, true, true, true, true]) (by kernel_rfl) ?_ trivial ?_
   ·go_simp
   refine wpAnyH_done (by kernel_rfl) ?_ _
   have k9 : Kp (fun k => k = gm) w6 (w6.setCell ⟨gm, 1, none⟩ (.slice va (nA + 1) vc)) := Kp.setCell (p := ⟨gm, 1, none⟩) (Kp.refl (fun k => k = gm) w6) (fun _ => rfl) _
   have h9 : Rf (w6.setCell ⟨gm, 1, none⟩ (.slice va (nA + 1) vc)) gp V ts (stX (pMember m rs)) := h7.other hgm _
   have BM9 : Blk (w6.setCell ⟨gm, 1, none⟩ (.slice va (nA + 1) vc)) gm #[.string m.name, .slice va (nA + 1) vc, vr] 40 := BM7.set 1 _ rfl
   have K9 : Kp (fun k => k = gp ∨ gm ≤ k) w (w6.setCell ⟨gm, 1, none⟩ (.slice va (nA + 1) vc)) := K7.setCell (fun _ => .inr (Nat.le_refl _)) _
   have HO9 := own_kpH HO7 k9 (fun k hk => by omega)
   have HF9 := own_kpH HF7 k9 (fun k hk => by omega)
   clear h7 BM7 K7 HO7 HF7 k9 mc' mf
   go_wp2_with fail
   refine bodyPost_end (results_none' rfl _ _ _) rfl ?_
   exact ⟨rfl, ⟨m.name, m.fields ++ [⟨x1, x3, 1, (sc : Int), ⟨#[]⟩⟩], m.reserved⟩, _, vr, HY.out, h9, BM9, HF9.out, HO9.out, K9, by show Bd _ _ (m.fields ++ [_]).length; rw [List.length_append]; exact HBF.out, HBR.out⟩
  ·rw [y2, y3] at HFj
   simp only at HFj
   rw [y1]
   have s0 := H5.bf.cell 3
   have f0 := H5.bf.froz 3
   simp only [List.getElem?_toArray, List.getElem?_cons_succ, List.getElem?_cons_zero] at s0
   have H6 := H5.set 3 (.int .i64 0) rfl
   simp only [List.setIfInBounds_toArray, List.set_cons_zero, List.set_cons_succ] at H6
   clear y1 y2 y3 H5
   go_wp2_with fail
   clear s0 f0
   refine (pname_any H6.rf).mono ?_
   rintro e w6' ⟨rfl, h6', k6'⟩
   have H7' := H6.step k6' h6'
   clear h6' k6' H6
   generalize res noT (pOn σ1 pName) = xt at *
   generalize stX (pOn σ1 pName) = σ2 at *
   have s0 := H7'.bf.cell 4
   have f0 := H7'.bf.froz 4
   simp only [List.getElem?_toArray, List.getElem?_cons_succ, List.getElem?_cons_zero] at s0
   have HA := H7'.set 4 (.string xt) rfl
   simp only [List.setIfInBounds_toArray, List.set_cons_zero, List.set_cons_succ] at HA
   clear H7'
   have HFi : Hid (∀ v : NmS, Res (pOn σ2 pValue) v → stX (pOn σ2 pValue) = stX (pField rs) ∧ Res (pField rs) ⟨v.name, v.n, 1, 0, xt⟩) := HFj
   clear HFj
   go_wp2_with fail
   clear s0 f0
   generalize w6'.setCell ⟨Fb, 4, none⟩ (.string xt) = WA at *
   go_wp2_with fail
   refine (pname_any HA.rf).mono ?_
   rintro e w7 ⟨rfl, h7, k7⟩
   have H7 := HA.step k7 h7
   clear h7 k7 HA
   have HV : Hid (stX (pOn (stX (pOn (stX (pOn (stX (pOn σ2 pName)) (pMust kEq))) pNum)) (pMust kSemi)) = stX (pOn σ2 pValue) ∧ Res (pOn σ2 pValue) ⟨res noT (pOn σ2 pName), (res 0 (pOn (stX (pOn (stX (pOn σ2 pName)) (pMust kEq))) pNum) : Nat)⟩) := value_st σ2
   generalize res noT (pOn σ2 pName) = x1 at *
   generalize stX (pOn σ2 pName) = σ3 at *
   have s0 := H7.bf.cell 0
   have f0 := H7.bf.froz 0
   simp only [List.getElem?_toArray, List.getElem?_cons_succ, List.getElem?_cons_zero] at s0
   have H8 := H7.set 0 (.string x1) rfl
   simp only [List.setIfInBounds_toArray, List.set_cons_zero] at H8
   go_wp2_with fail
   clear s0 f0 H7
   refine (rmust_any kEq H8.rf (by decide +kernel)).mono ?_
   rintro e w8 ⟨rfl, h9, k9⟩
   have H9 := H8.step k9 h9
   clear h9 k9 H8
   generalize stX (pOn σ3 (pMust kEq)) = σ4 at *
   go_wp2_with fail
   refine (pnumber_any H9.rf).mono ?_
   rintro e w9 ⟨rfl, h10, k10⟩
   have H10 := H9.step k10 h10
   clear h10 k10 H9
   generalize (res 0 (pOn σ4 pNum) : Nat) = x3 at *
   generalize stX (pOn σ4 pNum) = σ5 at *
   have s0 := H10.bf.cell 1
   have f0 := H10.bf.froz 1
   simp only [List.getElem?_toArray, List.getElem?_cons_succ, List.getElem?_cons_zero] at s0
   have H11 := H10.set 1 (.int .i64 (x3 : Int)) rfl
   simp only [List.setIfInBounds_toArray, List.set_cons_zero, List.set_cons_succ] at H11
   go_wp2_with fail
   clear s0 f0 H10
   refine (rmust_any kSemi H11.rf (by decide +kernel)).mono ?_
   rintro e w10 ⟨rfl, h12, k12⟩
   have H12 := H11.step k12 h12
   clear h12 k12 H11
   obtain ⟨z1, z2⟩ := HFi.out ⟨x1, x3⟩ HV.out.2
   obtain ⟨y1, y2⟩ := HMem.out _ z2
   have e9 : stX (pOn σ5 (pMust kSemi)) = stX (pMember m rs) := by rw [HV.out.1, z1, y1]
   rw [e9] at H12
   have HY : Hid (Res (pMember m rs) ⟨m.name, m.fields ++ [⟨x1, x3, 1, 0, xt⟩], m.reserved⟩) := y2
   clear z1 z2 y1 y2 e9 HV HFi HMem
   have BG := H12.bm
   have BE := H12.bf
   go_wp2_with fail
   refine wp_region_held_drew (S := fun _ => True) (by kernel_rfl) trivial (fun hS => ?_)
   refine rg_take 0 72 (.pointer (some ⟨gm, 0, none⟩)) _ rfl rfl (by kernel_rfl) (by kernel_rfl) (by kernel_rfl) (fun _ _ _ h => h) (by rfl) (fun w' hw' => ?_) trivial (listed' := #[true, false, false, false, false, false, false, false, false, false, false]) (by kernel_rfl) rfl ?_
   ·go_simp
   simp only [List.setIfInBounds_toArray, List.set_cons_zero, List.set_cons_succ]
   refine rg_take 1 73 (.pointer (some ⟨gm, 0, none⟩)) _ rfl rfl (by kernel_rfl) (by kernel_rfl) (by kernel_rfl) (fun _ _ _ h => h) (by rfl) (fun w' hw' => ?_) trivial (listed' := #[true, true, false, false, false, false, false, false, false, false, false]) (by kernel_rfl) rfl ?_
   ·go_simp
   simp only [List.setIfInBounds_toArray, List.set_cons_zero, List.set_cons_succ]
   refine rg_take 2 74 (.pointer (some ⟨gm, 0, none⟩)) _ rfl rfl (by kernel_rfl) (by kernel_rfl) (by kernel_rfl) (fun _ _ _ h => h) (by rfl) (fun w' hw' => ?_) trivial (listed' := #[true, true, true, false, false, false, false, false, false, false, false]) (by kernel_rfl) rfl ?_
   ·go_simp
   simp only [List.setIfInBounds_toArray, List.set_cons_zero, List.set_cons_succ]
   refine rg_take 3 75 (.pointer (some ⟨gm, 1, none⟩)) _ rfl rfl (by kernel_rfl) (by kernel_rfl) (by kernel_rfl) (fun _ _ _ h => h) (by rfl) (fun w' hw' => ?_) trivial (listed' := #[true, true, true, true, false, false, false, false, false, false, false]) (by kernel_rfl) rfl ?_
   ·go_simp
   simp only [List.setIfInBounds_toArray, List.set_cons_zero, List.set_cons_succ]
   have BGd := BG.below (Below.refl _ _).drew
   have BEd := BE.below (Below.refl _ _).drew
   refine rg_llb 4 5 6 76 77 78 vf (.agg #[.string x1, .int .i64 (x3 : Int), .int .i64 (1), .int .i64 (0), .string xt]) (.slice (some ⟨w10.drew.heap.size, 0, none⟩) 1 1) (w10.drew.alloc (.cells #[.string x1, .int .i64 (x3 : Int), .int .i64 (1), .int .i64 (0), .string xt] 90)) rfl rfl rfl rfl rfl rfl (by kernel_rfl) (by kernel_rfl) (by kernel_rfl) (by kernel_rfl) (by kernel_rfl) (fun _ => rfl) (fun _ => rfl) (fun _ => rfl) (by decide) (by decide) (by decide) (by decide) ?g0 ?g1 ?g2 ?g3 ?g4 ?g5 ?g6 ?_
   case g0 => have hg0 := (BGd.cell 1).trans rfl; go_simp
   case g1 => have hg0 := (BGd.cell 1).trans rfl; simp only [List.setIfInBounds_toArray, List.set_cons_zero, List.set_cons_succ]; go_simp
   case g2 => have hg0 : (w10.alloc (.cells #[.string x1, .int .i64 (x3 : Int), .int .i64 (1), .int .i64 (0), .string xt] 90)).cell? ⟨gm, 1, none⟩ = some (vf) := ((BG.below ((Below.refl _ _).alloc (Nat.le_refl _) (.cells #[.string x1, .int .i64 (x3 : Int), .int .i64 (1), .int .i64 (0), .string xt] 90))).cell 1).trans rfl; simp only [List.setIfInBounds_toArray, List.set_cons_zero, List.set_cons_succ]; go_simp
   case g3 => have he0 := (BEd.cell 0).trans rfl; have he1 := (BEd.cell 1).trans rfl; have he2 := (BEd.cell 2).trans rfl; have he3 := (BEd.cell 3).trans rfl; have he4 := (BEd.cell 4).trans rfl; go_simp
   case g4 => have he0 := (BEd.cell 0).trans rfl; have he1 := (BEd.cell 1).trans rfl; have he2 := (BEd.cell 2).trans rfl; have he3 := (BEd.cell 3).trans rfl; have he4 := (BEd.cell 4).trans rfl; simp only [List.setIfInBounds_toArray, List.set_cons_zero, List.set_cons_succ]; go_simp
   case g5 => simp only [List.setIfInBounds_toArray, List.set_cons_zero, List.set_cons_succ]; go_simp
   case g6 => simp only [List.setIfInBounds_toArray, List.set_cons_zero, List.set_cons_succ]; go_simp
   simp only [List.setIfInBounds_toArray, List.set_cons_zero, List.set_cons_succ]
   have H13 := (H12.below (Below.refl _ _).drew).below ((Below.refl _ _).alloc (Nat.le_refl _) (.cells #[.string x1, .int .i64 (x3 : Int), .int .i64 (1), .int .i64 (0), .string xt] 90))
   clear H12 BG BE BGd BEd
   have hM6 : gm + 1 ≤ w10.drew.heap.size := by have := H13.bm.lt; have e : (w10.drew.alloc (.cells #[.string x1, .int .i64 (x3 : Int), .int .i64 (1), .int .i64 (0), .string xt] 90)).heap.size = w10.drew.heap.size + 1 := Array.size_push ..; have a2 := H13.g2; have a3 := H13.bf.lt; rw [e] at a3; omega
   obtain ⟨v6, w6, hrun, ho6, hg6, _, hat6⟩ := run_append_own_at (P := Tryz.prog) (w10.drew.alloc (.cells #[.string x1, .int .i64 (x3 : Int), .int .i64 (1), .int .i64 (0), .string xt] 90)) (gm + 1) 37 37 90 i0 _ 5 56 Tryz.underlying37 hi hz0 hz1 hz2 rfl (by decide) _ _ _ H13.hf ⟨w10.drew.heap.size, 0, none⟩ 1 1 [.string x1, .int .i64 (x3 : Int), .int .i64 (1), .int .i64 (0), .string xt] rfl (cells_new _ #[.string x1, .int .i64 (x3 : Int), .int .i64 (1), .int .i64 (0), .string xt] _) (by intro u hu; simp at hu; rcases hu with rfl | rfl | rfl | rfl | rfl <;> rfl) (by unfold maxLen; omega) (by omega) (by have e : (w10.drew.alloc (.cells #[.string x1, .int .i64 (x3 : Int), .int .i64 (1), .int .i64 (0), .string xt] 90)).heap.size = w10.drew.heap.size + 1 := Array.size_push ..; rw [e]; omega)
   have k56 : Kp (fun k => vf.ownBlock = some k) (w10.drew.alloc (.cells #[.string x1, .int .i64 (x3 : Int), .int .i64 (1), .int .i64 (0), .string xt] 90)) w6 := (Kp.refl _ _).grown hg6 (fun k hk _ => hk)
   have hvb : ∀ k, vf.ownBlock = some k → gm + 1 ≤ k := fun k hk => (H13.hf.lt k hk).1
   have h7 : Rf w6 gp V ts (stX (pMember m rs)) := H13.rf.kp k56 (fun k hk e => by have := hvb k e; omega)
   have BM7 := H13.bm.kp k56 (fun e => by have := hvb _ e; omega)
   have K7 : Kp (fun k => k = gp ∨ gm ≤ k) w w6 := H13.kp.trans2 k56 (fun k hk e => by have := hvb k e; omega)
   have HO7 : Hid (w6.ownsRow (gm + 1) 3 1 vr m.reserved.length (inRows m.reserved).flatten) := own_kpV H13.ho k56 (fun k hk e => own_apart H13.hf H13.ho (by decide) k e hk)
   obtain ⟨nA, hnA⟩ : ∃ n, m.fields.length = n := ⟨_, rfl⟩
   have HNA : Hid (m.fields.length = nA) := hnA
   rw [hnA] at ho6
   obtain ⟨va, vc, hvv⟩ := own_form ho6
   subst hvv
   have HF7 : Hid (w6.ownsRow (gm + 1) 90 5 (.slice va (nA + 1) vc) (m.fields ++ [(⟨x1, x3, 1, 0, xt⟩ : FlS)]).length (flRows (m.fields ++ [(⟨x1, x3, 1, 0, xt⟩ : FlS)])).flatten) := by
    show World.ownsRow _ _ _ _ _ _ _
    rw [flr_snoc, List.length_append, HNA.out]; exact ho6
   have mc' := BM7.cell 1
   have mf := BM7.froz 1
   simp only [List.getElem?_toArray, List.getElem?_cons_succ, List.getElem?_cons_zero] at mc'
   clear ho6 hg6 hat6 k56 hvb H13 hnA
   refine rg_run 7 79 (.slice va (nA + 1) vc) (w6) rfl rfl (by kernel_rfl) (by rfl) (listed' := #[true, true, true, true, true, true, true, true, false, false, false]) (by kernel_rfl) ?_ trivial ?_
   ·exact append_run rfl rfl rfl hrun
   simp only [List.setIfInBounds_toArray, List.set_cons_zero, List.set_cons_succ]
   clear hrun
   refine rg_run 8 80 (.pointer (some ⟨gm, 0, none⟩)) (w6) rfl rfl (by kernel_rfl) (by rfl) (listed' := #[true, true, true, true, true, true, true, true, true, false, false]) (by kernel_rfl) ?_ trivial ?_
   ·go_simp
   simp only [List.setIfInBounds_toArray, List.set_cons_zero, List.set_cons_succ]
   refine rg_run 9 81 (.pointer (some ⟨gm, 1, none⟩)) (w6) rfl rfl (by kernel_rfl) (by rfl) (listed' := #[true, true, true, true, true, true, true, true, true, true, false]) (by kernel_rfl) ?_ trivial ?_
   ·go_simp
   simp only [List.setIfInBounds_toArray, List.set_cons_zero, List.set_cons_succ]
   refine rg_store 10 (w6.setCell ⟨gm, 1, none⟩ (.slice va (nA + 1) vc)) rfl rfl (by kernel_rfl) (by rfl) (listed' := #[true, true, true, true, true, true, true, true, true, true, true]) (by kernel_rfl) ?_ trivial ?_
   ·go_simp
   refine wpAnyH_done (by kernel_rfl) ?_ _
   have k9 : Kp (fun k => k = gm) w6 (w6.setCell ⟨gm, 1, none⟩ (.slice va (nA + 1) vc)) := Kp.setCell (p := ⟨gm, 1, none⟩) (Kp.refl (fun k => k = gm) w6) (fun _ => rfl) _
   have h9 : Rf (w6.setCell ⟨gm, 1, none⟩ (.slice va (nA + 1) vc)) gp V ts (stX (pMember m rs)) := h7.other hgm _
   have BM9 : Blk (w6.setCell ⟨gm, 1, none⟩ (.slice va (nA + 1) vc)) gm #[.string m.name, .slice va (nA + 1) vc, vr] 40 := BM7.set 1 _ rfl
   have K9 : Kp (fun k => k = gp ∨ gm ≤ k) w (w6.setCell ⟨gm, 1, none⟩ (.slice va (nA + 1) vc)) := K7.setCell (fun _ => .inr (Nat.le_refl _)) _
   have HO9 := own_kpH HO7 k9 (fun k hk => by omega)
   have HF9 := own_kpH HF7 k9 (fun k hk => by omega)
   clear h7 BM7 K7 HO7 HF7 k9 mc' mf
   go_wp2_with fail
   refine bodyPost_end (results_none' rfl _ _ _) rfl ?_
   exact ⟨rfl, ⟨m.name, m.fields ++ [⟨x1, x3, 1, 0, xt⟩], m.reserved⟩, _, vr, HY.out, h9, BM9, HF9.out, HO9.out, K9, by show Bd _ _ (m.fields ++ [_]).length; rw [List.length_append]; exact HBF.out, HBR.out⟩
def preM (m : MsS) : MsS := ⟨m.name, m.fields.map pre7, m.reserved⟩
theorem decl_msg {s : ScS} {t : ByteArray} {r : List ByteArray} {m : MsS} (ht : t.data.toList = kMessage.data.toList) (hm : Res (pMsg r) m) :
  stX (pDecl s (t :: r)) = stX (pMsg r) ∧ Res (pDecl s (t :: r)) ⟨s.name, s.msgs ++ [m], s.enums, s.methods⟩ := by
 have e : pDecl s (t :: r) = pBind (pMsg r) fun m r => (.inr (⟨s.name, s.msgs ++ [m], s.enums, s.methods⟩, r) : PR ScS) := by
  unfold pDecl
  rw [if_pos (by rw [is_cons]; exact ht)]; rfl
 rw [e]
 exact ⟨st_map _ (fun m => (⟨s.name, s.msgs ++ [m], s.enums, s.methods⟩ : ScS)), res_map (fun m => (⟨s.name, s.msgs ++ [m], s.enums, s.methods⟩ : ScS)) hm⟩
theorem decl_enum {s : ScS} {t : ByteArray} {r : List ByteArray} {m : EnS} (ht : t.data.toList = kEnum.data.toList) (hm : Res (pEnum r) m) :
  stX (pDecl s (t :: r)) = stX (pEnum r) ∧ Res (pDecl s (t :: r)) ⟨s.name, s.msgs, s.enums ++ [m], s.methods⟩ := by
 have e : pDecl s (t :: r) = pBind (pEnum r) fun m r => (.inr (⟨s.name, s.msgs, s.enums ++ [m], s.methods⟩, r) : PR ScS) := by
  unfold pDecl
  rw [if_neg (by rw [is_cons, ht]; decide +kernel), if_pos (by rw [is_cons]; exact ht)]; rfl
 rw [e]
 exact ⟨st_map _ (fun m => (⟨s.name, s.msgs, s.enums ++ [m], s.methods⟩ : ScS)), res_map (fun m => (⟨s.name, s.msgs, s.enums ++ [m], s.methods⟩ : ScS)) hm⟩
theorem decl_call {s : ScS} {t : ByteArray} {r : List ByteArray} {m : MtS} (ht : t.data.toList = kCall.data.toList) (hm : Res (pCall r) m) :
  stX (pDecl s (t :: r)) = stX (pCall r) ∧ Res (pDecl s (t :: r)) ⟨s.name, s.msgs, s.enums, s.methods ++ [m]⟩ := by
 have e : pDecl s (t :: r) = pBind (pCall r) fun m r => (.inr (⟨s.name, s.msgs, s.enums, s.methods ++ [m]⟩, r) : PR ScS) := by
  unfold pDecl
  rw [if_neg (by rw [is_cons, ht]; decide +kernel), if_neg (by rw [is_cons, ht]; decide +kernel), if_pos (by rw [is_cons]; exact ht)]; rfl
 rw [e]
 exact ⟨st_map _ (fun m => (⟨s.name, s.msgs, s.enums, s.methods ++ [m]⟩ : ScS)), res_map (fun m => (⟨s.name, s.msgs, s.enums, s.methods ++ [m]⟩ : ScS)) hm⟩
theorem one3_cases (s : ScS) (t : ByteArray) (r : List ByteArray) :
  (t.data.toList = kMessage.data.toList ∧ pOn (.inr (t :: r)) (pOne [kMessage, kEnum, kCall]) = .inr (t, r)) ∨
  (t.data.toList = kEnum.data.toList ∧ pOn (.inr (t :: r)) (pOne [kMessage, kEnum, kCall]) = .inr (t, r)) ∨
  (t.data.toList = kCall.data.toList ∧ pOn (.inr (t :: r)) (pOne [kMessage, kEnum, kCall]) = .inr (t, r)) ∨
  (pOn (.inr (t :: r)) (pOne [kMessage, kEnum, kCall]) = .inl (r.length + 1) ∧ pDecl s (t :: r) = .inl (r.length + 1)) := by
 simp only [pOn, pOne, List.any_cons, List.any_nil, Bool.or_false]
 by_cases h1 : t.data.toList = kMessage.data.toList
 ·exact .inl ⟨h1, by rw [if_pos (by simp [h1])]⟩
 ·by_cases h2 : t.data.toList = kEnum.data.toList
  ·exact .inr (.inl ⟨h2, by rw [if_pos (by simp [h2])]⟩)
  ·by_cases h3 : t.data.toList = kCall.data.toList
   ·exact .inr (.inr (.inl ⟨h3, by rw [if_pos (by simp [h3])]⟩))
   ·refine .inr (.inr (.inr ⟨?_, ?_⟩))
    ·rw [if_neg]
     simp only [Bool.or_eq_true, beq_iff_eq]
     rintro (e | e | e)
     ·exact h1 e.symm
     ·exact h2 e.symm
     ·exact h3 e.symm
    ·unfold pDecl
     rw [if_neg (by rw [is_cons]; exact h1), if_neg (by rw [is_cons]; exact h2), if_neg (by rw [is_cons]; exact h3)]; rfl
theorem decls_step {s s' : ScS} {t : ByteArray} {r : List ByteArray} (hv : Res (pDecl s (t :: r)) s') : pDecls (t :: r).length s (t :: r) = pOn (stX (pDecl s (t :: r))) fun r => pDecls r.length s' r := by
 rw [← bind_onR hv fun s' r => pDecls r.length s' r]
 show (if (t :: r).isEmpty = true then _ else _) = _
 rw [if_neg (by simp)]
 exact bind_congr fun v r' e => decls_fuel _ _ _ (Nat.lt_succ_iff.1 (decl_lt s (t :: r) _ _ e))
theorem decl_in (s : ScS) (ts : List ByteArray) : InP (pDecl s ts) ts.length := by
 unfold pDecl
 split
 ·exact fun a e => Nat.le_trans (in_bind (msg_in ts.tail) (msg_lt ts.tail).le (fun _ r => in_inr _ _ _) a e) (by simp)
 ·split
  ·exact fun a e => Nat.le_trans (in_bind (enum_in ts.tail) (enum_lt ts.tail).le (fun _ r => in_inr _ _ _) a e) (by simp)
  ·split
   ·exact fun a e => Nat.le_trans (in_bind (call_in ts.tail) (call_lt ts.tail).le (fun _ r => in_inr _ _ _) a e) (by simp)
   ·intro a e; simp at e; omega
theorem text_st (σ : Sg) : pOn σ pText = pOn (stX (pOn (stX (pOn (stX (pOn σ (pMust kSchema))) pName)) (pMust kSemi))) fun r => pDecls r.length ⟨res noT (pOn (stX (pOn σ (pMust kSchema))) pName), [], [], []⟩ r := by
 cases σ with
 | inl n => rfl
 | inr r =>
  simp only [pOn, pText]
  cases pMust kSchema r with
  | inl n => rfl
  | inr x =>
   obtain ⟨_, r1⟩ := x
   simp only [pBind, stX, res]
   cases pName r1 with
   | inl n => rfl
   | inr x =>
    obtain ⟨a, r2⟩ := x
    simp only [pBind, stX, res]
    cases pMust kSemi r2 with
    | inl n => rfl
    | inr x => obtain ⟨_, r3⟩ := x; rfl
structure SO (w : World) (gs : Nat) (s : ScS) (vm ve vt : Value) (pm : List (Value × Value)) (pe : List Value) : Prop where
 bs : Blk w gs #[.string s.name, vm, ve, vt] 27
 ms : MsO w (gs + 1) vm s.msgs pm
 en : EnO w (gs + 1) ve s.enums pe
 mt : w.ownsRow (gs + 1) 46 3 vt s.methods.length (mtRows s.methods).flatten
theorem SO.kp {S : Nat → Prop} {w w1 : World} {gs : Nat} {s : ScS} {vm ve vt : Value} {pm : List (Value × Value)} {pe : List Value} (h : SO w gs s vm ve vt pm pe) (hk : Kp S w w1) (hs : ∀ k, gs ≤ k → ¬ S k) : SO w1 gs s vm ve vt pm pe :=
 ⟨h.bs.kp hk (hs gs (Nat.le_refl _)), h.ms.kp hk (fun k hk => hs k (by omega)), h.en.kp hk (fun k hk => hs k (by omega)), own_kp h.mt hk (fun k hk => hs k (by omega))⟩
theorem SO.below {w w1 : World} {gs : Nat} {s : ScS} {vm ve vt : Value} {pm : List (Value × Value)} {pe : List Value} (h : SO w gs s vm ve vt pm pe) (hb : Below w.heap.size w w1) : SO w1 gs s vm ve vt pm pe := h.kp (S := fun _ => False) (Kp.ofBelow hb) (fun _ _ e => e)
theorem gs_kp (w6 : World) (gs i : Nat) (v6 : Value) : Kp (fun k => k = gs) w6 (w6.setCell ⟨gs, i, none⟩ v6) := Kp.setCell (p := ⟨gs, i, none⟩) (Kp.refl (fun k => k = gs) w6) (fun _ => rfl) _
theorem SO.msg {w w6 : World} {gs H : Nat} {s : ScS} {vm ve vt vf vr v6 : Value} {m : MsS} {pm : List (Value × Value)} {pe : List Value} (h : SO w gs s vm ve vt pm pe) (hH : ∀ (i : Nat) (p : Value × Value) (k : Nat), pm[i]? = some p → p.1.ownBlock = some k → k < H) (hBH : gs + 1 ≤ H) (hf : w.ownsRow H 90 5 vf m.fields.length (flRows m.fields).flatten) (hr : w.ownsRow H 3 1 vr m.reserved.length (inRows m.reserved).flatten)
  (ho : w6.ownsRow (gs + 1) 40 3 v6 (s.msgs.length + 1) ((msRows s.msgs pm).flatten ++ [.string m.name, vf, vr])) (k : Kp (fun k => vm.ownBlock = some k) w w6) : SO (w6.setCell ⟨gs, 1, none⟩ v6) gs ⟨s.name, s.msgs ++ [m], s.enums, s.methods⟩ v6 ve vt (pm ++ [(vf, vr)]) pe := by
 have hvb : ∀ k, vm.ownBlock = some k → gs + 1 ≤ k := fun k hk => (h.ms.own.lt k hk).1
 have k9 := gs_kp w6 gs 1 v6
 exact ⟨(h.bs.kp k (fun e => by have := hvb _ e; omega)).set 1 _ rfl, (h.ms.snoc hH hBH hf hr ho k).kp k9 (fun k hk => by omega), (h.en.beside h.ms.own (by decide) (by decide) k).kp k9 (fun k hk => by omega), own_kp (own_kpV h.mt k (fun k hk e => own_apart h.ms.own h.mt (by decide) k e hk)) k9 (fun k hk => by omega)⟩
theorem SO.enu {w w6 : World} {gs H : Nat} {s : ScS} {vm ve vt vv v6 : Value} {m : EnS} {pm : List (Value × Value)} {pe : List Value} (h : SO w gs s vm ve vt pm pe) (hBH : gs + 1 ≤ H) (hf : w.ownsRow H 96 2 vv m.values.length (nmRows m.values).flatten)
  (ho : w6.ownsRow (gs + 1) 44 2 v6 (s.enums.length + 1) ((enRows s.enums pe).flatten ++ [.string m.name, vv])) (k : Kp (fun k => ve.ownBlock = some k) w w6) : SO (w6.setCell ⟨gs, 2, none⟩ v6) gs ⟨s.name, s.msgs, s.enums ++ [m], s.methods⟩ vm v6 vt pm (pe ++ [vv]) := by
 have hvb : ∀ k, ve.ownBlock = some k → gs + 1 ≤ k := fun k hk => (h.en.own.lt k hk).1
 have k9 := gs_kp w6 gs 2 v6
 exact ⟨(h.bs.kp k (fun e => by have := hvb _ e; omega)).set 2 _ rfl, (h.ms.beside h.en.own (by decide) (by decide) (by decide) k).kp k9 (fun k hk => by omega), (h.en.snoc hBH hf ho k).kp k9 (fun k hk => by omega), own_kp (own_kpV h.mt k (fun k hk e => own_apart h.en.own h.mt (by decide) k e hk)) k9 (fun k hk => by omega)⟩
theorem SO.mtd {w w6 : World} {gs : Nat} {s : ScS} {vm ve vt v6 : Value} {m : MtS} {pm : List (Value × Value)} {pe : List Value} (h : SO w gs s vm ve vt pm pe)
  (ho : w6.ownsRow (gs + 1) 46 3 v6 (s.methods.length + 1) ((mtRows s.methods).flatten ++ [.string m.name, .string m.inn, .string m.out])) (k : Kp (fun k => vt.ownBlock = some k) w w6) : SO (w6.setCell ⟨gs, 3, none⟩ v6) gs ⟨s.name, s.msgs, s.enums, s.methods ++ [m]⟩ vm ve v6 pm pe := by
 have hvb : ∀ k, vt.ownBlock = some k → gs + 1 ≤ k := fun k hk => (h.mt.lt k hk).1
 have k9 := gs_kp w6 gs 3 v6
 refine ⟨(h.bs.kp k (fun e => by have := hvb _ e; omega)).set 3 _ rfl, (h.ms.beside h.mt (by decide) (by decide) (by decide) k).kp k9 (fun k hk => by omega), (h.en.beside h.mt (by decide) (by decide) k).kp k9 (fun k hk => by omega), ?_⟩
 show World.ownsRow _ _ _ _ _ (s.methods ++ [m]).length (mtRows (s.methods ++ [m])).flatten
 rw [mt_snoc, List.length_append]
 exact own_kp ho k9 (fun k hk => by omega)
def Bd3 (N : Nat) (σ : Sg) (s : ScS) : Prop := Bd N σ s.msgs.length ∧ Bd N σ s.enums.length ∧ Bd N σ s.methods.length
def DeclQ (w : World) (gp gs : Nat) (V : Value) (ts : List Tk) (s : ScS) (rs : List ByteArray) (w' : World) : Prop :=
 ∃ (s' : ScS) (vm ve vt : Value) (pm : List (Value × Value)) (pe : List Value), Res (pDecl s rs) s' ∧ Rf w' gp V ts (stX (pDecl s rs)) ∧ SO w' gs s' vm ve vt pm pe ∧ Kp (fun k => k = gp ∨ gs ≤ k) w w' ∧ Bd3 ts.length (stX (pDecl s rs)) s'
theorem shut3 (σ : Sg) : (∃ t r, σ = .inr (t :: r) ∧ t.data.toList = kShut.data.toList ∧ stX (pOn σ (pTake [kShut])) = .inr r ∧ anyS [kShut] (headS σ) = true) ∨
  (∃ n, σ = .inl n) ∨
  (∃ ts, σ = .inr ts ∧ ¬ pIs kShut ts = true ∧ stX (pOn σ (pTake [kShut])) = .inr ts ∧ anyS [kShut] (headS σ) = false) := by
 rcases take_cases [kShut] σ (by decide +kernel) with ⟨t, r, rfl, e1, e2, e3, e4⟩ | ⟨e1, e2, e3, e4, e5⟩
 ·left
  refine ⟨t, r, rfl, ?_, by rw [e1]; rfl, e3⟩
  rw [any_one, beq_iff_eq] at e3
  exact e3.symm
 ·cases σ with
  | inl n => exact .inr (.inl ⟨n, rfl⟩)
  | inr ts =>
   refine .inr (.inr ⟨ts, rfl, ?_, e1, e5⟩)
   cases ts with
   | nil => simp [pIs]
   | cons t r =>
    rw [is_cons]
    simp only [headS] at e5
    rw [any_one, beq_eq_false_iff_ne] at e5
    exact fun e => e5 e.symm
theorem rmember_any {w : World} {gp gm : Nat} {V : Value} {ts : List Tk} {rs : List ByteArray} {m : MsS} {vf vr : Value} (h : Rf w gp V ts (.inr rs)) (hgm : gp < gm) (BM : Blk w gm #[.string m.name, vf, vr] 40) (hf : w.ownsRow (gm + 1) 90 5 vf m.fields.length (flRows m.fields).flatten) (ho : w.ownsRow (gm + 1) 3 1 vr m.reserved.length (inRows m.reserved).flatten) (hbf : Bd ts.length (.inr rs) m.fields.length) (hbr : Bd ts.length (.inr rs) m.reserved.length) :
  Calls Tryz.prog 84 #[.pointer (some ⟨gp, 0, none⟩), .pointer (some ⟨gm, 0, none⟩)] w fun e w' => e = .returned (.tuple #[]) ∧ ∃ m' vf' vr', Res (pMember m rs) m' ∧ Rf w' gp V ts (stX (pMember m rs)) ∧ Blk w' gm #[.string m'.name, vf', vr'] 40 ∧ w'.ownsRow (gm + 1) 90 5 vf' m'.fields.length (flRows m'.fields).flatten ∧ w'.ownsRow (gm + 1) 3 1 vr' m'.reserved.length (inRows m'.reserved).flatten ∧ Kp (fun k => k = gp ∨ gm ≤ k) w w' ∧ Bd ts.length (stX (pMember m rs)) m'.fields.length ∧ Bd ts.length (stX (pMember m rs)) m'.reserved.length := by
 by_cases hr : pIs kReserved rs = true
 ·obtain ⟨t, r, rfl, ht⟩ := pIs_cons hr
  exact rmember_res h ht hgm BM hf ho hbf hbr
 ·exact rmember_fld h hr hgm BM hf ho hbf hbr
theorem bad_cell {w : World} {g : Nat} {V : Value} {ts : List Tk} {σ : Sg} (h : Rf w g V ts σ) : w.cell? ⟨g, 2, none⟩ = some (.bool (badS σ)) := by
 obtain ⟨n, hn, hm, c0, c1, c3, f1, f3⟩ := h.open
 exact c3
theorem msg_st (σ : Sg) : pOn σ pMsg = pOn (stX (pOn (stX (pOn σ pName)) (pMust kOpen))) fun r => pMembers (r.length + 1) ⟨res noT (pOn σ pName), [], []⟩ r := by
 cases σ with
 | inl n => rfl
 | inr r =>
  simp only [pOn, pMsg]
  cases pName r with
  | inl n => rfl
  | inr x =>
   obtain ⟨a, r1⟩ := x
   simp only [pBind, stX, res]
   cases pMust kOpen r1 with
   | inl n => rfl
   | inr x => obtain ⟨_, r2⟩ := x; rfl
theorem enu_st (σ : Sg) : pOn σ pEnum = pOn (stX (pOn (stX (pOn σ pName)) (pMust kOpen))) fun r => pValues (r.length + 1) ⟨res noT (pOn σ pName), []⟩ r := by
 cases σ with
 | inl n => rfl
 | inr r =>
  simp only [pOn, pEnum]
  cases pName r with
  | inl n => rfl
  | inr x =>
   obtain ⟨a, r1⟩ := x
   simp only [pBind, stX, res]
   cases pMust kOpen r1 with
   | inl n => rfl
   | inr x => obtain ⟨_, r2⟩ := x; rfl
end Go.Proofs.YtcjfeandnmochaaGreatDoor

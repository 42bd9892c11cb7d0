/- What the reader's 'field' and 'numbers' answer. -/
import Derived.Test.YtfffjfccochccaaDoorIdKind
namespace Go.Proofs.YtfffjfccochccaaDoor
open Go.ChangeShapes Go.WideShapes Go.ChangeAt Go.RowKit
set_option linter.unusedVariables false
set_option linter.unusedSimpArgs false
set_option maxRecDepth 20000

/-- A field as the reader leaves it: a name's type is a message's. -/
def pre7 (f : FlS) : FlS := ⟨f.name, f.tag, f.label, k7 f.kind, f.tname⟩
set_option maxHeartbeats 1000000 in
theorem rfield_any {w : World} {g : Nat} {V : Value} {ts : List Tk} {E : Nat} {σ : Sg} (h : Rd w g V ts E σ) :
    Calls Tryd.prog 58 #[.pointer (some ⟨g, 0, none⟩)] w fun e w' => ∃ f : FlS, e = .returned (.agg #[.string f.name, .int .i64 f.tag, .int .i64 f.label, .int .i64 (k7 f.kind), .string f.tname]) ∧ Res (pOn σ pField) f ∧ Rd w' g V ts E (stX (pOn σ pField)) ∧ Kp (fun k => k = g) w w' := by
  have HV : Hid (∀ v : NmS, Res (pOn (stX (pOn (stX (pOn σ pLab)) pType)) pValue) v →
    stX (pOn (stX (pOn (stX (pOn σ pLab)) pType)) pValue) = stX (pOn σ pField) ∧
    Res (pOn σ pField) ⟨v.name, v.n, res 1 (pOn σ pLab), (res (0, noT) (pOn (stX (pOn σ pLab)) pType)).1, (res (0, noT) (pOn (stX (pOn σ pLab)) pType)).2⟩) := field_st σ
  have hg := h.lt
  have h0 := h.alloc (.cells #[.string ⟨#[]⟩, .int .i64 0, .int .i64 0, .int .i64 0, .string ⟨#[]⟩] 43)
  have B0 := Blk.new w #[.string ⟨#[]⟩, .int .i64 0, .int .i64 0, .int .i64 0, .string ⟨#[]⟩] 43
  have K0 : Kp (fun k => k = g) w (w.alloc (.cells #[.string ⟨#[]⟩, .int .i64 0, .int .i64 0, .int .i64 0, .string ⟨#[]⟩] 43)) := (Kp.refl _ _).alloc _
  clear h
  obtain ⟨R, hR⟩ : ∃ R, w.heap.size = R := ⟨_, rfl⟩
  have HR : Hid (w.heap.size = R) := hR
  rw [hR] at hg B0
  go_enter Tryd.func58, Tryd.ntmps58
  go_wp2_with fail
  clear hR
  refine (label_any h0).mono ?_
  rintro e w1 ⟨rfl, h1, k1⟩
  have B1 := B0.kp k1 (by omega)
  have K1 := K0.trans k1
  clear h0 k1 B0 K0
  generalize res 1 (pOn σ pLab) = x1 at *
  generalize stX (pOn σ pLab) = σ1 at *
  go_wp2_with fail
  refine (rkind_any h1).mono ?_
  rintro e w2 ⟨rfl, h2, k2⟩
  have B2 := B1.kp k2 (by omega)
  have K2 := K1.trans k2
  clear h1 k2 B1 K1
  generalize res (0, noT) (pOn σ1 pType) = T at *
  generalize stX (pOn σ1 pType) = σ2 at *
  obtain ⟨T1, T2⟩ := T
  simp only at HV ⊢
  have hgT : g < w2.heap.size := h2.lt
  have hRT : R < w2.heap.size := B2.lt
  have BT := Blk.new w2 #[.int .i64 (k7 T1), .string T2] 41
  have h3 := h2.alloc (.cells #[.int .i64 (k7 T1), .string T2] 41)
  have B3 := B2.below ((Below.refl _ _).alloc (Nat.le_refl _) (.cells #[.int .i64 (k7 T1), .string T2] 41))
  have K3 := K2.alloc (.cells #[.int .i64 (k7 T1), .string T2] 41)
  clear h2 B2 K2
  obtain ⟨k, hk⟩ : ∃ k, k7 T1 = k := ⟨_, rfl⟩
  rw [hk] at BT h3 B3 K3 ⊢
  have HK : Hid (k7 T1 = k) := hk
  clear hk
  go_wp2_with fail
  generalize w2.heap.size = Tb at *
  refine (named_any h3).mono ?_
  rintro e w3 ⟨v, rfl, r4, h4, k4⟩
  have B4 := B3.kp k4 (by omega)
  have BT4 := BT.kp k4 (by omega)
  have K4 := K3.trans k4
  clear h3 k4 B3 K3 BT
  obtain ⟨hz1, hz2⟩ := HV.out v r4
  rw [hz1] at h4
  have HZ : Hid (Res (pOn σ pField) ⟨v.name, v.n, x1, T1, T2⟩) := hz2
  clear HV hz1 hz2 r4
  obtain ⟨nm, n⟩ := v
  simp only at HZ ⊢
  have t0 := BT4.cell 0
  have t1 := BT4.cell 1
  have r0 := B4.cell 0
  have r1 := B4.cell 1
  have r2 := B4.cell 2
  have r3 := B4.cell 3
  have r4 := B4.cell 4
  have f0 := B4.froz 0
  have f1 := B4.froz 1
  have f2 := B4.froz 2
  have f3 := B4.froz 3
  have f4 := B4.froz 4
  simp only [List.getElem?_toArray, List.getElem?_cons_succ, List.getElem?_cons_zero] at t0 t1 r0 r1 r2 r3 r4
  go_wp2_with fail
  refine bodyPost_ret (results_cell rfl _ _ _ ⟨R, 0, none⟩ (.agg #[.string nm, .int .i64 n, .int .i64 x1, .int .i64 k, .string T2]) (by go_simp) (by go_simp)) rfl ?_
  refine ⟨⟨nm, n, x1, T1, T2⟩, by rw [HK.out], HZ.out, ((((h4.other hg _).other hg _).other hg _).other hg _).other hg _, ?_⟩
  have hlt : R < w.heap.size → R = g := fun hlt => by have := HR.out; omega
  exact ((((K4.setCell hlt _).setCell hlt _).setCell hlt _).setCell hlt _).setCell hlt _
end Go.Proofs.YtfffjfccochccaaDoor

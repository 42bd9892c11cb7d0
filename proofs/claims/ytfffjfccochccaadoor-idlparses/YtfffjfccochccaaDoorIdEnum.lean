/- What the reader's 'enum' answers. -/
import Derived.Test.YtfffjfccochccaaDoorIdNum
import Derived.Test.YtfffjfccochccaaDoorIdKind
namespace Go.Proofs.YtfffjfccochccaaDoor
open Go.ChangeShapes Go.WideShapes Go.ChangeAt Go.RowKit
set_option linter.unusedVariables false
set_option linter.unusedSimpArgs false
set_option maxRecDepth 20000

theorem bind_onR {α β : Type} {x : PR α} {a : α} (h : Res x a) (F : α → List ByteArray → PR β) : pBind x F = pOn (stX x) (F a) := by
  cases x with
  | inl n => rfl
  | inr x => obtain ⟨b, r⟩ := x; have := h b r rfl; subst this; rfl
theorem values_step {m : EnS} {ts : List ByteArray} {v : NmS} (hs : ¬ pIs kShut ts = true) (hv : Res (pValue ts) v) : pValues (ts.length + 1) m ts = pOn (stX (pValue ts)) fun r => pValues (r.length + 1) ⟨m.name, m.values ++ [v]⟩ r := by
  rw [← bind_onR hv fun v r => pValues (r.length + 1) ⟨m.name, m.values ++ [v]⟩ r]
  show (if pIs kShut ts = true then _ else _) = _
  rw [if_neg hs]
  exact bind_congr fun v r e => values_fuel _ _ _ (value_lt ts _ _ e)
theorem values_shut {m : EnS} {t : ByteArray} {r : List ByteArray} (ht : t.data.toList = kShut.data.toList) : pValues ((t :: r).length + 1) m (t :: r) = .inr (m, r) := by
  show (if pIs kShut (t :: r) = true then _ else _) = _
  rw [if_pos (by rw [is_cons]; exact ht)]; rfl
/-- What 'open' comes to. -/
theorem shut_cases (σ : Sg) : (∃ t r, σ = .inr (t :: r) ∧ t.data.toList = kShut.data.toList ∧ stX (pOn σ (pTake [kShut])) = .inr r ∧ (!badS σ && ((res noT (pOn σ (pTake [kShut]))).data.toList == [])) = false) ∨
    (∃ n, σ = .inl n ∧ stX (pOn σ (pTake [kShut])) = .inl n ∧ (!badS σ && ((res noT (pOn σ (pTake [kShut]))).data.toList == [])) = false) ∨
    (∃ ts, σ = .inr ts ∧ ¬ pIs kShut ts = true ∧ stX (pOn σ (pTake [kShut])) = .inr ts ∧ (!badS σ && ((res noT (pOn σ (pTake [kShut]))).data.toList == [])) = true) := by
  rcases take_cases [kShut] σ (by decide +kernel) with ⟨t, r, rfl, e1, e2, e3, e4⟩ | ⟨e1, e2, e3, e4, e5⟩
  · left
    rw [any_one, beq_iff_eq] at e3
    refine ⟨t, r, rfl, e3.symm, by rw [e1]; rfl, ?_⟩
    rw [e1]; simp only [res, e4, Bool.and_false]
  · rw [e1, e2]
    cases σ with
    | inl n => exact .inr (.inl ⟨n, rfl, rfl, rfl⟩)
    | inr ts =>
      refine .inr (.inr ⟨ts, rfl, ?_, rfl, rfl⟩)
      cases ts with
      | nil => simp [pIs]
      | cons t r =>
        rw [is_cons]
        rw [any_one, beq_eq_false_iff_ne] at e5
        exact fun e => e5 e.symm
theorem own_form {w : World} {B : Nat} {e : TypeId} {s : Nat} {v : Value} {n : Nat} {xs : List Value} (h : w.ownsRow B e s v n xs) : ∃ a c, v = .slice a n c := by
  rcases h.2 with ⟨rfl, rfl⟩ | ⟨q, cap, cur, rfl, _⟩
  · exact ⟨none, 0, rfl⟩
  · exact ⟨_, _, rfl⟩
theorem infoN : (Tryd.prog.info? 93).map (fun i => (i.zero, i.size, i.bytes)) = some (some (.agg #[.string ⟨#[]⟩, .int .i64 0]), 2, 24) := by kernel_rfl
theorem nm_snoc (acc : List NmS) (v : NmS) : (nmRows (acc ++ [v])).flatten = (nmRows acc).flatten ++ [.string v.name, .int .i64 v.n] := by simp [nmRows, NmS.cells]
set_option maxHeartbeats 2000000 in
theorem renum_any {w : World} {g : Nat} {V : Value} {ts : List Tk} {E : Nat} {σ : Sg} (h : Rd w g V ts E σ) :
    Calls Tryd.prog 33 #[.pointer (some ⟨g, 0, none⟩)] w fun e w' => ∃ (m : EnS) (vv : Value), e = .returned (.agg #[.string m.name, vv]) ∧ Res (pOn σ pEnum) m ∧ Rd w' g V ts E (stX (pOn σ pEnum)) ∧ Kp (fun k => k = g) w w' ∧ w'.ownsRow w.heap.size 93 2 vv m.values.length (nmRows m.values).flatten ∧ m.values.length ≤ 100001 := by
  obtain ⟨i0, hi, hz0, hz1, hz2⟩ := info_parts infoN
  have hfew := h.few
  have hg := h.lt
  obtain ⟨Z, hZ⟩ : ∃ Z, pOn σ pEnum = Z := ⟨_, rfl⟩
  have HZ0 : Hid (Z = pOn (stX (pOn (stX (pOn σ pName)) (pMust kOpen))) fun r => pValues (r.length + 1) ⟨res noT (pOn σ pName), []⟩ r) := by
    show Z = _
    rw [← hZ]
    cases σ with
    | inl n => rfl
    | inr r =>
      simp only [pOn, pEnum]
      cases pName r with
      | inl n => rfl
      | inr x =>
        obtain ⟨a, r1⟩ := x
        simp only [pBind, stX, res]
        cases pMust kOpen r1 with
        | inl n => rfl
        | inr x => obtain ⟨_, r2⟩ := x; rfl
  rw [hZ]
  clear hZ
  have h0 := h.alloc (.cells #[.string ⟨#[]⟩, .slice none 0 0] 69)
  have B0 := Blk.new w #[.string ⟨#[]⟩, .slice none 0 0] 69
  have K0 : Kp (fun k => k = g) w (w.alloc (.cells #[.string ⟨#[]⟩, .slice none 0 0] 69)) := (Kp.refl _ _).alloc _
  clear h
  obtain ⟨R, hR⟩ : ∃ R, w.heap.size = R := ⟨_, rfl⟩
  have HR : Hid (w.heap.size = R) := hR
  rw [hR] at hg B0 ⊢
  go_enter Tryd.func33, Tryd.ntmps33
  go_wp2_with fail
  clear hR
  refine (rname_any h0).mono ?_
  rintro e w1 ⟨rfl, h1, k1⟩
  have B1 := B0.kp k1 (by omega)
  have K1 := K0.trans k1
  clear h0 k1 B0 K0
  generalize res noT (pOn σ pName) = x1 at *
  generalize stX (pOn σ pName) = σ1 at *
  have hgM : g < w1.heap.size := h1.lt
  have hRM : R < w1.heap.size := B1.lt
  have BM := Blk.new w1 #[.string x1, .slice none 0 0] 69
  have h2 := h1.alloc (.cells #[.string x1, .slice none 0 0] 69)
  have B2 := B1.below ((Below.refl _ _).alloc (Nat.le_refl _) (.cells #[.string x1, .slice none 0 0] 69))
  have K2 := K1.alloc (.cells #[.string x1, .slice none 0 0] 69)
  clear h1 B1 K1
  go_wp2_with fail
  refine (one_new kOpen _ (by simp) h2 (by decide +kernel)).mono ?_
  rintro e w2 ⟨x2, rfl, h3, k3⟩
  generalize w1.heap.size = M at *
  have B3 := B2.kp k3 (by omega)
  have BM3 := BM.kp k3 (by omega)
  have K3 := K2.trans k3
  clear h2 k3 B2 BM K2
  generalize stX (pOn σ1 (pMust kOpen)) = σ2 at *
  go_wp2_with fail
  go_loopw [4] (fun _ wr => ∃ (m : EnS) (vv : Value) (σ1 : Sg), Hid (Z = pOn σ1 fun r => pValues (r.length + 1) m r) ∧ Hid (wr.ownsRow (M + 1) 93 2 vv m.values.length (nmRows m.values).flatten) ∧ Rd wr g V ts E σ1 ∧ Kp (fun k => k = g) w wr ∧ Hid (Bd ts.length σ1 m.values.length) ∧ Blk wr R #[.string ⟨#[]⟩, .slice none 0 0] 69 ∧ Blk wr M #[.string m.name, vv] 69) (fun _ wr => msr g ts.length wr)
  case atStart => exact ⟨⟨x1, []⟩, _, σ2, HZ0, World.ownsRow_nil _ _ _ _, h3, K3, ⟨by simp, fun r hr => by have := h3.left; rw [hr] at this; simp only [leftS] at this; simpa using this⟩, B3, BM3⟩
  case round =>
    obtain ⟨m, vv, σ, HZ, HO, hr, KR, HB, BR, BM⟩ := hrel
    clear HZ0 h3 K3 B3 BM3
    have hms := msr_rd hr
    rcases shut_cases σ with ⟨t, r, rfl, ht, e1, e2⟩ | ⟨n, rfl, e1, e2⟩ | ⟨rs, rfl, hns, e1, e2⟩
    · have eZ : Z = .inr (m, r) := by rw [HZ.out]; exact values_shut ht
      subst eZ
      have HE : Hid (stX (pOn (.inr (t :: r)) (pTake [kShut])) = .inr r ∧ (!badS (.inr (t :: r)) && ((res noT (pOn (.inr (t :: r)) (pTake [kShut]))).data.toList == [])) = false) := ⟨e1, e2⟩
      have hlen : m.values.length ≤ 100001 := by have := HB.out.1; omega
      have HLen : Hid (m.values.length ≤ 100001) := hlen
      clear HZ e1 e2 hms HB ht hlen
      go_wp2_with fail
      refine (ropen_any hr).mono ?_
      rintro e w3 ⟨rfl, h4, k4⟩
      rw [HE.out.2]
      rw [HE.out.1] at h4
      have BR4 := BR.kp k4 (by omega)
      have BM4 := BM.kp k4 (by omega)
      have K4 := KR.trans k4
      have HO4 := own_kpH HO k4 (fun k hk => by omega)
      clear hr KR HO BR BM k4 HE
      obtain ⟨nm, vals⟩ := m
      simp only at BM4 HO4 HLen ⊢
      obtain ⟨va, vc, hvv⟩ := own_form HO4.out
      subst hvv
      obtain ⟨nA, hnA⟩ : ∃ n, vals.length = n := ⟨_, rfl⟩
      rw [hnA] at HO4 HLen BM4
      have HNA : Hid (vals.length = nA) := hnA
      clear hnA
      have m0 := BM4.cell 0
      have m1 := BM4.cell 1
      have r0 := BR4.cell 0
      have r1 := BR4.cell 1
      have f0 := BR4.froz 0
      have f1 := BR4.froz 1
      simp only [List.getElem?_toArray, List.getElem?_cons_succ, List.getElem?_cons_zero] at m0 m1 r0 r1
      go_wp2_with fail
      refine bodyPost_ret (results_cell rfl _ _ _ ⟨R, 0, none⟩ (.agg #[.string nm, .slice va nA vc]) (by go_simp) (by go_simp)) rfl ?_
      have hlt : R < w.heap.size → R = g := fun hlt => by have := HR.out; omega
      refine ⟨⟨nm, vals⟩, .slice va nA vc, rfl, Res.yes, (h4.other hg _).other hg _, (K4.setCell hlt _).setCell hlt _, ?_, by show vals.length ≤ _; rw [HNA.out]; exact HLen.out⟩
      have k5 : Kp (fun k => k = R) w3 ((w3.setCell ⟨R, 0, none⟩ (.string nm)).setCell ⟨R, 1, none⟩ (.slice va nA vc)) := Kp.setCell (p := ⟨R, 1, none⟩) (Kp.setCell (p := ⟨R, 0, none⟩) (Kp.refl (fun k => k = R) w3) (fun _ => rfl) _) (fun _ => rfl) _
      show World.ownsRow _ _ _ _ _ vals.length _
      rw [HNA.out]
      exact own_base (own_kp HO4.out k5 (fun k hk => by omega)) (by omega)
    · have eZ : Z = .inl n := by rw [HZ.out]; rfl
      subst eZ
      have HE : Hid (stX (pOn (.inl n) (pTake [kShut])) = .inl n ∧ (!badS (.inl n) && ((res noT (pOn (.inl n) (pTake [kShut]))).data.toList == [])) = false) := ⟨e1, e2⟩
      have hlen : m.values.length ≤ 100001 := by have := HB.out.1; omega
      have HLen : Hid (m.values.length ≤ 100001) := hlen
      clear HZ e1 e2 hms HB hlen
      go_wp2_with fail
      refine (ropen_any hr).mono ?_
      rintro e w3 ⟨rfl, h4, k4⟩
      rw [HE.out.2]
      rw [HE.out.1] at h4
      have BR4 := BR.kp k4 (by omega)
      have BM4 := BM.kp k4 (by omega)
      have K4 := KR.trans k4
      have HO4 := own_kpH HO k4 (fun k hk => by omega)
      clear hr KR HO BR BM k4 HE
      obtain ⟨nm, vals⟩ := m
      simp only at BM4 HO4 HLen ⊢
      obtain ⟨va, vc, hvv⟩ := own_form HO4.out
      subst hvv
      obtain ⟨nA, hnA⟩ : ∃ n, vals.length = n := ⟨_, rfl⟩
      rw [hnA] at HO4 HLen BM4
      have HNA : Hid (vals.length = nA) := hnA
      clear hnA
      have m0 := BM4.cell 0
      have m1 := BM4.cell 1
      have r0 := BR4.cell 0
      have r1 := BR4.cell 1
      have f0 := BR4.froz 0
      have f1 := BR4.froz 1
      simp only [List.getElem?_toArray, List.getElem?_cons_succ, List.getElem?_cons_zero] at m0 m1 r0 r1
      go_wp2_with fail
      refine bodyPost_ret (results_cell rfl _ _ _ ⟨R, 0, none⟩ (.agg #[.string nm, .slice va nA vc]) (by go_simp) (by go_simp)) rfl ?_
      have hlt : R < w.heap.size → R = g := fun hlt => by have := HR.out; omega
      refine ⟨⟨nm, vals⟩, .slice va nA vc, rfl, Res.no, (h4.other hg _).other hg _, (K4.setCell hlt _).setCell hlt _, ?_, by show vals.length ≤ _; rw [HNA.out]; exact HLen.out⟩
      have k5 : Kp (fun k => k = R) w3 ((w3.setCell ⟨R, 0, none⟩ (.string nm)).setCell ⟨R, 1, none⟩ (.slice va nA vc)) := Kp.setCell (p := ⟨R, 1, none⟩) (Kp.setCell (p := ⟨R, 0, none⟩) (Kp.refl (fun k => k = R) w3) (fun _ => rfl) _) (fun _ => rfl) _
      show World.ownsRow _ _ _ _ _ vals.length _
      rw [HNA.out]
      exact own_base (own_kp HO4.out k5 (fun k hk => by omega)) (by omega)
    · have HE : Hid (stX (pOn (.inr rs) (pTake [kShut])) = .inr rs ∧ (!badS (.inr rs) && ((res noT (pOn (.inr rs) (pTake [kShut]))).data.toList == [])) = true) := ⟨e1, e2⟩
      have HZ2 : Hid (∀ v : NmS, Res (pValue rs) v → Z = pOn (stX (pValue rs)) fun r => pValues (r.length + 1) ⟨m.name, m.values ++ [v]⟩ r) := by
        intro v hv
        rw [HZ.out]
        exact values_step hns hv
      have HB2 : Hid (Bd ts.length (stX (pValue rs)) (m.values.length + 1)) := HB.out.step (value_lt rs)
      have hlen : m.values.length ≤ 100000 := by have := HB.out.2 rs rfl; omega
      have HW : Hid (weigh (stX (pValue rs)) < msr g ts.length wr) := by show _ < _; rw [hms]; exact weigh_lt (value_lt rs) (value_in rs)
      clear HZ e1 e2 hms HB hns
      obtain ⟨nm, vals⟩ := m
      simp only at BM HO HZ2 HB2 hlen
      obtain ⟨nA, hnA⟩ : ∃ n, vals.length = n := ⟨_, rfl⟩
      rw [hnA] at hlen HO HB2
      have HNA : Hid (vals.length = nA) := hnA
      clear hnA
      go_wp2_with fail
      refine (ropen_any hr).mono ?_
      rintro e w3 ⟨rfl, h4, k4⟩
      rw [HE.out.2]
      rw [HE.out.1] at h4
      have BR4 := BR.kp k4 (by omega)
      have BM4 := BM.kp k4 (by omega)
      have K4 := KR.trans k4
      have HO4 := own_kpH HO k4 (fun k hk => by omega)
      clear hr KR HO BR BM k4 HE
      go_wp2_with fail
      refine (named_any h4).mono ?_
      rintro e w4 ⟨v, rfl, rv, h5, k5⟩
      have e0 : pOn (.inr rs) pValue = pValue rs := rfl
      rw [e0] at h5 rv
      clear e0
      have BR5 := BR4.kp k5 (by omega)
      have BM5 := BM4.kp k5 (by omega)
      have K5 := K4.trans k5
      have HO5 := own_kpH HO4 k5 (fun k hk => by omega)
      have HZ3 : Hid (Z = pOn (stX (pValue rs)) fun r => pValues (r.length + 1) ⟨nm, vals ++ [v]⟩ r) := HZ2.out v rv
      clear h4 K4 HO4 BR4 BM4 k5 HZ2 rv
      generalize stX (pValue rs) = σ3 at *
      have hM5 : M + 1 ≤ w4.heap.size := BM5.lt
      have m1 := BM5.cell 1
      have fm1 := BM5.froz 1
      simp only [List.getElem?_toArray, List.getElem?_cons_succ, List.getElem?_cons_zero] at m1
      have HMV : Hid (∀ W : World, Kp (fun k => M + 1 ≤ k) w4 W → W.cell? ⟨M, 1, none⟩ = some vv ∧ W.frozen? ⟨M, 1, none⟩ = false) := fun W hW => by
        have := BM5.kp hW (by omega)
        exact ⟨(this.cell 1).trans rfl, this.froz 1⟩
      obtain ⟨vn, vi⟩ := v
      simp only at HZ3 ⊢
      go_wp2_with (first
        | (at_builtin; refine wpList_append_own_at _ rfl _ _ 67 rfl (M + 1) 93 i0 _ 2 24 Tryd.underlying67 hi hz0 hz1 hz2 rfl (by decide) _ _ _ rfl (HO5.out.alloc _) ⟨w4.heap.size, 0, none⟩ 1 1 [.string vn, .int .i64 vi] rfl rfl (cells_new _ #[.string vn, .int .i64 vi] _) ?c2 ?c3 ?c4 ?c5 ?_)
        | fail)
      case c2 => intro u hu; simp at hu; rcases hu with rfl | rfl <;> rfl
      case c3 => unfold maxLen; omega
      case c4 => omega
      case c5 => simp; omega
      intro v6 w6 ho6 hg6 _ hat6
      have k56 : Kp (fun k => M + 1 ≤ k) w4 w6 := ((Kp.refl _ _).alloc _).grown hg6 (fun k hk _ => (HO5.out.lt k hk).1)
      have h6 : Rd w6 g V ts E σ3 := h5.kp k56 (fun k hk => by omega)
      have BR6 := BR5.kp k56 (by omega)
      have BM6 := BM5.kp k56 (by omega)
      have K6 : Kp (fun k => k = g) w w6 := K5.trans2 k56 (fun k hk hS => by have := HR.out; omega)
      obtain ⟨mc, mf⟩ := HMV.out w6 k56
      have HO6 : Hid (w6.ownsRow (M + 1) 93 2 v6 (vals ++ [(⟨vn, vi⟩ : NmS)]).length (nmRows (vals ++ [⟨vn, vi⟩])).flatten) := by
        show World.ownsRow _ _ _ _ _ _ _
        rw [nm_snoc, List.length_append, HNA.out]; exact ho6
      have HB6 : Hid (Bd ts.length σ3 (vals ++ [(⟨vn, vi⟩ : NmS)]).length) := by
        show Bd _ _ _
        rw [List.length_append, HNA.out]; exact HB2.out
      obtain ⟨va, vc, hv6⟩ := own_form ho6
      subst hv6
      clear ho6 hg6 hat6 k56 HO5 h5 K5 BR5 BM5 HMV m1 fm1 HB2
      have h7 : Rd (w6.setCell ⟨M, 1, none⟩ (.slice va (nA + 1) vc)) g V ts E σ3 := h6.other hgM _
      have BR7 := BR6.other (a := ⟨M, 1, none⟩) (by simp only; omega) (.slice va (nA + 1) vc)
      have BM7 : Blk (w6.setCell ⟨M, 1, none⟩ (.slice va (nA + 1) vc)) M #[.string nm, .slice va (nA + 1) vc] 69 := BM6.set 1 _ rfl
      have K7 : Kp (fun k => k = g) w (w6.setCell ⟨M, 1, none⟩ (.slice va (nA + 1) vc)) := K6.setCell (fun hlt => by have := HR.out; simp only at hlt; omega) _
      have HO7 : Hid ((w6.setCell ⟨M, 1, none⟩ (.slice va (nA + 1) vc)).ownsRow (M + 1) 93 2 (.slice va (nA + 1) vc) (vals ++ [(⟨vn, vi⟩ : NmS)]).length (nmRows (vals ++ [⟨vn, vi⟩])).flatten) := ownsRow_setCell_below HO6.out (by simp only; omega) _
      have HM : Hid (msr g ts.length (w6.setCell ⟨M, 1, none⟩ (.slice va (nA + 1) vc)) < msr g ts.length wr) := by
        show _ < _
        rw [msr_rd h7]; exact HW.out
      clear h6 BR6 BM6 K6 HO6 HW
      go_wp2_with fail
      go_roundw
      case rel => exact ⟨⟨nm, vals ++ [⟨vn, vi⟩]⟩, _, σ3, HZ3, HO7, h7, K7, HB6, BR7, BM7⟩
      case measure => exact HM.out
end Go.Proofs.YtfffjfccochccaaDoor

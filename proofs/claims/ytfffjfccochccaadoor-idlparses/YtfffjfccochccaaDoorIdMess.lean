/- What the reader's 'message' answers. -/
import Derived.Test.YtfffjfccochccaaDoorIdEnum
import Derived.Test.YtfffjfccochccaaDoorIdField
import Derived.Test.YtfffjfccochccaaDoorRg3
namespace Go.Proofs.YtfffjfccochccaaDoor
open Go.ChangeShapes Go.WideShapes Go.ChangeAt Go.RowKit
set_option linter.unusedVariables false
set_option linter.unusedSimpArgs false
set_option maxRecDepth 20000

theorem bind_assoc {α β γ : Type} (x : PR α) (F : α → List ByteArray → PR β) (G : β → List ByteArray → PR γ) : pBind (pBind x F) G = pBind x fun a r => pBind (F a r) G := by
  cases x with
  | inl n => rfl
  | inr x => obtain ⟨a, r⟩ := x; rfl
theorem st_map {α β : Type} (x : PR α) (f : α → β) : stX (pBind x fun a r => (.inr (f a, r) : PR β)) = stX x := by
  cases x with
  | inl n => rfl
  | inr x => obtain ⟨a, r⟩ := x; rfl
theorem res_map {α β : Type} {x : PR α} {a : α} (f : α → β) (h : Res x a) : Res (pBind x fun a r => (.inr (f a, r) : PR β)) (f a) := by
  cases x with
  | inl n => exact Res.no
  | inr x => obtain ⟨b, r⟩ := x; have := h b r rfl; subst this; exact Res.yes
theorem members_step {m m' : MsS} {ts : List ByteArray} (hs : ¬ pIs kShut ts = true) (hv : Res (pMember m ts) m') : pMembers (ts.length + 1) m ts = pOn (stX (pMember m ts)) fun r => pMembers (r.length + 1) m' r := by
  rw [← bind_onR hv fun m' r => pMembers (r.length + 1) m' r]
  show (if pIs kShut ts = true then _ else _) = _
  rw [if_neg hs]
  exact bind_congr fun v r e => members_fuel _ _ _ (member_lt m ts _ _ e)
theorem members_shut {m : MsS} {t : ByteArray} {r : List ByteArray} (ht : t.data.toList = kShut.data.toList) : pMembers ((t :: r).length + 1) m (t :: r) = .inr (m, r) := by
  show (if pIs kShut (t :: r) = true then _ else _) = _
  rw [if_pos (by rw [is_cons]; exact ht)]; rfl
theorem member_res {m : MsS} {t : ByteArray} {r : List ByteArray} {l : List Int} (ht : t.data.toList = kReserved.data.toList) (hl : Res (pBind (pNum r) fun n r => pMore r.length (m.reserved ++ [(n : Int)]) r) l) :
    stX (pMember m (t :: r)) = stX (pBind (pNum r) fun n r => pMore r.length (m.reserved ++ [(n : Int)]) r) ∧ Res (pMember m (t :: r)) ⟨m.name, m.fields, l⟩ := by
  have e : pMember m (t :: r) = pBind (pBind (pNum r) fun n r => pMore r.length (m.reserved ++ [(n : Int)]) r) fun l r2 => (.inr (⟨m.name, m.fields, l⟩, r2) : PR MsS) := by
    unfold pMember
    rw [if_pos (by rw [is_cons]; exact ht), bind_assoc]; rfl
  rw [e]
  exact ⟨st_map _ (fun l => (⟨m.name, m.fields, l⟩ : MsS)), res_map (fun l => (⟨m.name, m.fields, l⟩ : MsS)) hl⟩
theorem member_fld {m : MsS} {ts : List ByteArray} {f : FlS} (hs : ¬ pIs kReserved ts = true) (hf : Res (pField ts) f) :
    stX (pMember m ts) = stX (pField ts) ∧ Res (pMember m ts) ⟨m.name, m.fields ++ [f], m.reserved⟩ := by
  have e : pMember m ts = pBind (pField ts) fun f r => (.inr (⟨m.name, m.fields ++ [f], m.reserved⟩, r) : PR MsS) := by
    unfold pMember
    rw [if_neg hs]
  rw [e]
  exact ⟨st_map _ (fun f => (⟨m.name, m.fields ++ [f], m.reserved⟩ : MsS)), res_map (fun f => (⟨m.name, m.fields ++ [f], m.reserved⟩ : MsS)) hf⟩
/-- What stands at a member's beginning. -/
theorem reserved_cases (ts : List ByteArray) :
    (∃ t r, ts = t :: r ∧ t.data.toList = kReserved.data.toList ∧ pOn (.inr ts) (pTake [kReserved]) = .inr (t, r)) ∨
    (¬ pIs kReserved ts = true ∧ stX (pOn (.inr ts) (pTake [kReserved])) = .inr ts ∧ res noT (pOn (.inr ts) (pTake [kReserved])) = noT) := by
  rcases take_cases [kReserved] (.inr ts) (by decide +kernel) with ⟨t, r, e0, e1, e2, e3, e4⟩ | ⟨e1, e2, e3, e4, e5⟩
  · left
    rw [any_one, beq_iff_eq] at e3
    simp only [Sum.inr.injEq] at e0
    exact ⟨t, r, e0, e3.symm, e1⟩
  · right
    refine ⟨?_, e1, e2⟩
    cases ts with
    | nil => simp [pIs]
    | cons t r =>
      rw [is_cons]
      rw [any_one, beq_eq_false_iff_ne] at e5
      exact fun e => e5 e.symm
theorem infoF : (Tryd.prog.info? 43).map (fun i => (i.zero, i.size, i.bytes)) = some (some (.agg #[.string ⟨#[]⟩, .int .i64 0, .int .i64 0, .int .i64 0, .string ⟨#[]⟩]), 5, 56) := by kernel_rfl
theorem fl_snoc (acc : List FlS) (f : FlS) : (flRows ((acc ++ [f]).map pre7)).flatten = (flRows (acc.map pre7)).flatten ++ [.string f.name, .int .i64 f.tag, .int .i64 f.label, .int .i64 (k7 f.kind), .string f.tname] := by simp [flRows, FlS.cells, pre7]
set_option maxHeartbeats 4000000 in
theorem rmessage_any {w : World} {g : Nat} {V : Value} {ts : List Tk} {E : Nat} {σ : Sg} (h : Rd w g V ts E σ) :
    Calls Tryd.prog 32 #[.pointer (some ⟨g, 0, none⟩)] w fun e w' => ∃ (m : MsS) (vf vr : Value), e = .returned (.agg #[.string m.name, vf, vr]) ∧ Res (pOn σ pMsg) m ∧ Rd w' g V ts E (stX (pOn σ pMsg)) ∧ Kp (fun k => k = g) w w' ∧ w'.ownsRow w.heap.size 43 5 vf m.fields.length (flRows (m.fields.map pre7)).flatten ∧ w'.ownsRow w.heap.size 3 1 vr m.reserved.length (inRows m.reserved).flatten := by
  obtain ⟨i0, hi, hz0, hz1, hz2⟩ := info_parts infoF
  have hfew := h.few
  have hg := h.lt
  obtain ⟨Z, hZ⟩ : ∃ Z, pOn σ pMsg = Z := ⟨_, rfl⟩
  have HZ0 : Hid (Z = pOn (stX (pOn (stX (pOn σ pName)) (pMust kOpen))) fun r => pMembers (r.length + 1) ⟨res noT (pOn σ pName), [], []⟩ r) := by
    show Z = _
    rw [← hZ]
    cases σ with
    | inl n => rfl
    | inr r =>
      simp only [pOn, pMsg]
      cases pName r with
      | inl n => rfl
      | inr x =>
        obtain ⟨a, r1⟩ := x
        simp only [pBind, stX, res]
        cases pMust kOpen r1 with
        | inl n => rfl
        | inr x => obtain ⟨_, r2⟩ := x; rfl
  rw [hZ]
  clear hZ
  have h0 := h.alloc (.cells #[.string ⟨#[]⟩, .slice none 0 0, .slice none 0 0] 45)
  have B0 := Blk.new w #[.string ⟨#[]⟩, .slice none 0 0, .slice none 0 0] 45
  have K0 : Kp (fun k => k = g) w (w.alloc (.cells #[.string ⟨#[]⟩, .slice none 0 0, .slice none 0 0] 45)) := (Kp.refl _ _).alloc _
  clear h
  obtain ⟨R, hR⟩ : ∃ R, w.heap.size = R := ⟨_, rfl⟩
  have HR : Hid (w.heap.size = R) := hR
  rw [hR] at hg B0 ⊢
  go_enter Tryd.func32, Tryd.ntmps32
  go_wp2_with fail
  clear hR
  refine (rname_any h0).mono ?_
  rintro e w1 ⟨rfl, h1, k1⟩
  have B1 := B0.kp k1 (by omega)
  have K1 := K0.trans k1
  clear h0 k1 B0 K0
  generalize res noT (pOn σ pName) = x1 at *
  generalize stX (pOn σ pName) = σ1 at *
  have hgM : g < w1.heap.size := h1.lt
  have hRM : R < w1.heap.size := B1.lt
  have BM := Blk.new w1 #[.string x1, .slice none 0 0, .slice none 0 0] 45
  have h2 := h1.alloc (.cells #[.string x1, .slice none 0 0, .slice none 0 0] 45)
  have B2 := B1.below ((Below.refl _ _).alloc (Nat.le_refl _) (.cells #[.string x1, .slice none 0 0, .slice none 0 0] 45))
  have K2 := K1.alloc (.cells #[.string x1, .slice none 0 0, .slice none 0 0] 45)
  clear h1 B1 K1
  go_wp2_with fail
  refine (one_new kOpen _ (by simp) h2 (by decide +kernel)).mono ?_
  rintro e w2 ⟨x2, rfl, h3, k3⟩
  generalize w1.heap.size = M at *
  have B3 := B2.kp k3 (by omega)
  have BM3 := BM.kp k3 (by omega)
  have K3 := K2.trans k3
  clear h2 k3 B2 BM K2
  generalize stX (pOn σ1 (pMust kOpen)) = σ2 at *
  go_wp2_with fail
  go_loopw [22] (fun _ wr => ∃ (m : MsS) (vf vr : Value) (σ1 : Sg), Hid (Z = pOn σ1 fun r => pMembers (r.length + 1) m r) ∧ Hid (wr.ownsRow (M + 1) 43 5 vf m.fields.length (flRows (m.fields.map pre7)).flatten) ∧ Hid (wr.ownsRow (M + 1) 3 1 vr m.reserved.length (inRows m.reserved).flatten) ∧ Rd wr g V ts E σ1 ∧ Kp (fun k => k = g) w wr ∧ Hid (Bd ts.length σ1 m.fields.length) ∧ Hid (Bd ts.length σ1 m.reserved.length) ∧ Blk wr R #[.string ⟨#[]⟩, .slice none 0 0, .slice none 0 0] 45 ∧ Blk wr M #[.string m.name, vf, vr] 45) (fun _ wr => msr g ts.length wr)
  case atStart =>
    have hb : Bd ts.length σ2 0 := ⟨by simp, fun r hr => by have := h3.left; rw [hr] at this; simp only [leftS] at this; simpa using this⟩
    exact ⟨⟨x1, [], []⟩, _, _, σ2, HZ0, World.ownsRow_nil _ _ _ _, World.ownsRow_nil _ _ _ _, h3, K3, hb, hb, B3, BM3⟩
  case round =>
    obtain ⟨m, vf, vr, σ, HZ, HF, HO, hr, KR, HBF, HB, BR, BM⟩ := hrel
    clear HZ0 h3 K3 B3 BM3
    have hms := msr_rd hr
    rcases shut_cases σ with ⟨t, r, rfl, ht, e1, e2⟩ | ⟨n, rfl, e1, e2⟩ | ⟨rs, rfl, hns, e1, e2⟩
    · have eZ : Z = .inr (m, r) := by rw [HZ.out]; exact members_shut ht
      subst eZ
      have HE : Hid (stX (pOn (.inr (t :: r)) (pTake [kShut])) = .inr r ∧ (!badS (.inr (t :: r)) && ((res noT (pOn (.inr (t :: r)) (pTake [kShut]))).data.toList == [])) = false) := ⟨e1, e2⟩
      clear HZ e1 e2 hms HB HBF
      go_wp2_with fail
      refine (ropen_any hr).mono ?_
      rintro e w3 ⟨rfl, h4, k4⟩
      rw [HE.out.2]
      rw [HE.out.1] at h4
      have BR4 := BR.kp k4 (by omega)
      have BM4 := BM.kp k4 (by omega)
      have K4 := KR.trans k4
      have HO4 := own_kpH HO k4 (fun k hk => by omega)
      have HF4 := own_kpH HF k4 (fun k hk => by omega)
      clear hr KR HO HF BR BM k4 HE
      obtain ⟨nm, fls, rvs⟩ := m
      simp only at BM4 HO4 HF4
      obtain ⟨va, vc, hvv⟩ := own_form HF4.out
      subst hvv
      obtain ⟨ra, rc, hvv⟩ := own_form HO4.out
      subst hvv
      obtain ⟨nA, hnA⟩ : ∃ n, fls.length = n := ⟨_, rfl⟩
      rw [hnA] at HF4 BM4
      have HNA : Hid (fls.length = nA) := hnA
      obtain ⟨nB, hnB⟩ : ∃ n, rvs.length = n := ⟨_, rfl⟩
      rw [hnB] at HO4 BM4
      have HNB : Hid (rvs.length = nB) := hnB
      clear hnA hnB
      have m0 := BM4.cell 0
      have m1 := BM4.cell 1
      have m2 := BM4.cell 2
      have r0 := BR4.cell 0
      have r1 := BR4.cell 1
      have r2 := BR4.cell 2
      have f0 := BR4.froz 0
      have f1 := BR4.froz 1
      have f2 := BR4.froz 2
      simp only [List.getElem?_toArray, List.getElem?_cons_succ, List.getElem?_cons_zero] at m0 m1 m2 r0 r1 r2
      go_wp2_with fail
      refine bodyPost_ret (results_cell rfl _ _ _ ⟨R, 0, none⟩ (.agg #[.string nm, .slice va nA vc, .slice ra nB rc]) (by go_simp) (by go_simp)) rfl ?_
      have hlt : R < w.heap.size → R = g := fun hlt => by have := HR.out; omega
      have k5 : Kp (fun k => k = R) w3 (((w3.setCell ⟨R, 0, none⟩ (.string nm)).setCell ⟨R, 1, none⟩ (.slice va nA vc)).setCell ⟨R, 2, none⟩ (.slice ra nB rc)) := Kp.setCell (p := ⟨R, 2, none⟩) (Kp.setCell (p := ⟨R, 1, none⟩) (Kp.setCell (p := ⟨R, 0, none⟩) (Kp.refl (fun k => k = R) w3) (fun _ => rfl) _) (fun _ => rfl) _) (fun _ => rfl) _
      refine ⟨⟨nm, fls, rvs⟩, .slice va nA vc, .slice ra nB rc, rfl, Res.yes, ((h4.other hg _).other hg _).other hg _, ((K4.setCell hlt _).setCell hlt _).setCell hlt _, ?_, ?_⟩
      · show World.ownsRow _ _ _ _ _ fls.length _
        rw [HNA.out]
        exact own_base (own_kp HF4.out k5 (fun k hk => by omega)) (by omega)
      · show World.ownsRow _ _ _ _ _ rvs.length _
        rw [HNB.out]
        exact own_base (own_kp HO4.out k5 (fun k hk => by omega)) (by omega)
    · have eZ : Z = .inl n := by rw [HZ.out]; exact rfl
      subst eZ
      have HE : Hid (stX (pOn (.inl n) (pTake [kShut])) = .inl n ∧ (!badS (.inl n) && ((res noT (pOn (.inl n) (pTake [kShut]))).data.toList == [])) = false) := ⟨e1, e2⟩
      clear HZ e1 e2 hms HB HBF
      go_wp2_with fail
      refine (ropen_any hr).mono ?_
      rintro e w3 ⟨rfl, h4, k4⟩
      rw [HE.out.2]
      rw [HE.out.1] at h4
      have BR4 := BR.kp k4 (by omega)
      have BM4 := BM.kp k4 (by omega)
      have K4 := KR.trans k4
      have HO4 := own_kpH HO k4 (fun k hk => by omega)
      have HF4 := own_kpH HF k4 (fun k hk => by omega)
      clear hr KR HO HF BR BM k4 HE
      obtain ⟨nm, fls, rvs⟩ := m
      simp only at BM4 HO4 HF4
      obtain ⟨va, vc, hvv⟩ := own_form HF4.out
      subst hvv
      obtain ⟨ra, rc, hvv⟩ := own_form HO4.out
      subst hvv
      obtain ⟨nA, hnA⟩ : ∃ n, fls.length = n := ⟨_, rfl⟩
      rw [hnA] at HF4 BM4
      have HNA : Hid (fls.length = nA) := hnA
      obtain ⟨nB, hnB⟩ : ∃ n, rvs.length = n := ⟨_, rfl⟩
      rw [hnB] at HO4 BM4
      have HNB : Hid (rvs.length = nB) := hnB
      clear hnA hnB
      have m0 := BM4.cell 0
      have m1 := BM4.cell 1
      have m2 := BM4.cell 2
      have r0 := BR4.cell 0
      have r1 := BR4.cell 1
      have r2 := BR4.cell 2
      have f0 := BR4.froz 0
      have f1 := BR4.froz 1
      have f2 := BR4.froz 2
      simp only [List.getElem?_toArray, List.getElem?_cons_succ, List.getElem?_cons_zero] at m0 m1 m2 r0 r1 r2
      go_wp2_with fail
      refine bodyPost_ret (results_cell rfl _ _ _ ⟨R, 0, none⟩ (.agg #[.string nm, .slice va nA vc, .slice ra nB rc]) (by go_simp) (by go_simp)) rfl ?_
      have hlt : R < w.heap.size → R = g := fun hlt => by have := HR.out; omega
      have k5 : Kp (fun k => k = R) w3 (((w3.setCell ⟨R, 0, none⟩ (.string nm)).setCell ⟨R, 1, none⟩ (.slice va nA vc)).setCell ⟨R, 2, none⟩ (.slice ra nB rc)) := Kp.setCell (p := ⟨R, 2, none⟩) (Kp.setCell (p := ⟨R, 1, none⟩) (Kp.setCell (p := ⟨R, 0, none⟩) (Kp.refl (fun k => k = R) w3) (fun _ => rfl) _) (fun _ => rfl) _) (fun _ => rfl) _
      refine ⟨⟨nm, fls, rvs⟩, .slice va nA vc, .slice ra nB rc, rfl, Res.no, ((h4.other hg _).other hg _).other hg _, ((K4.setCell hlt _).setCell hlt _).setCell hlt _, ?_, ?_⟩
      · show World.ownsRow _ _ _ _ _ fls.length _
        rw [HNA.out]
        exact own_base (own_kp HF4.out k5 (fun k hk => by omega)) (by omega)
      · show World.ownsRow _ _ _ _ _ rvs.length _
        rw [HNB.out]
        exact own_base (own_kp HO4.out k5 (fun k hk => by omega)) (by omega)
    · have HE : Hid (stX (pOn (.inr rs) (pTake [kShut])) = .inr rs ∧ (!badS (.inr rs) && ((res noT (pOn (.inr rs) (pTake [kShut]))).data.toList == [])) = true) := ⟨e1, e2⟩
      have HZ2 : Hid (∀ m' : MsS, Res (pMember m rs) m' → Z = pOn (stX (pMember m rs)) fun r => pMembers (r.length + 1) m' r) := by
        intro v hv
        rw [HZ.out]
        exact members_step hns hv
      have HW : Hid (weigh (stX (pMember m rs)) < msr g ts.length wr) := by show _ < _; rw [hms]; exact weigh_lt (member_lt m rs) (member_in m rs)
      clear HZ e1 e2 hms hns
      go_wp2_with fail
      refine (ropen_any hr).mono ?_
      rintro e w3 ⟨rfl, h4, k4⟩
      rw [HE.out.2]
      rw [HE.out.1] at h4
      have BR4 := BR.kp k4 (by omega)
      have BM4 := BM.kp k4 (by omega)
      have K4 := KR.trans k4
      have HO4 := own_kpH HO k4 (fun k hk => by omega)
      have HF4 := own_kpH HF k4 (fun k hk => by omega)
      clear hr KR HO HF BR BM k4 HE
      rcases reserved_cases rs with ⟨t, r, rfl, ht, e1⟩ | ⟨hnr, e1, e2⟩
      · have HE : Hid (pOn (.inr (t :: r)) (pTake [kReserved]) = .inr (t, r)) := e1
        have hd : (t.toList == [114, 101, 115, 101, 114, 118, 101, 100]) = true := by rw [ByteArray.toList_eq, ht]; decide +kernel
        have HT : Hid (t.data.toList = kReserved.data.toList) := ht
        clear e1 ht
        go_wp2_with fail
        refine (take_new kReserved _ rfl h4 (by decide +kernel)).mono ?_
        rintro e w4 ⟨rfl, h5, k5⟩
        rw [HE.out] at h5 ⊢
        simp only [res, stX] at h5 ⊢
        have BR5 := BR4.kp k5 (by omega)
        have BM5 := BM4.kp k5 (by omega)
        have K5 := K4.trans k5
        have HO5 := own_kpH HO4 k5 (fun k hk => by omega)
        have HF5 := own_kpH HF4 k5 (fun k hk => by omega)
        clear h4 K4 HO4 HF4 BR4 BM4 k5 HE
        have HB5 : Hid (Bd ts.length (.inr r) m.reserved.length) := HB.out.keep (x := (.inr ((), r) : PR Unit)) (fun a r' e => by simp at e; rw [← e]; simp)
        have hM5 : M + 1 ≤ w4.heap.size := BM5.lt
        have m2 := BM5.cell 2
        simp only [List.getElem?_toArray, List.getElem?_cons_succ, List.getElem?_cons_zero] at m2
        go_wp2_with fail
        refine (numbers_any h5 (B := M + 1) (by omega) hM5 HO5.out HB5.out).mono ?_
        rintro e w5 ⟨v6, acc6, rfl, q6, h6, ho6, k6, b6⟩
        obtain ⟨q7, q8⟩ := member_res HT.out q6
        have HZ3 := HZ2.out _ q8
        rw [← q7] at h6 b6
        have HZ6 : Hid (Z = pOn (stX (pMember m (t :: r))) fun r => pMembers (r.length + 1) ⟨m.name, m.fields, acc6⟩ r) := HZ3
        have hnot : ∀ k, k ≤ M → ¬ (k = g ∨ vr.ownBlock = some k) → True := fun _ _ _ => trivial
        have hSM : ¬ (M = g ∨ vr.ownBlock = some M) := by
          rintro (e | e)
          · omega
          · have := (HO5.out.lt M e).1; omega
        have hSR : ¬ (R = g ∨ vr.ownBlock = some R) := by
          rintro (e | e)
          · omega
          · have := (HO5.out.lt R e).1; omega
        have BR6 := BR5.kp k6 hSR
        have BM6 := BM5.kp k6 hSM
        have HF6 : Hid (w5.ownsRow (M + 1) 43 5 vf m.fields.length (flRows (m.fields.map pre7)).flatten) := own_kpV HF5.out k6 (fun k hk => by
          rintro (e | e)
          · have := (HF5.out.lt k hk).1; omega
          · exact own_apart HF5.out HO5.out (by decide) k hk e)
        have HBF6 : Hid (Bd ts.length (stX (pMember m (t :: r))) m.fields.length) := HBF.out.keep (member_lt m (t :: r)).le
        have K6 : Kp (fun k => k = g) w w5 := K5.trans2 k6 (fun k hk hS => by
          rcases hS with e | e
          · exact e
          · have := (HO5.out.lt k e).1; have := HR.out; omega)
        obtain ⟨ra, rc, hvv⟩ := own_form ho6
        subst hvv
        have HO6 : Hid (w5.ownsRow (M + 1) 3 1 (.slice ra acc6.length rc) acc6.length (inRows acc6).flatten) := ho6
        have HB6 : Hid (Bd ts.length (stX (pMember m (t :: r))) acc6.length) := b6
        clear h5 K5 HO5 HF5 BR5 BM5 k6 HB5 m2 q6 q7 q8 HZ3 HZ2 HB HBF ho6 b6 hSM hSR hnot HT
        generalize stX (pMember m (t :: r)) = σ3 at *
        have mc := BM6.cell 2
        have mf := BM6.froz 2
        simp only [List.getElem?_toArray, List.getElem?_cons_succ, List.getElem?_cons_zero] at mc
        obtain ⟨nm, fls, rvs⟩ := m
        simp only at BM6 HF6 HBF6 HZ6
        obtain ⟨nA, hnA⟩ : ∃ n, acc6.length = n := ⟨_, rfl⟩
        rw [hnA] at HO6 ⊢
        have HNA : Hid (acc6.length = nA) := hnA
        clear hnA
        have h7 : Rd (w5.setCell ⟨M, 2, none⟩ (.slice ra nA rc)) g V ts E σ3 := h6.other hgM _
        have BR7 := BR6.other (a := ⟨M, 2, none⟩) (by simp only; omega) (.slice ra nA rc)
        have BM7 : Blk (w5.setCell ⟨M, 2, none⟩ (.slice ra nA rc)) M #[.string nm, vf, .slice ra nA rc] 45 := BM6.set 2 _ rfl
        have K7 : Kp (fun k => k = g) w (w5.setCell ⟨M, 2, none⟩ (.slice ra nA rc)) := K6.setCell (fun hlt => by have := HR.out; simp only at hlt; omega) _
        have HO7 : Hid ((w5.setCell ⟨M, 2, none⟩ (.slice ra nA rc)).ownsRow (M + 1) 3 1 (.slice ra nA rc) acc6.length (inRows acc6).flatten) := by
          show World.ownsRow _ _ _ _ _ _ _
          rw [HNA.out]
          exact ownsRow_setCell_below HO6.out (by simp only; omega) _
        have HF7 : Hid ((w5.setCell ⟨M, 2, none⟩ (.slice ra nA rc)).ownsRow (M + 1) 43 5 vf fls.length (flRows (fls.map pre7)).flatten) := ownsRow_setCell_below HF6.out (by simp only; omega) _
        have HM : Hid (msr g ts.length (w5.setCell ⟨M, 2, none⟩ (.slice ra nA rc)) < msr g ts.length wr) := by
          show _ < _
          rw [msr_rd h7]; exact HW.out
        clear h6 BR6 BM6 K6 HO6 HF6 HW
        go_wp2_with fail
        go_roundw
        case rel => exact ⟨⟨nm, fls, acc6⟩, vf, _, σ3, HZ6, HF7, HO7, h7, K7, HBF6, HB6, BR7, BM7⟩
        case measure => exact HM.out
      · have HE : Hid (stX (pOn (.inr rs) (pTake [kReserved])) = .inr rs ∧ res noT (pOn (.inr rs) (pTake [kReserved])) = noT) := ⟨e1, e2⟩
        have HQ : Hid (¬ pIs kReserved rs = true) := hnr
        clear e1 e2 hnr
        go_wp2_with fail
        refine (take_new kReserved _ rfl h4 (by decide +kernel)).mono ?_
        rintro e w4 ⟨rfl, h5, k5⟩
        rw [HE.out.1] at h5
        rw [HE.out.2]
        simp only [noT]
        have BR5 := BR4.kp k5 (by omega)
        have BM5 := BM4.kp k5 (by omega)
        have K5 := K4.trans k5
        have HO5 := own_kpH HO4 k5 (fun k hk => by omega)
        have HF5 := own_kpH HF4 k5 (fun k hk => by omega)
        clear h4 K4 HO4 HF4 BR4 BM4 k5 HE
        go_wp2_with fail
        refine wp_region_held_drew (S := fun _ => True) (by kernel_rfl) trivial (fun hS => ?_)
        refine rg_take 0 15 (.pointer (some ⟨M, 1, none⟩)) _ rfl rfl (by kernel_rfl) (by kernel_rfl) (by kernel_rfl) (fun _ _ _ h => h) (by rfl) (fun w' hw' => ?_) hS (listed' := #[true, false, false, false, false, false, false, false]) (by kernel_rfl) rfl ?_
        · go_simp
        simp only [List.setIfInBounds_toArray, List.set_cons_zero, List.set_cons_succ]
        refine rg_take 2 17 (.pointer (some ⟨g, 0, none⟩)) _ rfl rfl (by kernel_rfl) (by kernel_rfl) (by kernel_rfl) (fun _ _ _ h => h) (by rfl) (fun w' hw' => ?_) hS (listed' := #[true, false, true, false, false, false, false, false]) (by kernel_rfl) rfl ?_
        · go_simp
        simp only [List.setIfInBounds_toArray, List.set_cons_zero, List.set_cons_succ]
        refine rg_lcb 1 3 4 16 18 19 vf 58 #[.pointer (some ⟨g, 0, none⟩)] (fun W => W.cell? ⟨M, 1, none⟩ = some vf) rfl rfl rfl rfl rfl rfl (by kernel_rfl) (by kernel_rfl) (by kernel_rfl) (by kernel_rfl) (by kernel_rfl) (fun _ => rfl) (fun _ => rfl) (fun _ => rfl) (by decide) (by decide) (by decide) (by decide) ?g0 ?g1 ?g2 ?g3 ?g4 ?_
        case g0 => have hcv := (BM5.cell 1).trans rfl; go_simp
        case g1 => intro v W hW; simp only [List.setIfInBounds_toArray, List.set_cons_zero, List.set_cons_succ]; go_simp
        case g2 => intro v s W hW; simp only [List.setIfInBounds_toArray, List.set_cons_zero, List.set_cons_succ]; go_simp
        case g3 => go_simp
        case g4 => intro W; simp only [List.setIfInBounds_toArray, List.set_cons_zero, List.set_cons_succ]; go_simp
        have h5d : Rd w4.drew g V ts E (.inr rs) := h5.below (Below.refl _ _).drew
        refine (rfield_any h5d).mono ?_
        rintro e w5 ⟨f, rfl, rf, h6, k6⟩
        have e0 : pOn (.inr rs) pField = pField rs := rfl
        rw [e0] at h6 rf
        clear e0
        have k6' : Kp (fun k => k = g) w4 w5 := ⟨k6.os, k6.tape, k6.output, k6.size, k6.block⟩
        have BR6 := BR5.kp k6' (by omega)
        have BM6 := BM5.kp k6' (by omega)
        have K6 := K5.trans k6'
        have HO6 := own_kpH HO5 k6' (fun k hk => by omega)
        have HF6 := own_kpH HF5 k6' (fun k hk => by omega)
        obtain ⟨q7, q8⟩ := member_fld (m := m) HQ.out rf
        have HZ6 : Hid (Z = pOn (stX (pMember m rs)) fun r => pMembers (r.length + 1) ⟨m.name, m.fields ++ [f], m.reserved⟩ r) := HZ2.out _ q8
        rw [← q7] at h6
        have HB6 : Hid (Bd ts.length (stX (pMember m rs)) m.reserved.length) := HB.out.keep (member_lt m rs).le
        have HBF6 : Hid (Bd ts.length (stX (pMember m rs)) (m.fields.length + 1)) := HBF.out.step (member_lt m rs)
        have hlen : m.fields.length ≤ 100000 := by have := HBF.out.2 rs rfl; omega
        clear h5 h5d K5 HO5 HF5 BR5 BM5 k6 k6' HB HBF HZ2 q7 q8 rf HQ
        generalize stX (pMember m rs) = σ3 at *
        obtain ⟨nm, fls, rvs⟩ := m
        simp only at BM6 HF6 HO6 HZ6 HB6 HBF6 hlen
        have hM6 : M + 1 ≤ w5.heap.size := BM6.lt
        obtain ⟨fn, fg, fb, fk, ft⟩ := f
        simp only at HZ6 ⊢
        obtain ⟨k, hk⟩ : ∃ k, k7 fk = k := ⟨_, rfl⟩
        have HK : Hid (k7 fk = k) := hk
        rw [hk]
        clear hk
        refine ⟨_, rfl, (BM6.cell 1).trans rfl, .slice (some ⟨w5.heap.size, 0, none⟩) 1 1, w5.alloc (.cells #[.string fn, .int .i64 fg, .int .i64 fb, .int .i64 k, .string ft] 43), ((BM6.below ((Below.refl _ _).alloc (Nat.le_refl _) _)).cell 1).trans rfl, by simp only [List.setIfInBounds_toArray, List.set_cons_zero, List.set_cons_succ]; go_simp, by simp only [List.setIfInBounds_toArray, List.set_cons_zero, List.set_cons_succ]; go_simp, ?_⟩
        obtain ⟨v6, w6, hrun, ho6, hg6, _, hat6⟩ := run_append_own_at (P := Tryd.prog) (w5.alloc (.cells #[.string fn, .int .i64 fg, .int .i64 fb, .int .i64 k, .string ft] 43)) (M + 1) 38 38 43 i0 _ 5 56 Tryd.underlying38 hi hz0 hz1 hz2 rfl (by decide) _ _ _ (HF6.out.alloc _) ⟨w5.heap.size, 0, none⟩ 1 1 [.string fn, .int .i64 fg, .int .i64 fb, .int .i64 k, .string ft] rfl (cells_new _ #[.string fn, .int .i64 fg, .int .i64 fb, .int .i64 k, .string ft] _) (by intro u hu; simp at hu; rcases hu with rfl | rfl | rfl | rfl | rfl <;> rfl) (by unfold maxLen; omega) (by omega) (by simp; omega)
        have k56 : Kp (fun k => vf.ownBlock = some k) w5 w6 := ((Kp.refl _ _).alloc _).grown hg6 (fun k hk _ => hk)
        have hvb : ∀ k, vf.ownBlock = some k → M + 1 ≤ k := fun k hk => (HF6.out.lt k hk).1
        have h7 : Rd w6 g V ts E σ3 := h6.kp k56 (fun k hk e => by have := hvb k e; omega)
        have BR7 := BR6.kp k56 (fun e => by have := hvb _ e; omega)
        have BM7 := BM6.kp k56 (fun e => by have := hvb _ e; omega)
        have K7 : Kp (fun k => k = g) w w6 := K6.trans2 k56 (fun k hk e => by have := HR.out; have := hvb k e; omega)
        have HO7 : Hid (w6.ownsRow (M + 1) 3 1 vr rvs.length (inRows rvs).flatten) := own_kpV HO6.out k56 (fun k hk e => own_apart HF6.out HO6.out (by decide) k e hk)
        obtain ⟨nA, hnA⟩ : ∃ n, fls.length = n := ⟨_, rfl⟩
        have HNA : Hid (fls.length = nA) := hnA
        rw [hnA] at ho6
        obtain ⟨va, vc, hvv⟩ := own_form ho6
        subst hvv
        have HF7 : Hid (w6.ownsRow (M + 1) 43 5 (.slice va (nA + 1) vc) (fls ++ [(⟨fn, fg, fb, fk, ft⟩ : FlS)]).length (flRows ((fls ++ [(⟨fn, fg, fb, fk, ft⟩ : FlS)]).map pre7)).flatten) := by
          show World.ownsRow _ _ _ _ _ _ _
          rw [fl_snoc, List.length_append, HNA.out, HK.out]; exact ho6
        have HBF7 : Hid (Bd ts.length σ3 (fls ++ [(⟨fn, fg, fb, fk, ft⟩ : FlS)]).length) := by
          show Bd _ _ _
          rw [List.length_append]; exact HBF6.out
        have mc := BM7.cell 1
        have mf := BM7.froz 1
        simp only [List.getElem?_toArray, List.getElem?_cons_succ, List.getElem?_cons_zero] at mc
        clear ho6 hg6 hat6 k56 hvb h6 BR6 BM6 K6 HO6 HF6 HBF6 hnA
        simp only [List.setIfInBounds_toArray, List.set_cons_zero, List.set_cons_succ]
        refine rg_run 5 20 (.slice va (nA + 1) vc) w6 rfl rfl (by kernel_rfl) (by rfl) (listed' := #[true, true, true, true, true, true, false, false]) (by kernel_rfl) ?_ trivial ?_
        · exact append_run rfl rfl rfl hrun
        clear hrun
        simp only [List.setIfInBounds_toArray, List.set_cons_zero, List.set_cons_succ]
        refine rg_run 6 21 (.pointer (some ⟨M, 1, none⟩)) w6 rfl rfl (by kernel_rfl) (by rfl) (listed' := #[true, true, true, true, true, true, true, false]) (by kernel_rfl) ?_ trivial ?_
        · go_simp
        simp only [List.setIfInBounds_toArray, List.set_cons_zero, List.set_cons_succ]
        refine rg_store 7 (w6.setCell ⟨M, 1, none⟩ (.slice va (nA + 1) vc)) rfl rfl (by kernel_rfl) (by rfl) (listed' := #[true, true, true, true, true, true, true, true]) (by kernel_rfl) ?_ trivial ?_
        · go_simp
        refine wpAnyH_done (by kernel_rfl) ?_ _
        have h8 : Rd (w6.setCell ⟨M, 1, none⟩ (.slice va (nA + 1) vc)) g V ts E σ3 := h7.other hgM _
        have BR8 := BR7.other (a := ⟨M, 1, none⟩) (by simp only; omega) (.slice va (nA + 1) vc)
        have BM8 : Blk (w6.setCell ⟨M, 1, none⟩ (.slice va (nA + 1) vc)) M #[.string nm, .slice va (nA + 1) vc, vr] 45 := BM7.set 1 _ rfl
        have K8 : Kp (fun k => k = g) w (w6.setCell ⟨M, 1, none⟩ (.slice va (nA + 1) vc)) := K7.setCell (fun hlt => by have := HR.out; simp only at hlt; omega) _
        have HO8 : Hid ((w6.setCell ⟨M, 1, none⟩ (.slice va (nA + 1) vc)).ownsRow (M + 1) 3 1 vr rvs.length (inRows rvs).flatten) := ownsRow_setCell_below HO7.out (by simp only; omega) _
        have HF8 : Hid ((w6.setCell ⟨M, 1, none⟩ (.slice va (nA + 1) vc)).ownsRow (M + 1) 43 5 (.slice va (nA + 1) vc) (fls ++ [(⟨fn, fg, fb, fk, ft⟩ : FlS)]).length (flRows ((fls ++ [(⟨fn, fg, fb, fk, ft⟩ : FlS)]).map pre7)).flatten) := ownsRow_setCell_below HF7.out (by simp only; omega) _
        have HM : Hid (msr g ts.length (w6.setCell ⟨M, 1, none⟩ (.slice va (nA + 1) vc)) < msr g ts.length wr) := by
          show _ < _
          rw [msr_rd h8]; exact HW.out
        clear h7 BR7 BM7 K7 HO7 HF7 HW mc mf
        go_wp2_with fail
        go_roundw
        case rel => exact ⟨⟨nm, fls ++ [⟨fn, fg, fb, fk, ft⟩], rvs⟩, _, vr, σ3, HZ6, HF8, HO8, h8, K8, HBF7, HB6, BR8, BM8⟩
        case measure => exact HM.out
end Go.Proofs.YtfffjfccochccaaDoor

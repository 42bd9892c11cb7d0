/- What the reader's 'message' answers. -/
import Derived.Test.YtkfhlgajeejgeaaGreatDoorPkN
import Derived.Test.YtkfhlgajeejgeaaGreatDoorPkD
import Derived.Test.YtkfhlgajeejgeaaGreatDoorPkM
namespace Go.Proofs.YtkfhlgajeejgeaaGreatDoor
open Go.ChangeShapes Go.WideShapes Go.ChangeAt Go.RowKit
set_option linter.unusedVariables false
set_option linter.unusedSimpArgs false
set_option maxRecDepth 20000

theorem bind_assoc {α β γ : Type} (x : PR α) (F : α → List ByteArray → PR β) (G : β → List ByteArray → PR γ) : pBind (pBind x F) G = pBind x fun a r => pBind (F a r) G := by
  cases x with
  | inl n => rfl
  | inr x => obtain ⟨a, r⟩ := x; rfl
theorem st_map {α β : Type} (x : PR α) (f : α → β) : stX (pBind x fun a r => (.inr (f a, r) : PR β)) = stX x := by
  cases x with
  | inl n => rfl
  | inr x => obtain ⟨a, r⟩ := x; rfl
theorem res_map {α β : Type} {x : PR α} {a : α} (f : α → β) (h : Res x a) : Res (pBind x fun a r => (.inr (f a, r) : PR β)) (f a) := by
  cases x with
  | inl n => exact Res.no
  | inr x => obtain ⟨b, r⟩ := x; have := h b r rfl; subst this; exact Res.yes
theorem members_step {m m' : MsS} {ts : List ByteArray} (hs : ¬ pIs kShut ts = true) (hv : Res (pMember m ts) m') : pMembers (ts.length + 1) m ts = pOn (stX (pMember m ts)) fun r => pMembers (r.length + 1) m' r := by
  rw [← bind_onR hv fun m' r => pMembers (r.length + 1) m' r]
  show (if pIs kShut ts = true then _ else _) = _
  rw [if_neg hs]
  exact bind_congr fun v r e => members_fuel _ _ _ (member_lt m ts _ _ e)
theorem members_shut {m : MsS} {t : ByteArray} {r : List ByteArray} (ht : t.data.toList = kShut.data.toList) : pMembers ((t :: r).length + 1) m (t :: r) = .inr (m, r) := by
  show (if pIs kShut (t :: r) = true then _ else _) = _
  rw [if_pos (by rw [is_cons]; exact ht)]; rfl
theorem member_res {m : MsS} {t : ByteArray} {r : List ByteArray} {l : List Int} (ht : t.data.toList = kReserved.data.toList) (hl : Res (pBind (pNum r) fun n r => pMore r.length (m.reserved ++ [(n : Int)]) r) l) :
    stX (pMember m (t :: r)) = stX (pBind (pNum r) fun n r => pMore r.length (m.reserved ++ [(n : Int)]) r) ∧ Res (pMember m (t :: r)) ⟨m.name, m.fields, l⟩ := by
  have e : pMember m (t :: r) = pBind (pBind (pNum r) fun n r => pMore r.length (m.reserved ++ [(n : Int)]) r) fun l r2 => (.inr (⟨m.name, m.fields, l⟩, r2) : PR MsS) := by
    unfold pMember
    rw [if_pos (by rw [is_cons]; exact ht), bind_assoc]; rfl
  rw [e]
  exact ⟨st_map _ (fun l => (⟨m.name, m.fields, l⟩ : MsS)), res_map (fun l => (⟨m.name, m.fields, l⟩ : MsS)) hl⟩
theorem member_fld {m : MsS} {ts : List ByteArray} {f : FlS} (hs : ¬ pIs kReserved ts = true) (hf : Res (pField ts) f) :
    stX (pMember m ts) = stX (pField ts) ∧ Res (pMember m ts) ⟨m.name, m.fields ++ [f], m.reserved⟩ := by
  have e : pMember m ts = pBind (pField ts) fun f r => (.inr (⟨m.name, m.fields ++ [f], m.reserved⟩, r) : PR MsS) := by
    unfold pMember
    rw [if_neg hs]
  rw [e]
  exact ⟨st_map _ (fun f => (⟨m.name, m.fields ++ [f], m.reserved⟩ : MsS)), res_map (fun f => (⟨m.name, m.fields ++ [f], m.reserved⟩ : MsS)) hf⟩
/-- What stands at a member's beginning. -/
theorem reserved_cases (ts : List ByteArray) :
    (∃ t r, ts = t :: r ∧ t.data.toList = kReserved.data.toList ∧ pOn (.inr ts) (pTake [kReserved]) = .inr (t, r)) ∨
    (¬ pIs kReserved ts = true ∧ stX (pOn (.inr ts) (pTake [kReserved])) = .inr ts ∧ res noT (pOn (.inr ts) (pTake [kReserved])) = noT) := by
  rcases take_cases [kReserved] (.inr ts) (by decide +kernel) with ⟨t, r, e0, e1, e2, e3, e4⟩ | ⟨e1, e2, e3, e4, e5⟩
  · left
    rw [any_one, beq_iff_eq] at e3
    simp only [Sum.inr.injEq] at e0
    exact ⟨t, r, e0, e3.symm, e1⟩
  · right
    refine ⟨?_, e1, e2⟩
    cases ts with
    | nil => simp [pIs]
    | cons t r =>
      rw [is_cons]
      rw [any_one, beq_eq_false_iff_ne] at e5
      exact fun e => e5 e.symm
theorem infoF : (Tryz.prog.info? 44).map (fun i => (i.zero, i.size, i.bytes)) = some (some (.agg #[.string ⟨#[]⟩, .int .i64 0, .int .i64 0, .int .i64 0, .string ⟨#[]⟩]), 5, 56) := by kernel_rfl
theorem fl_snoc (acc : List FlS) (f : FlS) : (flRows ((acc ++ [f]).map pre7)).flatten = (flRows (acc.map pre7)).flatten ++ [.string f.name, .int .i64 f.tag, .int .i64 f.label, .int .i64 (k7 f.kind), .string f.tname] := by simp [flRows, FlS.cells, pre7]
set_option maxHeartbeats 4000000 in
theorem rmessage_any {w : World} {g : Nat} {V : Value} {ts : List Tk} {E : Nat} {σ : Sg} (h : Rd w g V ts E σ) :
    Calls Tryz.prog 97 #[.pointer (some ⟨g, 0, none⟩)] w fun e w' => ∃ (m : MsS) (vf vr : Value), e = .returned (.agg #[.string m.name, vf, vr]) ∧ Res (pOn σ pMsg) m ∧ Rd w' g V ts E (stX (pOn σ pMsg)) ∧ Kp (fun k => k = g) w w' ∧ w'.ownsRow w.heap.size 44 5 vf m.fields.length (flRows (m.fields.map pre7)).flatten ∧ w'.ownsRow w.heap.size 3 1 vr m.reserved.length (inRows m.reserved).flatten := by
  obtain ⟨i0, hi, hz0, hz1, hz2⟩ := info_parts infoF
  have hfew := h.few
  have hg := h.lt
  obtain ⟨Z, hZ⟩ : ∃ Z, pOn σ pMsg = Z := ⟨_, rfl⟩
  have HZ0 : Hid (Z = pOn (stX (pOn (stX (pOn σ pName)) (pMust kOpen))) fun r => pMembers (r.length + 1) ⟨res noT (pOn σ pName), [], []⟩ r) := by
    show Z = _
    rw [← hZ]
    cases σ with
    | inl n => rfl
    | inr r =>
      simp only [pOn, pMsg]
      cases pName r with
      | inl n => rfl
      | inr x =>
        obtain ⟨a, r1⟩ := x
        simp only [pBind, stX, res]
        cases pMust kOpen r1 with
        | inl n => rfl
        | inr x => obtain ⟨_, r2⟩ := x; rfl
  rw [hZ]
  clear hZ
  have h0 := h.alloc (.cells #[.string ⟨#[]⟩, .slice none 0 0, .slice none 0 0] 40)
  have B0 := Blk.new w #[.string ⟨#[]⟩, .slice none 0 0, .slice none 0 0] 40
  have K0 : Kp (fun k => k = g) w (w.alloc (.cells #[.string ⟨#[]⟩, .slice none 0 0, .slice none 0 0] 40)) := (Kp.refl _ _).alloc _
  clear h
  obtain ⟨R, hR⟩ : ∃ R, w.heap.size = R := ⟨_, rfl⟩
  have HR : Hid (w.heap.size = R) := hR
  rw [hR] at hg B0 ⊢
  go_enter Tryz.func97, Tryz.ntmps97
  go_wp2_with fail
  clear hR
  refine (rname_any h0).mono ?_
  rintro e w1 ⟨rfl, h1, k1⟩
  have B1 := B0.kp k1 (by omega)
  have K1 := K0.trans k1
  clear h0 k1 B0 K0
  generalize res noT (pOn σ pName) = x1 at *
  generalize stX (pOn σ pName) = σ1 at *
  have hgM : g < w1.heap.size := h1.lt
  have hRM : R < w1.heap.size := B1.lt
  have BM := Blk.new w1 #[.string x1, .slice none 0 0, .slice none 0 0] 40
  have h2 := h1.alloc (.cells #[.string x1, .slice none 0 0, .slice none 0 0] 40)
  have B2 := B1.below ((Below.refl _ _).alloc (Nat.le_refl _) (.cells #[.string x1, .slice none 0 0, .slice none 0 0] 40))
  have K2 := K1.alloc (.cells #[.string x1, .slice none 0 0, .slice none 0 0] 40)
  clear h1 B1 K1
  go_wp2_with fail
  refine (one_new kOpen _ (by simp) h2 (by decide +kernel)).mono ?_
  rintro e w2 ⟨x2, rfl, h3, k3⟩
  generalize w1.heap.size = M at *
  have B3 := B2.kp k3 (by omega)
  have BM3 := BM.kp k3 (by omega)
  have K3 := K2.trans k3
  clear h2 k3 B2 BM K2
  generalize stX (pOn σ1 (pMust kOpen)) = σ2 at *
  go_wp2_with fail
  go_loopw [22] (fun _ wr => ∃ (m : MsS) (vf vr : Value) (σ1 : Sg), Hid (Z = pOn σ1 fun r => pMembers (r.length + 1) m r) ∧ Hid (wr.ownsRow (M + 1) 44 5 vf m.fields.length (flRows (m.fields.map pre7)).flatten) ∧ Hid (wr.ownsRow (M + 1) 3 1 vr m.reserved.length (inRows m.reserved).flatten) ∧ Rd wr g V ts E σ1 ∧ Kp (fun k => k = g) w wr ∧ Hid (Bd ts.length σ1 m.fields.length) ∧ Hid (Bd ts.length σ1 m.reserved.length) ∧ Blk wr R #[.string ⟨#[]⟩, .slice none 0 0, .slice none 0 0] 40 ∧ Blk wr M #[.string m.name, vf, vr] 40) (fun _ wr => msr g ts.length wr)
  case atStart =>
    have hb : Bd ts.length σ2 0 := ⟨by simp, fun r hr => by have := h3.left; rw [hr] at this; simp only [leftS] at this; simpa using this⟩
    exact ⟨⟨x1, [], []⟩, _, _, σ2, HZ0, World.ownsRow_nil _ _ _ _, World.ownsRow_nil _ _ _ _, h3, K3, hb, hb, B3, BM3⟩
  case round =>
    obtain ⟨m, vf, vr, σ, HZ, HF, HO, hr, KR, HBF, HB, BR, BM⟩ := hrel
    clear HZ0 h3 K3 B3 BM3
    have hms := msr_rd hr
    rcases shut_cases σ with ⟨t, r, rfl, ht, e1, e2⟩ | ⟨n, rfl, e1, e2⟩ | ⟨rs, rfl, hns, e1, e2⟩
    · have eZ : Z = .inr (m, r) := by rw [HZ.out]; exact members_shut ht
      subst eZ
      have HE : Hid (stX (pOn (.inr (t :: r)) (pTake [kShut])) = .inr r ∧ (!badS (.inr (t :: r)) && ((res noT (pOn (.inr (t :: r)) (pTake [kShut]))).data.toList == [])) = false) := ⟨e1, e2⟩
      clear HZ e1 e2 hms HB HBF
      go_wp2_with fail
      refine (ropen_any hr).mono ?_
      rintro e w3 ⟨rfl, h4, k4⟩
      rw [HE.out.2]
      rw [HE.out.1] at h4
      have BR4 := BR.kp k4 (by omega)
      have BM4 := BM.kp k4 (by omega)
      have K4 := KR.trans k4
      have HO4 := own_kpH HO k4 (fun k hk => by omega)
      have HF4 := own_kpH HF k4 (fun k hk => by omega)
      clear hr KR HO HF BR BM k4 HE
      obtain ⟨nm, fls, rvs⟩ := m
      simp only at BM4 HO4 HF4
      obtain ⟨va, vc, hvv⟩ := own_form HF4.out
      subst hvv
      obtain ⟨ra, rc, hvv⟩ := own_form HO4.out
      subst hvv
      obtain ⟨nA, hnA⟩ : ∃ n, fls.length = n := ⟨_, rfl⟩
      rw [hnA] at HF4 BM4
      have HNA : Hid (fls.length = nA) := hnA
      obtain ⟨nB, hnB⟩ : ∃ n, rvs.length = n := ⟨_, rfl⟩
      rw [hnB] at HO4 BM4
      have HNB : Hid (rvs.length = nB) := hnB
      clear hnA hnB
      have m0 := BM4.cell 0
      have m1 := BM4.cell 1
      have m2 := BM4.cell 2
      have r0 := BR4.cell 0
      have r1 := BR4.cell 1
      have r2 := BR4.cell 2
      have f0 := BR4.froz 0
      have f1 := BR4.froz 1
      have f2 := BR4.froz 2
      simp only [List.getElem?_toArray, List.getElem?_cons_succ, List.getElem?_cons_zero] at m0 m1 m2 r0 r1 r2
      go_wp2_with fail
      refine bodyPost_ret (results_cell rfl _ _ _ ⟨R, 0, none⟩ (.agg #[.string nm, .slice va nA vc, .slice ra nB rc]) (by go_simp) (by go_simp)) rfl ?_
      have hlt : R < w.heap.size → R = g := fun hlt => by have := HR.out; omega
      have k5 : Kp (fun k => k = R) w3 (((w3.setCell ⟨R, 0, none⟩ (.string nm)).setCell ⟨R, 1, none⟩ (.slice va nA vc)).setCell ⟨R, 2, none⟩ (.slice ra nB rc)) := Kp.setCell (p := ⟨R, 2, none⟩) (Kp.setCell (p := ⟨R, 1, none⟩) (Kp.setCell (p := ⟨R, 0, none⟩) (Kp.refl (fun k => k = R) w3) (fun _ => rfl) _) (fun _ => rfl) _) (fun _ => rfl) _
      refine ⟨⟨nm, fls, rvs⟩, .slice va nA vc, .slice ra nB rc, rfl, Res.yes, ((h4.other hg _).other hg _).other hg _, ((K4.setCell hlt _).setCell hlt _).setCell hlt _, ?_, ?_⟩
      · show World.ownsRow _ _ _ _ _ fls.length _
        rw [HNA.out]
        exact own_base (own_kp HF4.out k5 (fun k hk => by omega)) (by omega)
      · show World.ownsRow _ _ _ _ _ rvs.length _
        rw [HNB.out]
        exact own_base (own_kp HO4.out k5 (fun k hk => by omega)) (by omega)
    · have eZ : Z = .inl n := by rw [HZ.out]; exact rfl
      subst eZ
      have HE : Hid (stX (pOn (.inl n) (pTake [kShut])) = .inl n ∧ (!badS (.inl n) && ((res noT (pOn (.inl n) (pTake [kShut]))).data.toList == [])) = false) := ⟨e1, e2⟩
      clear HZ e1 e2 hms HB HBF
      go_wp2_with fail
      refine (ropen_any hr).mono ?_
      rintro e w3 ⟨rfl, h4, k4⟩
      rw [HE.out.2]
      rw [HE.out.1] at h4
      have BR4 := BR.kp k4 (by omega)
      have BM4 := BM.kp k4 (by omega)
      have K4 := KR.trans k4
      have HO4 := own_kpH HO k4 (fun k hk => by omega)
      have HF4 := own_kpH HF k4 (fun k hk => by omega)
      clear hr KR HO HF BR BM k4 HE
      obtain ⟨nm, fls, rvs⟩ := m
      simp only at BM4 HO4 HF4
      obtain ⟨va, vc, hvv⟩ := own_form HF4.out
      subst hvv
      obtain ⟨ra, rc, hvv⟩ := own_form HO4.out
      subst hvv
      obtain ⟨nA, hnA⟩ : ∃ n, fls.length = n := ⟨_, rfl⟩
      rw [hnA] at HF4 BM4
      have HNA : Hid (fls.length = nA) := hnA
      obtain ⟨nB, hnB⟩ : ∃ n, rvs.length = n := ⟨_, rfl⟩
      rw [hnB] at HO4 BM4
      have HNB : Hid (rvs.length = nB) := hnB
      clear hnA hnB
      have m0 := BM4.cell 0
      have m1 := BM4.cell 1
      have m2 := BM4.cell 2
      have r0 := BR4.cell 0
      have r1 := BR4.cell 1
      have r2 := BR4.cell 2
      have f0 := BR4.froz 0
      have f1 := BR4.froz 1
      have f2 := BR4.froz 2
      simp only [List.getElem?_toArray, List.getElem?_cons_succ, List.getElem?_cons_zero] at m0 m1 m2 r0 r1 r2
      go_wp2_with fail
      refine bodyPost_ret (results_cell rfl _ _ _ ⟨R, 0, none⟩ (.agg #[.string nm, .slice va nA vc, .slice ra nB rc]) (by go_simp) (by go_simp)) rfl ?_
      have hlt : R < w.heap.size → R = g := fun hlt => by have := HR.out; omega
      have k5 : Kp (fun k => k = R) w3 (((w3.setCell ⟨R, 0, none⟩ (.string nm)).setCell ⟨R, 1, none⟩ (.slice va nA vc)).setCell ⟨R, 2, none⟩ (.slice ra nB rc)) := Kp.setCell (p := ⟨R, 2, none⟩) (Kp.setCell (p := ⟨R, 1, none⟩) (Kp.setCell (p := ⟨R, 0, none⟩) (Kp.refl (fun k => k = R) w3) (fun _ => rfl) _) (fun _ => rfl) _) (fun _ => rfl) _
      refine ⟨⟨nm, fls, rvs⟩, .slice va nA vc, .slice ra nB rc, rfl, Res.no, ((h4.other hg _).other hg _).other hg _, ((K4.setCell hlt _).setCell hlt _).setCell hlt _, ?_, ?_⟩
      · show World.ownsRow _ _ _ _ _ fls.length _
        rw [HNA.out]
        exact own_base (own_kp HF4.out k5 (fun k hk => by omega)) (by omega)
      · show World.ownsRow _ _ _ _ _ rvs.length _
        rw [HNB.out]
        exact own_base (own_kp HO4.out k5 (fun k hk => by omega)) (by omega)
    · have HE : Hid (stX (pOn (.inr rs) (pTake [kShut])) = .inr rs ∧ (!badS (.inr rs) && ((res noT (pOn (.inr rs) (pTake [kShut]))).data.toList == [])) = true) := ⟨e1, e2⟩
      have HZ2 : Hid (∀ m' : MsS, Res (pMember m rs) m' → Z = pOn (stX (pMember m rs)) fun r => pMembers (r.length + 1) m' r) := by
        intro v hv
        rw [HZ.out]
        exact members_step hns hv
      have HW : Hid (weigh (stX (pMember m rs)) < msr g ts.length wr) := by show _ < _; rw [hms]; exact weigh_lt (member_lt m rs) (member_in m rs)
      clear HZ e1 e2 hms hns
      go_wp2_with fail
      refine (ropen_any hr).mono ?_
      rintro e w3 ⟨rfl, h4, k4⟩
      rw [HE.out.2]
      rw [HE.out.1] at h4
      have BR4 := BR.kp k4 (by omega)
      have BM4 := BM.kp k4 (by omega)
      have K4 := KR.trans k4
      have HO4 := own_kpH HO k4 (fun k hk => by omega)
      have HF4 := own_kpH HF k4 (fun k hk => by omega)
      clear hr KR HO HF BR BM k4 HE
      rcases reserved_cases rs with ⟨t, r, rfl, ht, e1⟩ | ⟨hnr, e1, e2⟩
      · have HE : Hid (pOn (.inr (t :: r)) (pTake [kReserved]) = .inr (t, r)) := e1
        have hd : (t.toList == [114, 101, 115, 101, 114, 118, 101, 100]) = true := by rw [ByteArray.toList_eq, ht]; decide +kernel
        have HT : Hid (t.data.toList = kReserved.data.toList) := ht
        clear e1 ht
        go_wp2_with fail
        refine (take_new kReserved _ rfl h4 (by decide +kernel)).mono ?_
        rintro e w4 ⟨rfl, h5, k5⟩
        rw [HE.out] at h5 ⊢
        simp only [res, stX] at h5 ⊢
        have BR5 := BR4.kp k5 (by omega)
        have BM5 := BM4.kp k5 (by omega)
        have K5 := K4.trans k5
        have HO5 := own_kpH HO4 k5 (fun k hk => by omega)
        have HF5 := own_kpH HF4 k5 (fun k hk => by omega)
        clear h4 K4 HO4 HF4 BR4 BM4 k5 HE
        have HB5 : Hid (Bd ts.length (.inr r) m.reserved.length) := HB.out.keep (x := (.inr ((), r) : PR Unit)) (fun a r' e => by simp at e; rw [← e]; simp)
        have hM5 : M + 1 ≤ w4.heap.size := BM5.lt
        have m2 := BM5.cell 2
        simp only [List.getElem?_toArray, List.getElem?_cons_succ, List.getElem?_cons_zero] at m2
        go_wp2_with fail
        refine (numbers_any h5 (B := M + 1) (by omega) hM5 HO5.out HB5.out).mono ?_
        rintro e w5 ⟨v6, acc6, rfl, q6, h6, ho6, k6, b6⟩
        obtain ⟨q7, q8⟩ := member_res HT.out q6
        have HZ3 := HZ2.out _ q8
        rw [← q7] at h6 b6
        have HZ6 : Hid (Z = pOn (stX (pMember m (t :: r))) fun r => pMembers (r.length + 1) ⟨m.name, m.fields, acc6⟩ r) := HZ3
        have hnot : ∀ k, k ≤ M → ¬ (k = g ∨ vr.ownBlock = some k) → True := fun _ _ _ => trivial
        have hSM : ¬ (M = g ∨ vr.ownBlock = some M) := by
          rintro (e | e)
          · omega
          · have := (HO5.out.lt M e).1; omega
        have hSR : ¬ (R = g ∨ vr.ownBlock = some R) := by
          rintro (e | e)
          · omega
          · have := (HO5.out.lt R e).1; omega
        have BR6 := BR5.kp k6 hSR
        have BM6 := BM5.kp k6 hSM
        have HF6 : Hid (w5.ownsRow (M + 1) 44 5 vf m.fields.length (flRows (m.fields.map pre7)).flatten) := own_kpV HF5.out k6 (fun k hk => by
          rintro (e | e)
          · have := (HF5.out.lt k hk).1; omega
          · exact own_apart HF5.out HO5.out (by decide) k hk e)
        have HBF6 : Hid (Bd ts.length (stX (pMember m (t :: r))) m.fields.length) := HBF.out.keep (member_lt m (t :: r)).le
        have K6 : Kp (fun k => k = g) w w5 := K5.trans2 k6 (fun k hk hS => by
          rcases hS with e | e
          · exact e
          · have := (HO5.out.lt k e).1; have := HR.out; omega)
        obtain ⟨ra, rc, hvv⟩ := own_form ho6
        subst hvv
        have HO6 : Hid (w5.ownsRow (M + 1) 3 1 (.slice ra acc6.length rc) acc6.length (inRows acc6).flatten) := ho6
        have HB6 : Hid (Bd ts.length (stX (pMember m (t :: r))) acc6.length) := b6
        clear h5 K5 HO5 HF5 BR5 BM5 k6 HB5 m2 q6 q7 q8 HZ3 HZ2 HB HBF ho6 b6 hSM hSR hnot HT
        generalize stX (pMember m (t :: r)) = σ3 at *
        have mc := BM6.cell 2
        have mf := BM6.froz 2
        simp only [List.getElem?_toArray, List.getElem?_cons_succ, List.getElem?_cons_zero] at mc
        obtain ⟨nm, fls, rvs⟩ := m
        simp only at BM6 HF6 HBF6 HZ6
        obtain ⟨nA, hnA⟩ : ∃ n, acc6.length = n := ⟨_, rfl⟩
        rw [hnA] at HO6 ⊢
        have HNA : Hid (acc6.length = nA) := hnA
        clear hnA
        have h7 : Rd (w5.setCell ⟨M, 2, none⟩ (.slice ra nA rc)) g V ts E σ3 := h6.other hgM _
        have BR7 := BR6.other (a := ⟨M, 2, none⟩) (by simp only; omega) (.slice ra nA rc)
        have BM7 : Blk (w5.setCell ⟨M, 2, none⟩ (.slice ra nA rc)) M #[.string nm, vf, .slice ra nA rc] 40 := BM6.set 2 _ rfl
        have K7 : Kp (fun k => k = g) w (w5.setCell ⟨M, 2, none⟩ (.slice ra nA rc)) := K6.setCell (fun hlt => by have := HR.out; simp only at hlt; omega) _
        have HO7 : Hid ((w5.setCell ⟨M, 2, none⟩ (.slice ra nA rc)).ownsRow (M + 1) 3 1 (.slice ra nA rc) acc6.length (inRows acc6).flatten) := by
          show World.ownsRow _ _ _ _ _ _ _
          rw [HNA.out]
          exact ownsRow_setCell_below HO6.out (by simp only; omega) _
        have HF7 : Hid ((w5.setCell ⟨M, 2, none⟩ (.slice ra nA rc)).ownsRow (M + 1) 44 5 vf fls.length (flRows (fls.map pre7)).flatten) := ownsRow_setCell_below HF6.out (by simp only; omega) _
        have HM : Hid (msr g ts.length (w5.setCell ⟨M, 2, none⟩ (.slice ra nA rc)) < msr g ts.length wr) := by
          show _ < _
          rw [msr_rd h7]; exact HW.out
        clear h6 BR6 BM6 K6 HO6 HF6 HW
        go_wp2_with fail
        go_roundw
        case rel => exact ⟨⟨nm, fls, acc6⟩, vf, _, σ3, HZ6, HF7, HO7, h7, K7, HBF6, HB6, BR7, BM7⟩
        case measure => exact HM.out
      · have HE : Hid (stX (pOn (.inr rs) (pTake [kReserved])) = .inr rs ∧ res noT (pOn (.inr rs) (pTake [kReserved])) = noT) := ⟨e1, e2⟩
        have HQ : Hid (¬ pIs kReserved rs = true) := hnr
        clear e1 e2 hnr
        go_wp2_with fail
        refine (take_new kReserved _ rfl h4 (by decide +kernel)).mono ?_
        rintro e w4 ⟨rfl, h5, k5⟩
        rw [HE.out.1] at h5
        rw [HE.out.2]
        simp only [noT]
        have BR5 := BR4.kp k5 (by omega)
        have BM5 := BM4.kp k5 (by omega)
        have K5 := K4.trans k5
        have HO5 := own_kpH HO4 k5 (fun k hk => by omega)
        have HF5 := own_kpH HF4 k5 (fun k hk => by omega)
        clear h4 K4 HO4 HF4 BR4 BM4 k5 HE
        go_wp2_with fail
        refine wp_region_held_drew (S := fun _ => True) (by kernel_rfl) trivial (fun hS => ?_)
        refine rg_take 0 15 (.pointer (some ⟨M, 1, none⟩)) _ rfl rfl (by kernel_rfl) (by kernel_rfl) (by kernel_rfl) (fun _ _ _ h => h) (by rfl) (fun w' hw' => ?_) hS (listed' := #[true, false, false, false, false, false, false, false]) (by kernel_rfl) rfl ?_
        · go_simp
        simp only [List.setIfInBounds_toArray, List.set_cons_zero, List.set_cons_succ]
        refine rg_take 2 17 (.pointer (some ⟨g, 0, none⟩)) _ rfl rfl (by kernel_rfl) (by kernel_rfl) (by kernel_rfl) (fun _ _ _ h => h) (by rfl) (fun w' hw' => ?_) hS (listed' := #[true, false, true, false, false, false, false, false]) (by kernel_rfl) rfl ?_
        · go_simp
        simp only [List.setIfInBounds_toArray, List.set_cons_zero, List.set_cons_succ]
        refine rg_lcb 1 3 4 16 18 19 vf 149 #[.pointer (some ⟨g, 0, none⟩)] (fun W => W.cell? ⟨M, 1, none⟩ = some vf) rfl rfl rfl rfl rfl rfl (by kernel_rfl) (by kernel_rfl) (by kernel_rfl) (by kernel_rfl) (by kernel_rfl) (fun _ => rfl) (fun _ => rfl) (fun _ => rfl) (by decide) (by decide) (by decide) (by decide) ?g0 ?g1 ?g2 ?g3 ?g4 ?_
        case g0 => have hcv := (BM5.cell 1).trans rfl; go_simp
        case g1 => intro v W hW; simp only [List.setIfInBounds_toArray, List.set_cons_zero, List.set_cons_succ]; go_simp
        case g2 => intro v s W hW; simp only [List.setIfInBounds_toArray, List.set_cons_zero, List.set_cons_succ]; go_simp
        case g3 => go_simp
        case g4 => intro W; simp only [List.setIfInBounds_toArray, List.set_cons_zero, List.set_cons_succ]; go_simp
        have h5d : Rd w4.drew g V ts E (.inr rs) := h5.below (Below.refl _ _).drew
        refine (rfield_any h5d).mono ?_
        rintro e w5 ⟨f, rfl, rf, h6, k6⟩
        have e0 : pOn (.inr rs) pField = pField rs := rfl
        rw [e0] at h6 rf
        clear e0
        have k6' : Kp (fun k => k = g) w4 w5 := ⟨k6.os, k6.tape, k6.output, k6.size, k6.block⟩
        have BR6 := BR5.kp k6' (by omega)
        have BM6 := BM5.kp k6' (by omega)
        have K6 := K5.trans k6'
        have HO6 := own_kpH HO5 k6' (fun k hk => by omega)
        have HF6 := own_kpH HF5 k6' (fun k hk => by omega)
        obtain ⟨q7, q8⟩ := member_fld (m := m) HQ.out rf
        have HZ6 : Hid (Z = pOn (stX (pMember m rs)) fun r => pMembers (r.length + 1) ⟨m.name, m.fields ++ [f], m.reserved⟩ r) := HZ2.out _ q8
        rw [← q7] at h6
        have HB6 : Hid (Bd ts.length (stX (pMember m rs)) m.reserved.length) := HB.out.keep (member_lt m rs).le
        have HBF6 : Hid (Bd ts.length (stX (pMember m rs)) (m.fields.length + 1)) := HBF.out.step (member_lt m rs)
        have hlen : m.fields.length ≤ 100000 := by have := HBF.out.2 rs rfl; omega
        clear h5 h5d K5 HO5 HF5 BR5 BM5 k6 k6' HB HBF HZ2 q7 q8 rf HQ
        generalize stX (pMember m rs) = σ3 at *
        obtain ⟨nm, fls, rvs⟩ := m
        simp only at BM6 HF6 HO6 HZ6 HB6 HBF6 hlen
        have hM6 : M + 1 ≤ w5.heap.size := BM6.lt
        obtain ⟨fn, fg, fb, fk, ft⟩ := f
        simp only at HZ6 ⊢
        obtain ⟨k, hk⟩ : ∃ k, k7 fk = k := ⟨_, rfl⟩
        have HK : Hid (k7 fk = k) := hk
        rw [hk]
        clear hk
        refine ⟨_, rfl, (BM6.cell 1).trans rfl, .slice (some ⟨w5.heap.size, 0, none⟩) 1 1, w5.alloc (.cells #[.string fn, .int .i64 fg, .int .i64 fb, .int .i64 k, .string ft] 44), ((BM6.below ((Below.refl _ _).alloc (Nat.le_refl _) _)).cell 1).trans rfl, by simp only [List.setIfInBounds_toArray, List.set_cons_zero, List.set_cons_succ]; go_simp, by simp only [List.setIfInBounds_toArray, List.set_cons_zero, List.set_cons_succ]; go_simp, ?_⟩
        obtain ⟨v6, w6, hrun, ho6, hg6, _, hat6⟩ := run_append_own_at (P := Tryz.prog) (w5.alloc (.cells #[.string fn, .int .i64 fg, .int .i64 fb, .int .i64 k, .string ft] 44)) (M + 1) 37 37 44 i0 _ 5 56 Tryz.underlying37 hi hz0 hz1 hz2 rfl (by decide) _ _ _ (HF6.out.alloc _) ⟨w5.heap.size, 0, none⟩ 1 1 [.string fn, .int .i64 fg, .int .i64 fb, .int .i64 k, .string ft] rfl (cells_new _ #[.string fn, .int .i64 fg, .int .i64 fb, .int .i64 k, .string ft] _) (by intro u hu; simp at hu; rcases hu with rfl | rfl | rfl | rfl | rfl <;> rfl) (by unfold maxLen; omega) (by omega) (by simp; omega)
        have k56 : Kp (fun k => vf.ownBlock = some k) w5 w6 := ((Kp.refl _ _).alloc _).grown hg6 (fun k hk _ => hk)
        have hvb : ∀ k, vf.ownBlock = some k → M + 1 ≤ k := fun k hk => (HF6.out.lt k hk).1
        have h7 : Rd w6 g V ts E σ3 := h6.kp k56 (fun k hk e => by have := hvb k e; omega)
        have BR7 := BR6.kp k56 (fun e => by have := hvb _ e; omega)
        have BM7 := BM6.kp k56 (fun e => by have := hvb _ e; omega)
        have K7 : Kp (fun k => k = g) w w6 := K6.trans2 k56 (fun k hk e => by have := HR.out; have := hvb k e; omega)
        have HO7 : Hid (w6.ownsRow (M + 1) 3 1 vr rvs.length (inRows rvs).flatten) := own_kpV HO6.out k56 (fun k hk e => own_apart HF6.out HO6.out (by decide) k e hk)
        obtain ⟨nA, hnA⟩ : ∃ n, fls.length = n := ⟨_, rfl⟩
        have HNA : Hid (fls.length = nA) := hnA
        rw [hnA] at ho6
        obtain ⟨va, vc, hvv⟩ := own_form ho6
        subst hvv
        have HF7 : Hid (w6.ownsRow (M + 1) 44 5 (.slice va (nA + 1) vc) (fls ++ [(⟨fn, fg, fb, fk, ft⟩ : FlS)]).length (flRows ((fls ++ [(⟨fn, fg, fb, fk, ft⟩ : FlS)]).map pre7)).flatten) := by
          show World.ownsRow _ _ _ _ _ _ _
          rw [fl_snoc, List.length_append, HNA.out, HK.out]; exact ho6
        have HBF7 : Hid (Bd ts.length σ3 (fls ++ [(⟨fn, fg, fb, fk, ft⟩ : FlS)]).length) := by
          show Bd _ _ _
          rw [List.length_append]; exact HBF6.out
        have mc := BM7.cell 1
        have mf := BM7.froz 1
        simp only [List.getElem?_toArray, List.getElem?_cons_succ, List.getElem?_cons_zero] at mc
        clear ho6 hg6 hat6 k56 hvb h6 BR6 BM6 K6 HO6 HF6 HBF6 hnA
        simp only [List.setIfInBounds_toArray, List.set_cons_zero, List.set_cons_succ]
        refine rg_run 5 20 (.slice va (nA + 1) vc) w6 rfl rfl (by kernel_rfl) (by rfl) (listed' := #[true, true, true, true, true, true, false, false]) (by kernel_rfl) ?_ trivial ?_
        · exact append_run rfl rfl rfl hrun
        clear hrun
        simp only [List.setIfInBounds_toArray, List.set_cons_zero, List.set_cons_succ]
        refine rg_run 6 21 (.pointer (some ⟨M, 1, none⟩)) w6 rfl rfl (by kernel_rfl) (by rfl) (listed' := #[true, true, true, true, true, true, true, false]) (by kernel_rfl) ?_ trivial ?_
        · go_simp
        simp only [List.setIfInBounds_toArray, List.set_cons_zero, List.set_cons_succ]
        refine rg_store 7 (w6.setCell ⟨M, 1, none⟩ (.slice va (nA + 1) vc)) rfl rfl (by kernel_rfl) (by rfl) (listed' := #[true, true, true, true, true, true, true, true]) (by kernel_rfl) ?_ trivial ?_
        · go_simp
        refine wpAnyH_done (by kernel_rfl) ?_ _
        have h8 : Rd (w6.setCell ⟨M, 1, none⟩ (.slice va (nA + 1) vc)) g V ts E σ3 := h7.other hgM _
        have BR8 := BR7.other (a := ⟨M, 1, none⟩) (by simp only; omega) (.slice va (nA + 1) vc)
        have BM8 : Blk (w6.setCell ⟨M, 1, none⟩ (.slice va (nA + 1) vc)) M #[.string nm, .slice va (nA + 1) vc, vr] 40 := BM7.set 1 _ rfl
        have K8 : Kp (fun k => k = g) w (w6.setCell ⟨M, 1, none⟩ (.slice va (nA + 1) vc)) := K7.setCell (fun hlt => by have := HR.out; simp only at hlt; omega) _
        have HO8 : Hid ((w6.setCell ⟨M, 1, none⟩ (.slice va (nA + 1) vc)).ownsRow (M + 1) 3 1 vr rvs.length (inRows rvs).flatten) := ownsRow_setCell_below HO7.out (by simp only; omega) _
        have HF8 : Hid ((w6.setCell ⟨M, 1, none⟩ (.slice va (nA + 1) vc)).ownsRow (M + 1) 44 5 (.slice va (nA + 1) vc) (fls ++ [(⟨fn, fg, fb, fk, ft⟩ : FlS)]).length (flRows ((fls ++ [(⟨fn, fg, fb, fk, ft⟩ : FlS)]).map pre7)).flatten) := ownsRow_setCell_below HF7.out (by simp only; omega) _
        have HM : Hid (msr g ts.length (w6.setCell ⟨M, 1, none⟩ (.slice va (nA + 1) vc)) < msr g ts.length wr) := by
          show _ < _
          rw [msr_rd h8]; exact HW.out
        clear h7 BR7 BM7 K7 HO7 HF7 HW mc mf
        go_wp2_with fail
        go_roundw
        case rel => exact ⟨⟨nm, fls ++ [⟨fn, fg, fb, fk, ft⟩], rvs⟩, _, vr, σ3, HZ6, HF8, HO8, h8, K8, HBF7, HB6, BR8, BM8⟩
        case measure => exact HM.out
end Go.Proofs.YtkfhlgajeejgeaaGreatDoor

/- Messages and enumerations that a call has made: their rows, owned and apart. -/
namespace Go.Proofs.YtkfhlgajeejgeaaGreatDoor
open Go.ChangeShapes Go.WideShapes Go.ChangeAt Go.RowKit
set_option linter.unusedVariables false
set_option linter.unusedSimpArgs false
set_option maxRecDepth 20000

def preM (m : MsS) : MsS := ⟨m.name, m.fields.map pre7, m.reserved⟩
/-- What stands at a declaration's beginning. -/
theorem decl_msg {s : ScS} {t : ByteArray} {r : List ByteArray} {m : MsS} (ht : t.data.toList = kMessage.data.toList) (hm : Res (pMsg r) m) :
    stX (pDecl s (t :: r)) = stX (pMsg r) ∧ Res (pDecl s (t :: r)) ⟨s.name, s.msgs ++ [m], s.enums, s.methods⟩ := by
  have e : pDecl s (t :: r) = pBind (pMsg r) fun m r => (.inr (⟨s.name, s.msgs ++ [m], s.enums, s.methods⟩, r) : PR ScS) := by
    unfold pDecl
    rw [if_pos (by rw [is_cons]; exact ht)]; rfl
  rw [e]
  exact ⟨st_map _ (fun m => (⟨s.name, s.msgs ++ [m], s.enums, s.methods⟩ : ScS)), res_map (fun m => (⟨s.name, s.msgs ++ [m], s.enums, s.methods⟩ : ScS)) hm⟩
theorem decl_enum {s : ScS} {t : ByteArray} {r : List ByteArray} {m : EnS} (ht : t.data.toList = kEnum.data.toList) (hm : Res (pEnum r) m) :
    stX (pDecl s (t :: r)) = stX (pEnum r) ∧ Res (pDecl s (t :: r)) ⟨s.name, s.msgs, s.enums ++ [m], s.methods⟩ := by
  have e : pDecl s (t :: r) = pBind (pEnum r) fun m r => (.inr (⟨s.name, s.msgs, s.enums ++ [m], s.methods⟩, r) : PR ScS) := by
    unfold pDecl
    rw [if_neg (by rw [is_cons, ht]; decide +kernel), if_pos (by rw [is_cons]; exact ht)]; rfl
  rw [e]
  exact ⟨st_map _ (fun m => (⟨s.name, s.msgs, s.enums ++ [m], s.methods⟩ : ScS)), res_map (fun m => (⟨s.name, s.msgs, s.enums ++ [m], s.methods⟩ : ScS)) hm⟩
theorem decl_call {s : ScS} {t : ByteArray} {r : List ByteArray} {m : MtS} (ht : t.data.toList = kCall.data.toList) (hm : Res (pCall r) m) :
    stX (pDecl s (t :: r)) = stX (pCall r) ∧ Res (pDecl s (t :: r)) ⟨s.name, s.msgs, s.enums, s.methods ++ [m]⟩ := by
  have e : pDecl s (t :: r) = pBind (pCall r) fun m r => (.inr (⟨s.name, s.msgs, s.enums, s.methods ++ [m]⟩, r) : PR ScS) := by
    unfold pDecl
    rw [if_neg (by rw [is_cons, ht]; decide +kernel), if_neg (by rw [is_cons, ht]; decide +kernel), if_pos (by rw [is_cons]; exact ht)]; rfl
  rw [e]
  exact ⟨st_map _ (fun m => (⟨s.name, s.msgs, s.enums, s.methods ++ [m]⟩ : ScS)), res_map (fun m => (⟨s.name, s.msgs, s.enums, s.methods ++ [m]⟩ : ScS)) hm⟩
theorem one3_cases (s : ScS) (t : ByteArray) (r : List ByteArray) :
    (t.data.toList = kMessage.data.toList ∧ pOn (.inr (t :: r)) (pOne [kMessage, kEnum, kCall]) = .inr (t, r)) ∨
    (t.data.toList = kEnum.data.toList ∧ pOn (.inr (t :: r)) (pOne [kMessage, kEnum, kCall]) = .inr (t, r)) ∨
    (t.data.toList = kCall.data.toList ∧ pOn (.inr (t :: r)) (pOne [kMessage, kEnum, kCall]) = .inr (t, r)) ∨
    (pOn (.inr (t :: r)) (pOne [kMessage, kEnum, kCall]) = .inl (r.length + 1) ∧ pDecl s (t :: r) = .inl (r.length + 1)) := by
  simp only [pOn, pOne, List.any_cons, List.any_nil, Bool.or_false]
  by_cases h1 : t.data.toList = kMessage.data.toList
  · exact .inl ⟨h1, by rw [if_pos (by simp [h1])]⟩
  · by_cases h2 : t.data.toList = kEnum.data.toList
    · exact .inr (.inl ⟨h2, by rw [if_pos (by simp [h2])]⟩)
    · by_cases h3 : t.data.toList = kCall.data.toList
      · exact .inr (.inr (.inl ⟨h3, by rw [if_pos (by simp [h3])]⟩))
      · refine .inr (.inr (.inr ⟨?_, ?_⟩))
        · rw [if_neg]
          simp only [Bool.or_eq_true, beq_iff_eq]
          rintro (e | e | e)
          · exact h1 e.symm
          · exact h2 e.symm
          · exact h3 e.symm
        · unfold pDecl
          rw [if_neg (by rw [is_cons]; exact h1), if_neg (by rw [is_cons]; exact h2), if_neg (by rw [is_cons]; exact h3)]; rfl
theorem decls_step {s s' : ScS} {t : ByteArray} {r : List ByteArray} (hv : Res (pDecl s (t :: r)) s') : pDecls (t :: r).length s (t :: r) = pOn (stX (pDecl s (t :: r))) fun r => pDecls r.length s' r := by
  rw [← bind_onR hv fun s' r => pDecls r.length s' r]
  show (if (t :: r).isEmpty = true then _ else _) = _
  rw [if_neg (by simp)]
  exact bind_congr fun v r' e => decls_fuel _ _ _ (Nat.lt_succ_iff.1 (decl_lt s (t :: r) _ _ e))
theorem decl_in (s : ScS) (ts : List ByteArray) : InP (pDecl s ts) ts.length := by
  unfold pDecl
  split
  · exact fun a e => Nat.le_trans (in_bind (msg_in ts.tail) (msg_lt ts.tail).le (fun _ r => in_inr _ _ _) a e) (by simp)
  · split
    · exact fun a e => Nat.le_trans (in_bind (enum_in ts.tail) (enum_lt ts.tail).le (fun _ r => in_inr _ _ _) a e) (by simp)
    · split
      · exact fun a e => Nat.le_trans (in_bind (call_in ts.tail) (call_lt ts.tail).le (fun _ r => in_inr _ _ _) a e) (by simp)
      · intro a e; simp at e; omega
theorem text_st (σ : Sg) : pOn σ pText = pOn (stX (pOn (stX (pOn (stX (pOn σ (pMust kSchema))) pName)) (pMust kSemi))) fun r => pDecls r.length ⟨res noT (pOn (stX (pOn σ (pMust kSchema))) pName), [], [], []⟩ r := by
  cases σ with
  | inl n => rfl
  | inr r =>
    simp only [pOn, pText]
    cases pMust kSchema r with
    | inl n => rfl
    | inr x =>
      obtain ⟨_, r1⟩ := x
      simp only [pBind, stX, res]
      cases pName r1 with
      | inl n => rfl
      | inr x =>
        obtain ⟨a, r2⟩ := x
        simp only [pBind, stX, res]
        cases pMust kSemi r2 with
        | inl n => rfl
        | inr x => obtain ⟨_, r3⟩ := x; rfl
end Go.Proofs.YtkfhlgajeejgeaaGreatDoor

/- What the reader's 'schema' answers. -/
namespace Go.Proofs.YtkfhlgajeejgeaaGreatDoor
open Go.ChangeShapes Go.WideShapes Go.ChangeAt Go.RowKit
set_option linter.unusedVariables false
set_option linter.unusedSimpArgs false
set_option maxRecDepth 20000

set_option maxHeartbeats 8000000 in
theorem rschema_any {w : World} {g : Nat} {V : Value} {ts : List Tk} {E : Nat} {σ : Sg} (h : Rd w g V ts E σ) :
    Calls Tryz.prog 62 #[.pointer (some ⟨g, 0, none⟩)] w fun e w' => ∃ (s : ScS) (vm ve vt : Value) (pm : List (Value × Value)) (pe : List Value) (B : Nat), e = .returned (.agg #[.string s.name, vm, ve, vt]) ∧ Res (pOn σ pText) s ∧ Rd w' g V ts E (stX (pOn σ pText)) ∧ Kp (fun k => k = g) w w' ∧ w.heap.size ≤ B ∧ MsO w' B vm (s.msgs.map preM) pm ∧ EnO w' B ve s.enums pe ∧ w'.ownsRow B 54 3 vt s.methods.length (mtRows s.methods).flatten := by
  obtain ⟨iM, hiM, hzM0, hzM1, hzM2⟩ := info_parts infoM
  obtain ⟨iE, hiE, hzE0, hzE1, hzE2⟩ := info_parts infoE
  obtain ⟨iT, hiT, hzT0, hzT1, hzT2⟩ := info_parts infoT
  have hfew := h.few
  have hg := h.lt
  obtain ⟨Z, hZ⟩ : ∃ Z, pOn σ pText = Z := ⟨_, rfl⟩
  have HZ0 : Hid (Z = pOn (stX (pOn (stX (pOn (stX (pOn σ (pMust kSchema))) pName)) (pMust kSemi))) fun r => pDecls r.length ⟨res noT (pOn (stX (pOn σ (pMust kSchema))) pName), [], [], []⟩ r) := by
    show Z = _
    rw [← hZ]
    exact text_st σ
  rw [hZ]
  clear hZ
  have h0 := h.alloc (.cells #[.string ⟨#[]⟩, .slice none 0 0, .slice none 0 0, .slice none 0 0] 26)
  have B0 := Blk.new w #[.string ⟨#[]⟩, .slice none 0 0, .slice none 0 0, .slice none 0 0] 26
  have K0 : Kp (fun k => k = g) w (w.alloc (.cells #[.string ⟨#[]⟩, .slice none 0 0, .slice none 0 0, .slice none 0 0] 26)) := (Kp.refl _ _).alloc _
  clear h
  obtain ⟨R, hR⟩ : ∃ R, w.heap.size = R := ⟨_, rfl⟩
  have HR : Hid (w.heap.size = R) := hR
  rw [hR] at hg B0
  go_enter Tryz.func62, Tryz.ntmps62
  go_wp2_with fail
  refine (one_new kSchema _ (by simp; exact hR.symm) h0 (by decide +kernel)).mono ?_
  rintro e w1 ⟨x0, rfl, h1, k1⟩
  clear hR
  have B1 := B0.kp k1 (by omega)
  have K1 := K0.trans k1
  clear h0 k1 B0 K0
  generalize stX (pOn σ (pMust kSchema)) = σ1 at *
  go_wp2_with fail
  refine (rname_any h1).mono ?_
  rintro e w2 ⟨rfl, h2, k2⟩
  have B2 := B1.kp k2 (by omega)
  have K2 := K1.trans k2
  clear h1 k2 B1 K1
  generalize res noT (pOn σ1 pName) = x1 at *
  generalize stX (pOn σ1 pName) = σ2 at *
  have hgM : g < w2.heap.size := h2.lt
  have hRM : R < w2.heap.size := B2.lt
  have BM := Blk.new w2 #[.string x1, .slice none 0 0, .slice none 0 0, .slice none 0 0] 26
  have h3 := h2.alloc (.cells #[.string x1, .slice none 0 0, .slice none 0 0, .slice none 0 0] 26)
  have B3 := B2.below ((Below.refl _ _).alloc (Nat.le_refl _) (.cells #[.string x1, .slice none 0 0, .slice none 0 0, .slice none 0 0] 26))
  have K3 := K2.alloc (.cells #[.string x1, .slice none 0 0, .slice none 0 0, .slice none 0 0] 26)
  clear h2 B2 K2
  go_wp2_with fail
  refine (one_new kSemi _ (by simp) h3 (by decide +kernel)).mono ?_
  rintro e w3 ⟨x2, rfl, h4, k4⟩
  generalize w2.heap.size = M at *
  have B4 := B3.kp k4 (by omega)
  have BM4 := BM.kp k4 (by omega)
  have K4 := K3.trans k4
  clear h3 k4 B3 BM K3
  generalize stX (pOn σ2 (pMust kSemi)) = σ3 at *
  go_wp2_with fail
  go_loopw [18] (fun _ wr => ∃ (s : ScS) (vm ve vt : Value) (pm : List (Value × Value)) (pe : List Value) (σ1 : Sg), Hid (Z = pOn σ1 fun r => pDecls r.length s r) ∧ Hid (MsO wr (M + 1) vm (s.msgs.map preM) pm) ∧ Hid (EnO wr (M + 1) ve s.enums pe) ∧ Hid (wr.ownsRow (M + 1) 54 3 vt s.methods.length (mtRows s.methods).flatten) ∧ Rd wr g V ts E σ1 ∧ Kp (fun k => k = g) w wr ∧ Hid (Bd ts.length σ1 s.msgs.length ∧ Bd ts.length σ1 s.enums.length ∧ Bd ts.length σ1 s.methods.length) ∧ Blk wr R #[.string ⟨#[]⟩, .slice none 0 0, .slice none 0 0, .slice none 0 0] 26 ∧ Blk wr M #[.string s.name, vm, ve, vt] 26) (fun _ wr => msr g ts.length wr)
  case atStart =>
    have hb : Bd ts.length σ3 0 := ⟨by simp, fun r hr => by have := h4.left; rw [hr] at this; simp only [leftS] at this; simpa using this⟩
    exact ⟨⟨x1, [], [], []⟩, _, _, _, [], [], σ3, HZ0, MsO.nil _ _, EnO.nil _ _, World.ownsRow_nil _ _ _ _, h4, K4, ⟨hb, hb, hb⟩, B4, BM4⟩
  case round =>
    obtain ⟨s, vm, ve, vt, pm, pe, σ, HZ, HMs, HEs, HTs, hr, KR, HB, BR, BM⟩ := hrel
    clear HZ0 h4 K4 B4 BM4
    have hms := msr_rd hr
    cases σ with
    | inl n =>
      have eZ : Z = .inl n := by rw [HZ.out]; rfl
      subst eZ
      clear HZ hms HB
      go_wp2_with fail
      refine (more_any hr).mono ?_
      rintro e w4 ⟨rfl, hb5⟩
      have k5 : Kp (fun k => k = g) wr w4 := Kp.ofBelow hb5
      have h5 := hr.below hb5
      have BR5 := BR.kp k5 (by omega)
      have BM5 := BM.kp k5 (by omega)
      have K5 := KR.trans k5
      have HMs5 : Hid (MsO w4 (M + 1) vm (s.msgs.map preM) pm) := HMs.out.kp k5 (fun k hk => by omega)
      have HEs5 : Hid (EnO w4 (M + 1) ve s.enums pe) := HEs.out.kp k5 (fun k hk => by omega)
      have HTs5 := own_kpH HTs k5 (fun k hk => by omega)
      clear hr KR HMs HEs HTs BR BM k5 hb5
      simp only [badS, Bool.not_true, Bool.false_and]
      obtain ⟨ma, mc, hvv⟩ := own_form HMs5.out.own
      subst hvv
      obtain ⟨ea, ec, hvv⟩ := own_form HEs5.out.own
      subst hvv
      obtain ⟨ta, tc, hvv⟩ := own_form HTs5.out
      subst hvv
      generalize hnM : (s.msgs.map preM).length = nM at *
      generalize hnE : s.enums.length = nE at *
      generalize hnT : s.methods.length = nT at *
      have HNT : Hid (s.methods.length = nT) := hnT
      clear hnM hnE hnT
      have m0 := BM5.cell 0
      have m1 := BM5.cell 1
      have m2 := BM5.cell 2
      have m3 := BM5.cell 3
      have r0 := BR5.cell 0
      have r1 := BR5.cell 1
      have r2 := BR5.cell 2
      have r3 := BR5.cell 3
      have f0 := BR5.froz 0
      have f1 := BR5.froz 1
      have f2 := BR5.froz 2
      have f3 := BR5.froz 3
      simp only [List.getElem?_toArray, List.getElem?_cons_succ, List.getElem?_cons_zero] at m0 m1 m2 m3 r0 r1 r2 r3
      go_wp2_with fail
      refine bodyPost_ret (results_cell rfl _ _ _ ⟨R, 0, none⟩ (.agg #[.string s.name, .slice ma nM mc, .slice ea nE ec, .slice ta nT tc]) (by go_simp) (by go_simp)) rfl ?_
      have hlt : R < w.heap.size → R = g := fun hlt => by have := HR.out; omega
      have k6 : Kp (fun k => k = R) w4 ((((w4.setCell ⟨R, 0, none⟩ (.string s.name)).setCell ⟨R, 1, none⟩ (.slice ma nM mc)).setCell ⟨R, 2, none⟩ (.slice ea nE ec)).setCell ⟨R, 3, none⟩ (.slice ta nT tc)) := Kp.setCell (p := ⟨R, 3, none⟩) (Kp.setCell (p := ⟨R, 2, none⟩) (Kp.setCell (p := ⟨R, 1, none⟩) (Kp.setCell (p := ⟨R, 0, none⟩) (Kp.refl (fun k => k = R) w4) (fun _ => rfl) _) (fun _ => rfl) _) (fun _ => rfl) _) (fun _ => rfl) _
      refine ⟨s, _, _, _, pm, pe, M + 1, rfl, Res.no, (((h5.other hg _).other hg _).other hg _).other hg _, (((K5.setCell hlt _).setCell hlt _).setCell hlt _).setCell hlt _, by have := HR.out; omega, HMs5.out.kp k6 (fun k hk => by omega), HEs5.out.kp k6 (fun k hk => by omega), ?_⟩
      rw [HNT.out]
      exact own_kp HTs5.out k6 (fun k hk => by omega)
    | inr rs =>
     cases rs with
     | nil =>
      have eZ : Z = .inr (s, []) := by rw [HZ.out]; rfl
      subst eZ
      clear HZ hms HB
      go_wp2_with fail
      refine (more_any hr).mono ?_
      rintro e w4 ⟨rfl, hb5⟩
      have k5 : Kp (fun k => k = g) wr w4 := Kp.ofBelow hb5
      have h5 := hr.below hb5
      have BR5 := BR.kp k5 (by omega)
      have BM5 := BM.kp k5 (by omega)
      have K5 := KR.trans k5
      have HMs5 : Hid (MsO w4 (M + 1) vm (s.msgs.map preM) pm) := HMs.out.kp k5 (fun k hk => by omega)
      have HEs5 : Hid (EnO w4 (M + 1) ve s.enums pe) := HEs.out.kp k5 (fun k hk => by omega)
      have HTs5 := own_kpH HTs k5 (fun k hk => by omega)
      clear hr KR HMs HEs HTs BR BM k5 hb5
      simp only [badS, leftS, List.length_nil, Nat.lt_irrefl, decide_false, Bool.and_false]
      obtain ⟨ma, mc, hvv⟩ := own_form HMs5.out.own
      subst hvv
      obtain ⟨ea, ec, hvv⟩ := own_form HEs5.out.own
      subst hvv
      obtain ⟨ta, tc, hvv⟩ := own_form HTs5.out
      subst hvv
      generalize hnM : (s.msgs.map preM).length = nM at *
      generalize hnE : s.enums.length = nE at *
      generalize hnT : s.methods.length = nT at *
      have HNT : Hid (s.methods.length = nT) := hnT
      clear hnM hnE hnT
      have m0 := BM5.cell 0
      have m1 := BM5.cell 1
      have m2 := BM5.cell 2
      have m3 := BM5.cell 3
      have r0 := BR5.cell 0
      have r1 := BR5.cell 1
      have r2 := BR5.cell 2
      have r3 := BR5.cell 3
      have f0 := BR5.froz 0
      have f1 := BR5.froz 1
      have f2 := BR5.froz 2
      have f3 := BR5.froz 3
      simp only [List.getElem?_toArray, List.getElem?_cons_succ, List.getElem?_cons_zero] at m0 m1 m2 m3 r0 r1 r2 r3
      go_wp2_with fail
      refine bodyPost_ret (results_cell rfl _ _ _ ⟨R, 0, none⟩ (.agg #[.string s.name, .slice ma nM mc, .slice ea nE ec, .slice ta nT tc]) (by go_simp) (by go_simp)) rfl ?_
      have hlt : R < w.heap.size → R = g := fun hlt => by have := HR.out; omega
      have k6 : Kp (fun k => k = R) w4 ((((w4.setCell ⟨R, 0, none⟩ (.string s.name)).setCell ⟨R, 1, none⟩ (.slice ma nM mc)).setCell ⟨R, 2, none⟩ (.slice ea nE ec)).setCell ⟨R, 3, none⟩ (.slice ta nT tc)) := Kp.setCell (p := ⟨R, 3, none⟩) (Kp.setCell (p := ⟨R, 2, none⟩) (Kp.setCell (p := ⟨R, 1, none⟩) (Kp.setCell (p := ⟨R, 0, none⟩) (Kp.refl (fun k => k = R) w4) (fun _ => rfl) _) (fun _ => rfl) _) (fun _ => rfl) _) (fun _ => rfl) _
      refine ⟨s, _, _, _, pm, pe, M + 1, rfl, Res.yes, (((h5.other hg _).other hg _).other hg _).other hg _, (((K5.setCell hlt _).setCell hlt _).setCell hlt _).setCell hlt _, by have := HR.out; omega, HMs5.out.kp k6 (fun k hk => by omega), HEs5.out.kp k6 (fun k hk => by omega), ?_⟩
      rw [HNT.out]
      exact own_kp HTs5.out k6 (fun k hk => by omega)
     | cons t r =>
      have HZ2 : Hid (∀ s' : ScS, Res (pDecl s (t :: r)) s' → Z = pOn (stX (pDecl s (t :: r))) fun r => pDecls r.length s' r) := by
        intro v hv
        rw [HZ.out]
        exact decls_step hv
      have HW : Hid (weigh (stX (pDecl s (t :: r))) < msr g ts.length wr) := by show _ < _; rw [hms]; exact weigh_lt (decl_lt s (t :: r)) (decl_in s (t :: r))
      clear HZ hms
      go_wp2_with fail
      refine (more_any hr).mono ?_
      rintro e w4 ⟨rfl, hb5⟩
      have k5 : Kp (fun k => k = g) wr w4 := Kp.ofBelow hb5
      have h5 := hr.below hb5
      have BR5 := BR.kp k5 (by omega)
      have BM5 := BM.kp k5 (by omega)
      have K5 := KR.trans k5
      have HMs5 : Hid (MsO w4 (M + 1) vm (s.msgs.map preM) pm) := HMs.out.kp k5 (fun k hk => by omega)
      have HEs5 : Hid (EnO w4 (M + 1) ve s.enums pe) := HEs.out.kp k5 (fun k hk => by omega)
      have HTs5 := own_kpH HTs k5 (fun k hk => by omega)
      clear hr KR HMs HEs HTs BR BM k5 hb5
      simp only [badS, leftS, List.length_cons, Nat.zero_lt_succ, decide_true, Bool.not_false, Bool.and_true]
      go_wp2_with fail
      refine (one_new3 kMessage kEnum kCall _ rfl h5 (by decide +kernel)).mono ?_
      rintro e w5 ⟨rfl, h6, k6⟩
      have BR6 := BR5.kp k6 (by omega)
      have BM6 := BM5.kp k6 (by omega)
      have K6 := K5.trans k6
      have HMs6 : Hid (MsO w5 (M + 1) vm (s.msgs.map preM) pm) := HMs5.out.kp k6 (fun k hk => by omega)
      have HEs6 : Hid (EnO w5 (M + 1) ve s.enums pe) := HEs5.out.kp k6 (fun k hk => by omega)
      have HTs6 := own_kpH HTs5 k6 (fun k hk => by omega)
      have hM6 : M + 1 ≤ w5.heap.size := BM6.lt
      clear h5 K5 HMs5 HEs5 HTs5 BR5 BM5 k6
      rcases one3_cases s t r with ⟨ht, e1⟩ | ⟨ht, e1⟩ | ⟨ht, e1⟩ | ⟨e1, e2⟩
      · have HE : Hid (pOn (.inr (t :: r)) (pOne [kMessage, kEnum, kCall]) = .inr (t, r)) := e1
        rw [HE.out] at h6 ⊢
        simp only [res, stX] at h6 ⊢
        have hd0 : (t.toList == [109, 101, 115, 115, 97, 103, 101]) = true := by rw [ByteArray.toList_eq, ht]; decide +kernel
        have HT : Hid (t.data.toList = kMessage.data.toList) := ht
        clear e1 ht HE
        go_wp2_with fail
        refine wp_region_held_drew (S := fun _ => True) (by kernel_rfl) trivial (fun hS => ?_)
        refine rg_take 0 20 (.pointer (some ⟨M, 1, none⟩)) _ rfl rfl (by kernel_rfl) (by kernel_rfl) (by kernel_rfl) (fun _ _ _ h => h) (by rfl) (fun w' hw' => ?_) hS (listed' := #[true, false, false, false, false, false, false, false]) (by kernel_rfl) rfl ?_
        · go_simp
        simp only [List.setIfInBounds_toArray, List.set_cons_zero, List.set_cons_succ]
        refine rg_take 2 22 (.pointer (some ⟨g, 0, none⟩)) _ rfl rfl (by kernel_rfl) (by kernel_rfl) (by kernel_rfl) (fun _ _ _ h => h) (by rfl) (fun w' hw' => ?_) hS (listed' := #[true, false, true, false, false, false, false, false]) (by kernel_rfl) rfl ?_
        · go_simp
        simp only [List.setIfInBounds_toArray, List.set_cons_zero, List.set_cons_succ]
        refine rg_lcb 1 3 4 21 23 24 vm 97 #[.pointer (some ⟨g, 0, none⟩)] (fun W => W.cell? ⟨M, 1, none⟩ = some vm) rfl rfl rfl rfl rfl rfl (by kernel_rfl) (by kernel_rfl) (by kernel_rfl) (by kernel_rfl) (by kernel_rfl) (fun _ => rfl) (fun _ => rfl) (fun _ => rfl) (by decide) (by decide) (by decide) (by decide) ?g0 ?g1 ?g2 ?g3 ?g4 ?_
        case g0 => have hcv := (BM6.cell 1).trans rfl; go_simp
        case g1 => intro v W hW; simp only [List.setIfInBounds_toArray, List.set_cons_zero, List.set_cons_succ]; go_simp
        case g2 => intro v s W hW; simp only [List.setIfInBounds_toArray, List.set_cons_zero, List.set_cons_succ]; go_simp
        case g3 => go_simp
        case g4 => intro W; simp only [List.setIfInBounds_toArray, List.set_cons_zero, List.set_cons_succ]; go_simp
        have h6d : Rd w5.drew g V ts E (.inr r) := h6.below (Below.refl _ _).drew
        have hH := HMs6.out.high
        refine (rmessage_any h6d).mono ?_
        rintro e w6 ⟨m, vf, vr, rfl, rm, h7, k7, hf, hrv⟩
        have e0 : pOn (.inr r) pMsg = pMsg r := rfl
        rw [e0] at h7 rm
        clear e0
        have k7' : Kp (fun k => k = g) w5 w6 := ⟨k7.os, k7.tape, k7.output, k7.size, k7.block⟩
        have hdh : w5.drew.heap.size = w5.heap.size := rfl
        have BR7 := BR6.kp k7' (by omega)
        have BM7 := BM6.kp k7' (by omega)
        have K7 := K6.trans k7'
        have HMs7 : Hid (MsO w6 (M + 1) vm (s.msgs.map preM) pm) := HMs6.out.kp k7' (fun k hk => by omega)
        have HEs7 : Hid (EnO w6 (M + 1) ve s.enums pe) := HEs6.out.kp k7' (fun k hk => by omega)
        have HTs7 := own_kpH HTs6 k7' (fun k hk => by omega)
        obtain ⟨q7, q8⟩ := decl_msg (s := s) HT.out rm
        have HZ7 : Hid (Z = pOn (stX (pDecl s (t :: r))) fun r => pDecls r.length ⟨s.name, s.msgs ++ [m], s.enums, s.methods⟩ r) := HZ2.out _ q8
        rw [← q7] at h7
        have HB7 : Hid (Bd ts.length (stX (pDecl s (t :: r))) (s.msgs ++ [m]).length ∧ Bd ts.length (stX (pDecl s (t :: r))) s.enums.length ∧ Bd ts.length (stX (pDecl s (t :: r))) s.methods.length) := by
          show _ ∧ _ ∧ _
          exact ⟨by rw [List.length_append]; exact HB.out.1.step (decl_lt s (t :: r)), HB.out.2.1.keep (decl_lt s (t :: r)).le, HB.out.2.2.keep (decl_lt s (t :: r)).le⟩
        have hlen : s.msgs.length ≤ 100000 := by have h1 := HB.out.1.2 _ rfl; have h2 := HB.out.2.1.2 _ rfl; have h3 := HB.out.2.2.2 _ rfl; omega
        clear h6 h6d K6 HMs6 HEs6 HTs6 BR6 BM6 k7 k7' HB HZ2 q7 q8 rm HT
        generalize stX (pDecl s (t :: r)) = σ4 at *
        have hM7 : M + 1 ≤ w6.heap.size := BM7.lt
        rw [hdh] at hf hrv
        obtain ⟨fa, fc, hvv⟩ := own_form hf
        subst hvv
        obtain ⟨ra, rc, hvv⟩ := own_form hrv
        subst hvv
        obtain ⟨nF, hnF⟩ : ∃ n, m.fields.length = n := ⟨_, rfl⟩
        have HNF : Hid (m.fields.length = nF) := hnF
        obtain ⟨nR, hnR⟩ : ∃ n, m.reserved.length = n := ⟨_, rfl⟩
        have HNR : Hid (m.reserved.length = nR) := hnR
        rw [hnF] at hf
        rw [hnR] at hrv
        rw [hnF, hnR]
        clear hnF hnR
        refine ⟨_, rfl, (BM7.cell 1).trans rfl, .slice (some ⟨w6.heap.size, 0, none⟩) 1 1, w6.alloc (.cells #[.string m.name, .slice fa nF fc, .slice ra nR rc] 40), ((BM7.below ((Below.refl _ _).alloc (Nat.le_refl _) _)).cell 1).trans rfl, by simp only [List.setIfInBounds_toArray, List.set_cons_zero, List.set_cons_succ]; go_simp, by simp only [List.setIfInBounds_toArray, List.set_cons_zero, List.set_cons_succ]; go_simp, ?_⟩
        have HOv : Hid (w6.ownsRow (M + 1) 40 3 vm s.msgs.length (msRows (s.msgs.map preM) pm).flatten) := by have := HMs7.out.own; rw [List.length_map] at this; exact this
        obtain ⟨v6, w7, hrun, ho6, hg6, _, hat6⟩ := run_append_own_at (P := Tryz.prog) (w6.alloc (.cells #[.string m.name, .slice fa nF fc, .slice ra nR rc] 40)) (M + 1) 22 22 40 iM _ 3 64 Tryz.underlying22 hiM hzM0 hzM1 hzM2 rfl (by decide) _ _ _ (HOv.out.alloc _) ⟨w6.heap.size, 0, none⟩ 1 1 [.string m.name, .slice fa nF fc, .slice ra nR rc] rfl (cells_new _ #[.string m.name, .slice fa nF fc, .slice ra nR rc] _) (by intro u hu; simp at hu; rcases hu with rfl | rfl | rfl <;> rfl) (by unfold maxLen; omega) (by omega) (by simp; omega)
        have k67 : Kp (fun k => vm.ownBlock = some k) w6 w7 := ((Kp.refl _ _).alloc _).grown hg6 (fun k hk _ => hk)
        have hvb : ∀ k, vm.ownBlock = some k → M + 1 ≤ k := fun k hk => (HOv.out.lt k hk).1
        have h8 : Rd w7 g V ts E σ4 := h7.kp k67 (fun k hk e => by have := hvb k e; omega)
        have BR8 := BR7.kp k67 (fun e => by have := hvb _ e; omega)
        have BM8 := BM7.kp k67 (fun e => by have := hvb _ e; omega)
        have K8 : Kp (fun k => k = g) w w7 := K7.trans2 k67 (fun k hk e => by have := HR.out; have := hvb k e; omega)
        have HMs8 : Hid (MsO w7 (M + 1) v6 ((s.msgs ++ [m]).map preM) (pm ++ [(.slice fa nF fc, .slice ra nR rc)])) := by
          show MsO _ _ _ _ _
          rw [List.map_append]
          refine HMs7.out.snoc (m := preM m) hH (by omega) ?_ ?_ (by rw [List.length_map]; exact ho6) k67
          · show World.ownsRow _ _ _ _ _ (m.fields.map pre7).length _
            rw [List.length_map, HNF.out]; exact hf
          · show World.ownsRow _ _ _ _ _ m.reserved.length _
            rw [HNR.out]; exact hrv
        have HEs8 : Hid (EnO w7 (M + 1) ve s.enums pe) := HEs7.out.beside HOv.out (by decide) (by decide) k67
        have HTs8 : Hid (w7.ownsRow (M + 1) 54 3 vt s.methods.length (mtRows s.methods).flatten) := own_kpV HTs7.out k67 (fun k hk e => own_apart HOv.out HTs7.out (by decide) k e hk)
        obtain ⟨nA, hnA⟩ : ∃ n, s.msgs.length = n := ⟨_, rfl⟩
        rw [hnA] at ho6
        obtain ⟨va, vc, hvv⟩ := own_form ho6
        subst hvv
        have mc := BM8.cell 1
        have mf := BM8.froz 1
        simp only [List.getElem?_toArray, List.getElem?_cons_succ, List.getElem?_cons_zero] at mc
        clear ho6 hg6 hat6 k67 hvb h7 BR7 BM7 K7 HMs7 HEs7 HTs7 hnA HOv hH
        simp only [List.setIfInBounds_toArray, List.set_cons_zero, List.set_cons_succ]
        refine rg_run 5 25 (.slice va (nA + 1) vc) w7 rfl rfl (by kernel_rfl) (by rfl) (listed' := #[true, true, true, true, true, true, false, false]) (by kernel_rfl) ?_ trivial ?_
        · exact append_run rfl rfl rfl hrun
        clear hrun
        simp only [List.setIfInBounds_toArray, List.set_cons_zero, List.set_cons_succ]
        refine rg_run 6 26 (.pointer (some ⟨M, 1, none⟩)) w7 rfl rfl (by kernel_rfl) (by rfl) (listed' := #[true, true, true, true, true, true, true, false]) (by kernel_rfl) ?_ trivial ?_
        · go_simp
        simp only [List.setIfInBounds_toArray, List.set_cons_zero, List.set_cons_succ]
        refine rg_store 7 (w7.setCell ⟨M, 1, none⟩ (.slice va (nA + 1) vc)) rfl rfl (by kernel_rfl) (by rfl) (listed' := #[true, true, true, true, true, true, true, true]) (by kernel_rfl) ?_ trivial ?_
        · go_simp
        refine wpAnyH_done (by kernel_rfl) ?_ _
        have k9 : Kp (fun k => k = M) w7 (w7.setCell ⟨M, 1, none⟩ (.slice va (nA + 1) vc)) := Kp.setCell (p := ⟨M, 1, none⟩) (Kp.refl (fun k => k = M) w7) (fun _ => rfl) _
        have h9 : Rd (w7.setCell ⟨M, 1, none⟩ (.slice va (nA + 1) vc)) g V ts E σ4 := h8.other hgM _
        have BR9 := BR8.kp k9 (by omega)
        have BM9 : Blk (w7.setCell ⟨M, 1, none⟩ (.slice va (nA + 1) vc)) M #[.string s.name, .slice va (nA + 1) vc, ve, vt] 26 := BM8.set 1 _ rfl
        have K9 : Kp (fun k => k = g) w (w7.setCell ⟨M, 1, none⟩ (.slice va (nA + 1) vc)) := K8.setCell (fun hlt => by have := HR.out; simp only at hlt; omega) _
        have HMs9 := HMs8.out.kp k9 (fun k hk => by omega)
        have HEs9 := HEs8.out.kp k9 (fun k hk => by omega)
        have HTs9 := own_kp HTs8.out k9 (fun k hk => by omega)
        have HMs10 : Hid _ := HMs9
        have HEs10 : Hid _ := HEs9
        have HTs10 : Hid _ := HTs9
        have HM : Hid (msr g ts.length (w7.setCell ⟨M, 1, none⟩ (.slice va (nA + 1) vc)) < msr g ts.length wr) := by
          show _ < _
          rw [msr_rd h9]; exact HW.out
        clear h8 BR8 BM8 K8 HMs8 HEs8 HTs8 HW mc mf HMs9 HEs9 HTs9 k9
        go_wp2_with fail
        go_roundw
        case rel => exact ⟨⟨s.name, s.msgs ++ [m], s.enums, s.methods⟩, _, ve, vt, pm ++ [(_, _)], pe, σ4, HZ7, HMs10, HEs10, HTs10, h9, K9, HB7, BR9, BM9⟩
        case measure => exact HM.out
      · have HE : Hid (pOn (.inr (t :: r)) (pOne [kMessage, kEnum, kCall]) = .inr (t, r)) := e1
        rw [HE.out] at h6 ⊢
        simp only [res, stX] at h6 ⊢
        have hd0 : (t.toList == [109, 101, 115, 115, 97, 103, 101]) = false := by rw [ByteArray.toList_eq, ht]; decide +kernel
        have hd1 : (t.toList == [101, 110, 117, 109]) = true := by rw [ByteArray.toList_eq, ht]; decide +kernel
        have HT : Hid (t.data.toList = kEnum.data.toList) := ht
        clear e1 ht HE
        go_wp2_with fail
        refine wp_region_held_drew (S := fun _ => True) (by kernel_rfl) trivial (fun hS => ?_)
        refine rg_take 0 29 (.pointer (some ⟨M, 2, none⟩)) _ rfl rfl (by kernel_rfl) (by kernel_rfl) (by kernel_rfl) (fun _ _ _ h => h) (by rfl) (fun w' hw' => ?_) hS (listed' := #[true, false, false, false, false, false, false, false]) (by kernel_rfl) rfl ?_
        · go_simp
        simp only [List.setIfInBounds_toArray, List.set_cons_zero, List.set_cons_succ]
        refine rg_take 2 31 (.pointer (some ⟨g, 0, none⟩)) _ rfl rfl (by kernel_rfl) (by kernel_rfl) (by kernel_rfl) (fun _ _ _ h => h) (by rfl) (fun w' hw' => ?_) hS (listed' := #[true, false, true, false, false, false, false, false]) (by kernel_rfl) rfl ?_
        · go_simp
        simp only [List.setIfInBounds_toArray, List.set_cons_zero, List.set_cons_succ]
        refine rg_lcb 1 3 4 30 32 33 ve 98 #[.pointer (some ⟨g, 0, none⟩)] (fun W => W.cell? ⟨M, 2, none⟩ = some ve) rfl rfl rfl rfl rfl rfl (by kernel_rfl) (by kernel_rfl) (by kernel_rfl) (by kernel_rfl) (by kernel_rfl) (fun _ => rfl) (fun _ => rfl) (fun _ => rfl) (by decide) (by decide) (by decide) (by decide) ?g0 ?g1 ?g2 ?g3 ?g4 ?_
        case g0 => have hcv := (BM6.cell 2).trans rfl; go_simp
        case g1 => intro v W hW; simp only [List.setIfInBounds_toArray, List.set_cons_zero, List.set_cons_succ]; go_simp
        case g2 => intro v s W hW; simp only [List.setIfInBounds_toArray, List.set_cons_zero, List.set_cons_succ]; go_simp
        case g3 => go_simp
        case g4 => intro W; simp only [List.setIfInBounds_toArray, List.set_cons_zero, List.set_cons_succ]; go_simp
        have h6d : Rd w5.drew g V ts E (.inr r) := h6.below (Below.refl _ _).drew
        have hH := HMs6.out.high
        refine (renum_any h6d).mono ?_
        rintro e w6 ⟨m, vv, rfl, rm, h7, k7, hf, _⟩
        have e0 : pOn (.inr r) pEnum = pEnum r := rfl
        rw [e0] at h7 rm
        clear e0
        have k7' : Kp (fun k => k = g) w5 w6 := ⟨k7.os, k7.tape, k7.output, k7.size, k7.block⟩
        have hdh : w5.drew.heap.size = w5.heap.size := rfl
        have BR7 := BR6.kp k7' (by omega)
        have BM7 := BM6.kp k7' (by omega)
        have K7 := K6.trans k7'
        have HMs7 : Hid (MsO w6 (M + 1) vm (s.msgs.map preM) pm) := HMs6.out.kp k7' (fun k hk => by omega)
        have HEs7 : Hid (EnO w6 (M + 1) ve s.enums pe) := HEs6.out.kp k7' (fun k hk => by omega)
        have HTs7 := own_kpH HTs6 k7' (fun k hk => by omega)
        obtain ⟨q7, q8⟩ := decl_enum (s := s) HT.out rm
        have HZ7 : Hid (Z = pOn (stX (pDecl s (t :: r))) fun r => pDecls r.length ⟨s.name, s.msgs, s.enums ++ [m], s.methods⟩ r) := HZ2.out _ q8
        rw [← q7] at h7
        have HB7 : Hid (Bd ts.length (stX (pDecl s (t :: r))) s.msgs.length ∧ Bd ts.length (stX (pDecl s (t :: r))) (s.enums ++ [m]).length ∧ Bd ts.length (stX (pDecl s (t :: r))) s.methods.length) := by
          show _ ∧ _ ∧ _
          exact ⟨HB.out.1.keep (decl_lt s (t :: r)).le, by rw [List.length_append]; exact HB.out.2.1.step (decl_lt s (t :: r)), HB.out.2.2.keep (decl_lt s (t :: r)).le⟩
        have hlen : s.enums.length ≤ 100000 := by have h1 := HB.out.1.2 _ rfl; have h2 := HB.out.2.1.2 _ rfl; have h3 := HB.out.2.2.2 _ rfl; omega
        clear h6 h6d K6 HMs6 HEs6 HTs6 BR6 BM6 k7 k7' HB HZ2 q7 q8 rm HT
        generalize stX (pDecl s (t :: r)) = σ4 at *
        have hM7 : M + 1 ≤ w6.heap.size := BM7.lt
        rw [hdh] at hf
        obtain ⟨fa, fc, hvv⟩ := own_form hf
        subst hvv
        obtain ⟨nF, hnF⟩ : ∃ n, m.values.length = n := ⟨_, rfl⟩
        have HNF : Hid (m.values.length = nF) := hnF
        rw [hnF] at hf
        rw [hnF]
        clear hnF
        refine ⟨_, rfl, (BM7.cell 2).trans rfl, .slice (some ⟨w6.heap.size, 0, none⟩) 1 1, w6.alloc (.cells #[.string m.name, .slice fa nF fc] 47), ((BM7.below ((Below.refl _ _).alloc (Nat.le_refl _) _)).cell 2).trans rfl, by simp only [List.setIfInBounds_toArray, List.set_cons_zero, List.set_cons_succ]; go_simp, by simp only [List.setIfInBounds_toArray, List.set_cons_zero, List.set_cons_succ]; go_simp, ?_⟩
        have HOv : Hid (w6.ownsRow (M + 1) 47 2 ve s.enums.length (enRows s.enums pe).flatten) := HEs7.out.own
        obtain ⟨v6, w7, hrun, ho6, hg6, _, hat6⟩ := run_append_own_at (P := Tryz.prog) (w6.alloc (.cells #[.string m.name, .slice fa nF fc] 47)) (M + 1) 23 23 47 iE _ 2 40 Tryz.underlying23 hiE hzE0 hzE1 hzE2 rfl (by decide) _ _ _ (HOv.out.alloc _) ⟨w6.heap.size, 0, none⟩ 1 1 [.string m.name, .slice fa nF fc] rfl (cells_new _ #[.string m.name, .slice fa nF fc] _) (by intro u hu; simp at hu; rcases hu with rfl | rfl <;> rfl) (by unfold maxLen; omega) (by omega) (by simp; omega)
        have k67 : Kp (fun k => ve.ownBlock = some k) w6 w7 := ((Kp.refl _ _).alloc _).grown hg6 (fun k hk _ => hk)
        have hvb : ∀ k, ve.ownBlock = some k → M + 1 ≤ k := fun k hk => (HOv.out.lt k hk).1
        have h8 : Rd w7 g V ts E σ4 := h7.kp k67 (fun k hk e => by have := hvb k e; omega)
        have BR8 := BR7.kp k67 (fun e => by have := hvb _ e; omega)
        have BM8 := BM7.kp k67 (fun e => by have := hvb _ e; omega)
        have K8 : Kp (fun k => k = g) w w7 := K7.trans2 k67 (fun k hk e => by have := HR.out; have := hvb k e; omega)
        have HEs8 : Hid (EnO w7 (M + 1) v6 (s.enums ++ [m]) (pe ++ [.slice fa nF fc])) := by
          refine HEs7.out.snoc (m := m) (H := w5.heap.size) (by omega) ?_ ho6 k67
          rw [HNF.out]; exact hf
        have HMs8 : Hid (MsO w7 (M + 1) vm (s.msgs.map preM) pm) := HMs7.out.beside HOv.out (by decide) (by decide) (by decide) k67
        have HTs8 : Hid (w7.ownsRow (M + 1) 54 3 vt s.methods.length (mtRows s.methods).flatten) := own_kpV HTs7.out k67 (fun k hk e => own_apart HOv.out HTs7.out (by decide) k e hk)
        obtain ⟨nA, hnA⟩ : ∃ n, s.enums.length = n := ⟨_, rfl⟩
        rw [hnA] at ho6
        obtain ⟨va, vc, hvv⟩ := own_form ho6
        subst hvv
        have mc := BM8.cell 2
        have mf := BM8.froz 2
        simp only [List.getElem?_toArray, List.getElem?_cons_succ, List.getElem?_cons_zero] at mc
        clear ho6 hg6 hat6 k67 hvb h7 BR7 BM7 K7 HMs7 HEs7 HTs7 hnA HOv hH
        simp only [List.setIfInBounds_toArray, List.set_cons_zero, List.set_cons_succ]
        refine rg_run 5 34 (.slice va (nA + 1) vc) w7 rfl rfl (by kernel_rfl) (by rfl) (listed' := #[true, true, true, true, true, true, false, false]) (by kernel_rfl) ?_ trivial ?_
        · exact append_run rfl rfl rfl hrun
        clear hrun
        simp only [List.setIfInBounds_toArray, List.set_cons_zero, List.set_cons_succ]
        refine rg_run 6 35 (.pointer (some ⟨M, 2, none⟩)) w7 rfl rfl (by kernel_rfl) (by rfl) (listed' := #[true, true, true, true, true, true, true, false]) (by kernel_rfl) ?_ trivial ?_
        · go_simp
        simp only [List.setIfInBounds_toArray, List.set_cons_zero, List.set_cons_succ]
        refine rg_store 7 (w7.setCell ⟨M, 2, none⟩ (.slice va (nA + 1) vc)) rfl rfl (by kernel_rfl) (by rfl) (listed' := #[true, true, true, true, true, true, true, true]) (by kernel_rfl) ?_ trivial ?_
        · go_simp
        refine wpAnyH_done (by kernel_rfl) ?_ _
        have k9 : Kp (fun k => k = M) w7 (w7.setCell ⟨M, 2, none⟩ (.slice va (nA + 1) vc)) := Kp.setCell (p := ⟨M, 2, none⟩) (Kp.refl (fun k => k = M) w7) (fun _ => rfl) _
        have h9 : Rd (w7.setCell ⟨M, 2, none⟩ (.slice va (nA + 1) vc)) g V ts E σ4 := h8.other hgM _
        have BR9 := BR8.kp k9 (by omega)
        have BM9 : Blk (w7.setCell ⟨M, 2, none⟩ (.slice va (nA + 1) vc)) M #[.string s.name, vm, .slice va (nA + 1) vc, vt] 26 := BM8.set 2 _ rfl
        have K9 : Kp (fun k => k = g) w (w7.setCell ⟨M, 2, none⟩ (.slice va (nA + 1) vc)) := K8.setCell (fun hlt => by have := HR.out; simp only at hlt; omega) _
        have HMs9 := HMs8.out.kp k9 (fun k hk => by omega)
        have HEs9 := HEs8.out.kp k9 (fun k hk => by omega)
        have HTs9 := own_kp HTs8.out k9 (fun k hk => by omega)
        have HMs10 : Hid _ := HMs9
        have HEs10 : Hid _ := HEs9
        have HTs10 : Hid _ := HTs9
        have HM : Hid (msr g ts.length (w7.setCell ⟨M, 2, none⟩ (.slice va (nA + 1) vc)) < msr g ts.length wr) := by
          show _ < _
          rw [msr_rd h9]; exact HW.out
        clear h8 BR8 BM8 K8 HMs8 HEs8 HTs8 HW mc mf HMs9 HEs9 HTs9 k9
        go_wp2_with fail
        go_roundw
        case rel => exact ⟨⟨s.name, s.msgs, s.enums ++ [m], s.methods⟩, vm, _, vt, pm, pe ++ [_], σ4, HZ7, HMs10, HEs10, HTs10, h9, K9, HB7, BR9, BM9⟩
        case measure => exact HM.out
      · have HE : Hid (pOn (.inr (t :: r)) (pOne [kMessage, kEnum, kCall]) = .inr (t, r)) := e1
        rw [HE.out] at h6 ⊢
        simp only [res, stX] at h6 ⊢
        have hd0 : (t.toList == [109, 101, 115, 115, 97, 103, 101]) = false := by rw [ByteArray.toList_eq, ht]; decide +kernel
        have hd1 : (t.toList == [101, 110, 117, 109]) = false := by rw [ByteArray.toList_eq, ht]; decide +kernel
        have hd2 : (t.toList == [99, 97, 108, 108]) = true := by rw [ByteArray.toList_eq, ht]; decide +kernel
        have HT : Hid (t.data.toList = kCall.data.toList) := ht
        clear e1 ht HE
        go_wp2_with fail
        refine wp_region_held_drew (S := fun _ => True) (by kernel_rfl) trivial (fun hS => ?_)
        refine rg_take 0 38 (.pointer (some ⟨M, 3, none⟩)) _ rfl rfl (by kernel_rfl) (by kernel_rfl) (by kernel_rfl) (fun _ _ _ h => h) (by rfl) (fun w' hw' => ?_) hS (listed' := #[true, false, false, false, false, false, false, false]) (by kernel_rfl) rfl ?_
        · go_simp
        simp only [List.setIfInBounds_toArray, List.set_cons_zero, List.set_cons_succ]
        refine rg_take 2 40 (.pointer (some ⟨g, 0, none⟩)) _ rfl rfl (by kernel_rfl) (by kernel_rfl) (by kernel_rfl) (fun _ _ _ h => h) (by rfl) (fun w' hw' => ?_) hS (listed' := #[true, false, true, false, false, false, false, false]) (by kernel_rfl) rfl ?_
        · go_simp
        simp only [List.setIfInBounds_toArray, List.set_cons_zero, List.set_cons_succ]
        refine rg_lcb 1 3 4 39 41 42 vt 99 #[.pointer (some ⟨g, 0, none⟩)] (fun W => W.cell? ⟨M, 3, none⟩ = some vt) rfl rfl rfl rfl rfl rfl (by kernel_rfl) (by kernel_rfl) (by kernel_rfl) (by kernel_rfl) (by kernel_rfl) (fun _ => rfl) (fun _ => rfl) (fun _ => rfl) (by decide) (by decide) (by decide) (by decide) ?g0 ?g1 ?g2 ?g3 ?g4 ?_
        case g0 => have hcv := (BM6.cell 3).trans rfl; go_simp
        case g1 => intro v W hW; simp only [List.setIfInBounds_toArray, List.set_cons_zero, List.set_cons_succ]; go_simp
        case g2 => intro v s W hW; simp only [List.setIfInBounds_toArray, List.set_cons_zero, List.set_cons_succ]; go_simp
        case g3 => go_simp
        case g4 => intro W; simp only [List.setIfInBounds_toArray, List.set_cons_zero, List.set_cons_succ]; go_simp
        have h6d : Rd w5.drew g V ts E (.inr r) := h6.below (Below.refl _ _).drew
        have hH := HMs6.out.high
        refine (rcall_any h6d).mono ?_
        rintro e w6 ⟨m, rfl, rm, h7, k7⟩
        have e0 : pOn (.inr r) pCall = pCall r := rfl
        rw [e0] at h7 rm
        clear e0
        have k7' : Kp (fun k => k = g) w5 w6 := ⟨k7.os, k7.tape, k7.output, k7.size, k7.block⟩
        have hdh : w5.drew.heap.size = w5.heap.size := rfl
        have BR7 := BR6.kp k7' (by omega)
        have BM7 := BM6.kp k7' (by omega)
        have K7 := K6.trans k7'
        have HMs7 : Hid (MsO w6 (M + 1) vm (s.msgs.map preM) pm) := HMs6.out.kp k7' (fun k hk => by omega)
        have HEs7 : Hid (EnO w6 (M + 1) ve s.enums pe) := HEs6.out.kp k7' (fun k hk => by omega)
        have HTs7 := own_kpH HTs6 k7' (fun k hk => by omega)
        obtain ⟨q7, q8⟩ := decl_call (s := s) HT.out rm
        have HZ7 : Hid (Z = pOn (stX (pDecl s (t :: r))) fun r => pDecls r.length ⟨s.name, s.msgs, s.enums, s.methods ++ [m]⟩ r) := HZ2.out _ q8
        rw [← q7] at h7
        have HB7 : Hid (Bd ts.length (stX (pDecl s (t :: r))) s.msgs.length ∧ Bd ts.length (stX (pDecl s (t :: r))) s.enums.length ∧ Bd ts.length (stX (pDecl s (t :: r))) (s.methods ++ [m]).length) := by
          show _ ∧ _ ∧ _
          exact ⟨HB.out.1.keep (decl_lt s (t :: r)).le, HB.out.2.1.keep (decl_lt s (t :: r)).le, by rw [List.length_append]; exact HB.out.2.2.step (decl_lt s (t :: r))⟩
        have hlen : s.methods.length ≤ 100000 := by have h1 := HB.out.1.2 _ rfl; have h2 := HB.out.2.1.2 _ rfl; have h3 := HB.out.2.2.2 _ rfl; omega
        clear h6 h6d K6 HMs6 HEs6 HTs6 BR6 BM6 k7 k7' HB HZ2 q7 q8 rm HT
        generalize stX (pDecl s (t :: r)) = σ4 at *
        have hM7 : M + 1 ≤ w6.heap.size := BM7.lt

        refine ⟨_, rfl, (BM7.cell 3).trans rfl, .slice (some ⟨w6.heap.size, 0, none⟩) 1 1, w6.alloc (.cells #[.string m.name, .string m.inn, .string m.out] 54), ((BM7.below ((Below.refl _ _).alloc (Nat.le_refl _) _)).cell 3).trans rfl, by simp only [List.setIfInBounds_toArray, List.set_cons_zero, List.set_cons_succ]; go_simp, by simp only [List.setIfInBounds_toArray, List.set_cons_zero, List.set_cons_succ]; go_simp, ?_⟩
        have HOv : Hid (w6.ownsRow (M + 1) 54 3 vt s.methods.length (mtRows s.methods).flatten) := HTs7.out
        obtain ⟨v6, w7, hrun, ho6, hg6, _, hat6⟩ := run_append_own_at (P := Tryz.prog) (w6.alloc (.cells #[.string m.name, .string m.inn, .string m.out] 54)) (M + 1) 24 24 54 iT _ 3 48 Tryz.underlying24 hiT hzT0 hzT1 hzT2 rfl (by decide) _ _ _ (HOv.out.alloc _) ⟨w6.heap.size, 0, none⟩ 1 1 [.string m.name, .string m.inn, .string m.out] rfl (cells_new _ #[.string m.name, .string m.inn, .string m.out] _) (by intro u hu; simp at hu; rcases hu with rfl | rfl | rfl <;> rfl) (by unfold maxLen; omega) (by omega) (by simp; omega)
        have k67 : Kp (fun k => vt.ownBlock = some k) w6 w7 := ((Kp.refl _ _).alloc _).grown hg6 (fun k hk _ => hk)
        have hvb : ∀ k, vt.ownBlock = some k → M + 1 ≤ k := fun k hk => (HOv.out.lt k hk).1
        have h8 : Rd w7 g V ts E σ4 := h7.kp k67 (fun k hk e => by have := hvb k e; omega)
        have BR8 := BR7.kp k67 (fun e => by have := hvb _ e; omega)
        have BM8 := BM7.kp k67 (fun e => by have := hvb _ e; omega)
        have K8 : Kp (fun k => k = g) w w7 := K7.trans2 k67 (fun k hk e => by have := HR.out; have := hvb k e; omega)
        have HTs8 : Hid (w7.ownsRow (M + 1) 54 3 v6 (s.methods ++ [m]).length (mtRows (s.methods ++ [m])).flatten) := by
          show World.ownsRow _ _ _ _ _ _ _
          rw [mt_snoc, List.length_append]; exact ho6
        have HMs8 : Hid (MsO w7 (M + 1) vm (s.msgs.map preM) pm) := HMs7.out.beside HOv.out (by decide) (by decide) (by decide) k67
        have HEs8 : Hid (EnO w7 (M + 1) ve s.enums pe) := HEs7.out.beside HOv.out (by decide) (by decide) k67
        obtain ⟨nA, hnA⟩ : ∃ n, s.methods.length = n := ⟨_, rfl⟩
        rw [hnA] at ho6
        obtain ⟨va, vc, hvv⟩ := own_form ho6
        subst hvv
        have mc := BM8.cell 3
        have mf := BM8.froz 3
        simp only [List.getElem?_toArray, List.getElem?_cons_succ, List.getElem?_cons_zero] at mc
        clear ho6 hg6 hat6 k67 hvb h7 BR7 BM7 K7 HMs7 HEs7 HTs7 hnA HOv hH
        simp only [List.setIfInBounds_toArray, List.set_cons_zero, List.set_cons_succ]
        refine rg_run 5 43 (.slice va (nA + 1) vc) w7 rfl rfl (by kernel_rfl) (by rfl) (listed' := #[true, true, true, true, true, true, false, false]) (by kernel_rfl) ?_ trivial ?_
        · exact append_run rfl rfl rfl hrun
        clear hrun
        simp only [List.setIfInBounds_toArray, List.set_cons_zero, List.set_cons_succ]
        refine rg_run 6 44 (.pointer (some ⟨M, 3, none⟩)) w7 rfl rfl (by kernel_rfl) (by rfl) (listed' := #[true, true, true, true, true, true, true, false]) (by kernel_rfl) ?_ trivial ?_
        · go_simp
        simp only [List.setIfInBounds_toArray, List.set_cons_zero, List.set_cons_succ]
        refine rg_store 7 (w7.setCell ⟨M, 3, none⟩ (.slice va (nA + 1) vc)) rfl rfl (by kernel_rfl) (by rfl) (listed' := #[true, true, true, true, true, true, true, true]) (by kernel_rfl) ?_ trivial ?_
        · go_simp
        refine wpAnyH_done (by kernel_rfl) ?_ _
        have k9 : Kp (fun k => k = M) w7 (w7.setCell ⟨M, 3, none⟩ (.slice va (nA + 1) vc)) := Kp.setCell (p := ⟨M, 3, none⟩) (Kp.refl (fun k => k = M) w7) (fun _ => rfl) _
        have h9 : Rd (w7.setCell ⟨M, 3, none⟩ (.slice va (nA + 1) vc)) g V ts E σ4 := h8.other hgM _
        have BR9 := BR8.kp k9 (by omega)
        have BM9 : Blk (w7.setCell ⟨M, 3, none⟩ (.slice va (nA + 1) vc)) M #[.string s.name, vm, ve, .slice va (nA + 1) vc] 26 := BM8.set 3 _ rfl
        have K9 : Kp (fun k => k = g) w (w7.setCell ⟨M, 3, none⟩ (.slice va (nA + 1) vc)) := K8.setCell (fun hlt => by have := HR.out; simp only at hlt; omega) _
        have HMs9 := HMs8.out.kp k9 (fun k hk => by omega)
        have HEs9 := HEs8.out.kp k9 (fun k hk => by omega)
        have HTs9 := own_kp HTs8.out k9 (fun k hk => by omega)
        have HMs10 : Hid _ := HMs9
        have HEs10 : Hid _ := HEs9
        have HTs10 : Hid _ := HTs9
        have HM : Hid (msr g ts.length (w7.setCell ⟨M, 3, none⟩ (.slice va (nA + 1) vc)) < msr g ts.length wr) := by
          show _ < _
          rw [msr_rd h9]; exact HW.out
        clear h8 BR8 BM8 K8 HMs8 HEs8 HTs8 HW mc mf HMs9 HEs9 HTs9 k9
        go_wp2_with fail
        go_roundw
        case rel => exact ⟨⟨s.name, s.msgs, s.enums, s.methods ++ [m]⟩, vm, ve, _, pm, pe, σ4, HZ7, HMs10, HEs10, HTs10, h9, K9, HB7, BR9, BM9⟩
        case measure => exact HM.out
      · have HE : Hid (pOn (.inr (t :: r)) (pOne [kMessage, kEnum, kCall]) = .inl (r.length + 1)) := e1
        rw [HE.out] at h6 ⊢
        simp only [res, stX, noT] at h6 ⊢
        have HZ7 : Hid (Z = pOn (.inl (r.length + 1)) fun r => pDecls r.length s r) := by
          have := HZ2.out s (by rw [e2]; exact Res.no)
          rw [e2] at this
          exact this
        have HB7 : Hid (Bd ts.length (.inl (r.length + 1)) s.msgs.length ∧ Bd ts.length (.inl (r.length + 1)) s.enums.length ∧ Bd ts.length (.inl (r.length + 1)) s.methods.length) := ⟨⟨HB.out.1.1, fun _ e => by cases e⟩, ⟨HB.out.2.1.1, fun _ e => by cases e⟩, ⟨HB.out.2.2.1, fun _ e => by cases e⟩⟩
        have HM : Hid (msr g ts.length w5 < msr g ts.length wr) := by
          show _ < _
          rw [msr_rd h6]
          have := HW.out
          rw [e2] at this
          exact this
        clear e1 e2 HE HZ2 HB HW
        go_wp2_with fail
        go_roundw
        case rel => exact ⟨s, vm, ve, vt, pm, pe, _, HZ7, HMs6, HEs6, HTs6, h6, K6, HB7, BR6, BM6⟩
        case measure => exact HM.out
end Go.Proofs.YtkfhlgajeejgeaaGreatDoor

/- Plain facts on the pieces of a text, for the statements. -/
namespace Go.Proofs.YtkfhlgajeejgeaaGreatDoor
open Go.RowKit
set_option linter.unusedVariables false
set_option linter.unusedSimpArgs false
set_option maxRecDepth 20000

theorem tokA_small {s : ByteArray} (h : s.size ≤ 16384) : tokA s = ansA (lexO s.data.toList 0) := by unfold tokA; rw [if_neg (by omega)]
theorem tokA_ok {s : ByteArray} {ts : List Tk} (h : s.size ≤ 16384) (he : lexO s.data.toList 0 = .inr ts) : tokA s = (ts, 0, 0) := by rw [tokA_small h, he]; rfl
theorem tokA_no {s : ByteArray} {p e : Nat} (h : s.size ≤ 16384) (he : lexO s.data.toList 0 = .inl (p, e)) : tokA s = ([], p, e) := by rw [tokA_small h, he]; rfl
theorem lex_err {l : List UInt8} {p e : Nat} (h : lexO l 0 = .inl (p, e)) : (e = 9 ∨ e = 5) ∧ p < l.length := by
  obtain ⟨pos, acc, h1, h2⟩ := lex_ends l
  rw [h] at h2
  rcases h2 with ⟨_, h5⟩ | ⟨h3, h4, h5⟩ | ⟨c, m, h3, h4, h5⟩
  · cases h5
  · simp only [Sum.inl.injEq, Prod.mk.injEq] at h5
    exact ⟨.inl h5.2, by omega⟩
  · simp only [Sum.inl.injEq, Prod.mk.injEq] at h5
    refine ⟨.inr h5.2, ?_⟩
    have := nx_len h3
    rw [List.length_drop] at this
    omega
def endOf (acc : List Tk) : Nat := match acc.getLast? with
  | none => 0
  | some t => t.pos + t.text.length
theorem Read.endOf {l : List UInt8} {pos : Nat} {acc : List Tk} (h : Read l pos acc) : endOf acc = pos := by
  rcases h.inv with ⟨rfl, rfl⟩ | ⟨p, a, t, _, hs, rfl⟩
  · rfl
  · have := hs.bd
    unfold Proofs.YtkfhlgajeejgeaaGreatDoor.endOf
    rw [List.getLast?_append]
    simp
    omega
/-- A piece of a text that is one: where it stands, behind the one ahead. -/
theorem piece_at {l : List UInt8} {ts : List Tk} (h : lexO l 0 = .inr ts) {i : Nat} {t : Tk} (ht : ts[i]? = some t) :
    t.pos = endOf (ts.take i) + skipN (l.drop (endOf (ts.take i))) ∧ t.pos + t.text.length ≤ l.length ∧ 1 ≤ t.text.length ∧ t.text = (l.drop t.pos).take t.text.length ∧ endOf (ts.take (i + 1)) = t.pos + t.text.length ∧ t.kind ≤ 3 ∧ Read l (endOf (ts.take i)) (ts.take i) ∧ StepAt l (endOf (ts.take i)) t (t.pos + t.text.length) := by
  obtain ⟨pos, h1, h2⟩ := lex_ok h
  obtain ⟨p, e, g1, g2, g3, g4⟩ := h1.at i t ht
  have hb := g2.bd
  have hp := g2
  obtain ⟨c, m, q1, _⟩ := hp
  rw [g1.endOf, g3.endOf]
  have e1 : t.text.length = e - t.pos := hb.2.2.2.1
  have e2 : e = t.pos + t.text.length := by omega
  refine ⟨q1, by omega, by omega, ?_, e2, hb.2.2.2.2.2, g1, ?_⟩
  · rw [e1]; exact hb.2.2.2.2.1
  · rw [← e2]; exact g2
theorem lex_len {l : List UInt8} {ts : List Tk} (h : lexO l 0 = .inr ts) : ts.length ≤ l.length := by
  obtain ⟨pos, h1, _⟩ := lex_ok h
  have := h1.bd
  omega
theorem gap_ok (l : List UInt8) (p : Nat) : lexO (l.take (skipN l)) p = .inr [] := by
  refine lexO_fin ?_ p
  have := skipN_le l
  rw [skipN_take, List.length_take]; omega
theorem tokA_gap (s : ByteArray) (E n : Nat) (hs : s.size ≤ 16384) (hn : n = skipN (s.data.toList.drop E)) : tokA (s.extract E (E + n)) = ([], 0, 0) := by
  refine tokA_ok ?_ ?_
  · rw [ByteArray.size_extract]; omega
  · rw [extract_list, hn]; exact gap_ok _ _
theorem Tk.size (t : Tk) : t.bytes.size = t.text.length := by unfold Tk.bytes; exact size_list _
theorem piece_bytes {s : ByteArray} {t : Tk} (h : t.text = (s.data.toList.drop t.pos).take t.text.length) : s.extract t.pos (t.pos + t.bytes.size) = t.bytes := by
  rw [extract_piece, Tk.size, ← h]; rfl
end Go.Proofs.YtkfhlgajeejgeaaGreatDoor

/- Plain facts on two texts with a byte 10 between: the pieces of both. -/
namespace Go.Proofs.YtkfhlgajeejgeaaGreatDoor
open Go.ChangeShapes Go.WideShapes Go.ChangeAt Go.RowKit
set_option linter.unusedVariables false
set_option linter.unusedSimpArgs false
set_option maxRecDepth 20000

def shiftT (n : Nat) (t : Tk) : Tk := ⟨t.kind, t.text, t.pos + n⟩
def shiftA (n : Nat) : LexA → LexA
  | .inl (p, e) => .inl (p + n, e)
  | .inr ts => .inr (ts.map (shiftT n))
theorem shiftA_cons (n : Nat) (t : Tk) (x : LexA) : shiftA n (consA t x) = consA (shiftT n t) (shiftA n x) := by
  cases x with
  | inl y => obtain ⟨p, e⟩ := y; rfl
  | inr ts => rfl
theorem lexF_shift (f : Nat) : ∀ (l : List UInt8) (p n : Nat), lexF f l (p + n) = shiftA n (lexF f l p) := by
  induction f with
  | zero => intro l p n; rfl
  | succ f ih =>
    intro l p n
    simp only [lexF]
    split
    · rfl
    · cases e : nxL (l.drop (skipN l)) with
      | none => simp only [shiftA]; rw [show p + n + skipN l = p + skipN l + n from by omega]
      | some x =>
        obtain ⟨c, m⟩ := x
        simp only
        split
        · simp only [shiftA]; rw [show p + n + skipN l = p + skipN l + n from by omega]
        · rw [shiftA_cons, ← ih]
          congr 1
          · unfold shiftT; simp only; rw [show p + n + skipN l = p + skipN l + n from by omega]
          · rw [show p + n + skipN l = p + skipN l + n from by omega, show p + skipN l + n + pieceN (kindN c) m (l.drop (skipN l)) = p + skipN l + pieceN (kindN c) m (l.drop (skipN l)) + n from by omega]
theorem lexO_shift (l : List UInt8) (n : Nat) : lexO l n = shiftA n (lexO l 0) := by
  have := lexF_shift l.length l 0 n
  rwa [Nat.zero_add] at this
/-- Blanks ahead turn nothing but places. -/
theorem lexO_skip {l : List UInt8} {j : Nat} (h : skipN l = j + skipN (l.drop j)) (hj : j ≤ l.length) (p : Nat) : lexO l p = lexO (l.drop j) (p + j) := by
  have hd : l.drop (skipN l) = (l.drop j).drop (skipN (l.drop j)) := by rw [List.drop_drop, h]
  by_cases hz : skipN l = l.length
  · rw [lexO_fin hz, lexO_fin (by rw [List.length_drop]; omega)]
  · have hle := skipN_le l
    cases e : nxL (l.drop (skipN l)) with
    | none =>
      rw [lexO_text (by omega) e, lexO_text (by rw [List.length_drop]; omega) (by rw [← hd]; exact e), h]
      rw [Nat.add_assoc]
    | some x =>
      obtain ⟨c, m⟩ := x
      by_cases hk : kindN c = 0
      · rw [lexO_syn e hk, lexO_syn (by rw [← hd]; exact e) hk, h, Nat.add_assoc]
      · rw [lexO_tok e hk, lexO_tok (l := l.drop j) (by rw [← hd]; exact e) hk, ← hd, List.drop_drop]
        have e1 : p + skipN l = p + j + skipN (l.drop j) := by omega
        have e2 : skipN l + pieceN (kindN c) m (l.drop (skipN l)) = j + (skipN (l.drop j) + pieceN (kindN c) m (l.drop (skipN l))) := by omega
        rw [e1, e2]
/-- Two texts with the byte 10 between. -/
theorem lex_join {a b : List UInt8} {x y : List Tk} (ha : lexO a 0 = .inr x) (hb : lexO b 0 = .inr y) : lexO (a ++ 10 :: b) 0 = .inr (x ++ y.map (shiftT (a.length + 1))) := by
  obtain ⟨pos, h1, h2⟩ := lex_ok ha
  have hbd := h1.bd
  have hdr : (a ++ 10 :: b).drop pos = a.drop pos ++ 10 :: b := by rw [List.drop_append_of_le_length hbd.1]
  have hsk := skipG_join (a.drop pos) false (by show skipN (a.drop pos) = _; rw [List.length_drop]; omega) b
  have hsk' : skipN ((a ++ 10 :: b).drop pos) = (a.length - pos) + 1 + skipN b := by
    rw [hdr]
    rw [List.length_drop] at hsk
    exact hsk
  have hread : Read (a ++ 10 :: b) pos x := by
    refine h1.move ?_ ?_
    · rw [List.take_append_of_le_length hbd.1]
    · intro t _
      exact contB_skip (by rw [hsk']; omega)
  have hjd : ((a ++ 10 :: b).drop pos).drop (a.length - pos + 1) = b := by
    rw [List.drop_drop, show pos + (a.length - pos + 1) = a.length + 1 from by omega, List.drop_append, List.drop_eq_nil_of_le (by omega)]
    rw [show a.length + 1 - a.length = 1 from by omega]; rfl
  rw [hread.rest, lexO_skip (j := a.length - pos + 1) (by rw [hjd]; exact hsk') (by rw [List.length_drop, List.length_append, List.length_cons]; omega), hjd]
  rw [show pos + (a.length - pos + 1) = a.length + 1 from by omega, lexO_shift, hb]
  rfl
end Go.Proofs.YtkfhlgajeejgeaaGreatDoor

/- Plain facts on a text with a blank or a comment put ahead of a piece. -/
namespace Go.Proofs.YtkfhlgajeejgeaaGreatDoor
open Go.RowKit
set_option linter.unusedVariables false
set_option linter.unusedSimpArgs false
set_option maxRecDepth 20000

/-- Bytes that are blanks and comments, whatever follows. -/
def Blanks (b : List UInt8) : Prop := 1 ≤ b.length ∧ ∀ r, skipN (b ++ r) = b.length + skipN r
theorem blanks_0 : Blanks [32] := ⟨by decide, fun r => by simp [skipN, skipG, blankB]⟩
theorem blanks_1 : Blanks [10] := ⟨by decide, fun r => by simp [skipN, skipG, blankB]⟩
theorem blanks_2 : Blanks [9, 13] := ⟨by decide, fun r => by simp [skipN, skipG, blankB]; omega⟩
theorem blanks_3 : Blanks [47, 47, 32, 104, 111, 112, 32, 59, 32, 123, 10] := ⟨by decide, fun r => by simp [skipN, skipG, blankB, headN]; omega⟩
theorem catA_inr {acc ts : List Tk} {x : LexA} (h : catA acc x = .inr ts) : ∃ r, x = .inr r ∧ acc ++ r = ts := by
  cases x with
  | inl e => simp [catA] at h
  | inr r => simp only [catA, Sum.inr.injEq] at h; exact ⟨r, rfl, h⟩
theorem lex_blank {l b : List UInt8} {ts : List Tk} (hb : Blanks b) (h : lexO l 0 = .inr ts) {k : Nat} {t : Tk} (ht : ts[k]? = some t) :
    lexO (l.take t.pos ++ b ++ l.drop t.pos) 0 = .inr (ts.take k ++ (ts.drop k).map (shiftT b.length)) := by
  obtain ⟨f1, f2, f3, f4, f5, f6, hR, hS⟩ := piece_at h ht
  obtain ⟨E, hE⟩ : ∃ E, endOf (ts.take k) = E := ⟨_, rfl⟩
  rw [hE] at f1 hR hS
  have hsb := hS.bd
  obtain ⟨n, hn⟩ : ∃ n, skipN (l.drop E) = n := ⟨_, rfl⟩
  rw [hn] at f1
  obtain ⟨P, hP⟩ : ∃ P, t.pos = P := ⟨_, rfl⟩
  rw [hP] at f1 f2 hsb ⊢
  have hPl : P < l.length := by omega
  -- the rest behind the piece ahead
  have hz : skipN (l.drop P) = 0 := by
    have := skipN_again (l.drop E)
    rwa [hn, List.drop_drop, ← f1] at this
  have htk : (l.take P).length = P := by rw [List.length_take]; omega
  have hd1 : (l.take P ++ b ++ l.drop P).drop E = (l.drop E).take n ++ (b ++ l.drop P) := by
    rw [List.append_assoc, List.drop_append_of_le_length (by omega), List.drop_take, show P - E = n from by omega]
  have hgl : ((l.drop E).take n).length = n := by rw [List.length_take, List.length_drop]; omega
  have hd2 : ((l.take P ++ b ++ l.drop P).drop E).drop n = b ++ l.drop P := by
    rw [hd1, List.drop_append, List.drop_eq_nil_of_le (by omega), hgl, Nat.sub_self]; rfl
  have hsk : skipN ((l.take P ++ b ++ l.drop P).drop E) = n + b.length := by
    have := skipN_pre (x := l.drop E) (y := (l.take P ++ b ++ l.drop P).drop E) hn (by rw [List.length_drop]; omega) (by rw [hd1, List.take_append_of_le_length (by omega), List.take_take, Nat.min_self])
    rw [this, hd2, hb.2, hz]
    omega
  have hd3 : ((l.take P ++ b ++ l.drop P).drop E).drop (n + b.length) = l.drop P := by
    rw [← List.drop_drop, hd2, List.drop_append, List.drop_eq_nil_of_le (Nat.le_refl _), Nat.sub_self]; rfl
  have hread : Read (l.take P ++ b ++ l.drop P) E (ts.take k) := by
    refine hR.move ?_ ?_
    · rw [List.append_assoc, List.take_append_of_le_length (by omega), List.take_take, Nat.min_eq_left (by omega)]
    · intro t' _
      exact contB_skip (by rw [hsk]; have := hb.1; omega)
  have hlen : n + b.length ≤ ((l.take P ++ b ++ l.drop P).drop E).length := by
    rw [List.length_drop, List.length_append, List.length_append, htk, List.length_drop]; omega
  rw [hread.rest, lexO_skip (j := n + b.length) (by rw [hd3, hz]; exact hsk) hlen, hd3]
  -- what the elder text has from the piece on
  have h2 := hR.rest
  rw [h, lexO_skip (l := l.drop E) (j := n) (by rw [List.drop_drop, ← f1, hz]; exact hn) (by rw [List.length_drop]; omega), List.drop_drop, ← f1] at h2
  obtain ⟨r, hr1, hr2⟩ := catA_inr h2.symm
  have hr3 : r = ts.drop k := by
    have := congrArg (List.drop k) hr2
    have hkl := (List.getElem?_eq_some_iff.1 ht).1
    rw [List.drop_append, List.length_take, Nat.min_eq_left (by omega), Nat.sub_self, List.drop_eq_nil_of_le (by rw [List.length_take]; omega)] at this
    simpa using this
  have h3 : lexO (l.drop P) (E + (n + b.length)) = shiftA b.length (lexO (l.drop P) P) := by
    rw [show E + (n + b.length) = P + b.length from by omega]
    exact lexF_shift _ _ _ _
  rw [h3, hr1, hr3]
  rfl
theorem blank_get {ts : List Tk} {k b i : Nat} {r t : Tk} (hk : k ≤ ts.length) (hr : (ts.take k ++ (ts.drop k).map (shiftT b))[i]? = some r) (ht : ts[i]? = some t) : r.kind = t.kind ∧ r.bytes = t.bytes ∧ r.pos = if k ≤ i then t.pos + b else t.pos := by
  have htl : (ts.take k).length = k := by rw [List.length_take]; omega
  by_cases h : i < k
  · rw [List.getElem?_append_left (by omega), List.getElem?_take, if_pos h, ht] at hr
    simp at hr
    subst hr
    rw [if_neg (by omega)]
    exact ⟨rfl, rfl, rfl⟩
  · rw [List.getElem?_append_right (by omega), htl, List.getElem?_map, List.getElem?_drop, show k + (i - k) = i from by omega, ht] at hr
    simp at hr
    subst hr
    rw [if_pos (by omega)]
    exact ⟨rfl, rfl, rfl⟩
end Go.Proofs.YtkfhlgajeejgeaaGreatDoor

/- valueOf and Of. -/
import Derived.Test.YtlmkgbdcpphofaaVoNode
namespace Go.Proofs.Ytlmkgbdcpphofaa
open Go.ChangeShapes Go.WideShapes Go.ChangeAt Go.RowKit
set_option linter.unusedVariables false
set_option linter.unusedSimpArgs false
set_option maxRecDepth 20000

set_option maxHeartbeats 2000000 in
theorem valueOf_step (n : Nat) (IH : ∀ t v w, TrIn n w v t → okN n t = true → SmN n t → Calls Try.prog 44 #[v] w (VofP n t w)) (t : Tr) (v : Value) (w : World) (ht : TrIn (n + 1) w v t) (hok : okN (n + 1) t = true) (hsm : SmN (n + 1) t) :
    Calls Try.prog 44 #[v] w (VofP (n + 1) t w) := by
  have hND : t.kind = 3 → ∀ W, Below w.heap.size w W → Calls Try.prog 58 #[v] W (NodP n t W) := fun h3 W hW => nodeOf_step n IH t v W (ht.below hW) h3 hok hsm
  have HND : Hid (t.kind = 3 → ∀ W, Below w.heap.size w W → Calls Try.prog 58 #[v] W (NodP n t W)) := hND
  obtain ⟨n', ve, vr, e0, rfl, ka, na, sa, fa, ra, ea⟩ := ht.open
  obtain rfl : n' = n := by omega
  obtain ⟨pe, ce, rfl, -⟩ := ea.open
  obtain ⟨pr, cr, rfl, -⟩ := rest_holds ra
  have hlv : lvB t = true := by
    simp only [okN, Bool.and_eq_true] at hok
    exact hok.1
  have HT : Hid ((t.kind = 1 → t = ⟨1, t.n, ByteArray.empty, [], []⟩) ∧ (t.kind = 2 → t = ⟨2, 0, t.s, [], []⟩)) := by
    constructor
    · intro h
      simp only [lvB, h, if_true] at hlv
      simp at hlv
      obtain ⟨⟨h1, h2⟩, h3⟩ := hlv
      cases t
      simp_all
    · intro h
      simp only [lvB, h] at hlv
      simp at hlv
      obtain ⟨⟨h1, h2⟩, h3⟩ := hlv
      cases t
      simp_all
  have hkk : t.kind = 1 ∨ t.kind = 2 ∨ t.kind = 3 := by
    by_cases h1 : t.kind = 1
    · exact .inl h1
    · by_cases h2 : t.kind = 2
      · exact .inr (.inl h2)
      · by_cases h3 : t.kind = 3
        · exact .inr (.inr h3)
        · simp [lvB, h1, h2, h3] at hlv
  have HNA : Hid (Is64 t.n ∧ t.s.size ≤ 140737488351232) := ⟨na, sa⟩
  clear hND e0 ht ea ra fa ka na sa hlv hok hsm IH
  generalize t.es.length = Ke at *
  generalize t.rest.length = Kr at *
  have al2 : Below w.heap.size w ((w.alloc (Obj.cells #[.int .i64 t.kind, .int .i64 t.n, .string t.s, .slice pe Ke ce, .slice pr Kr cr] 25)).alloc (Obj.cells #[.nilIface] 34)) := ((Below.refl _ _).alloc (Nat.le_refl _) _).alloc (by simp) _
  have HB1 : Hid (Blk ((w.alloc (Obj.cells #[.int .i64 t.kind, .int .i64 t.n, .string t.s, .slice pe Ke ce, .slice pr Kr cr] 25)).alloc (Obj.cells #[.nilIface] 34)) (w.heap.size + 1) #[.nilIface] 34) := blk_new2T w _ _ _
  rcases hkk with h1 | h1 | h1
  · have HK : Hid (t.kind = 1) := h1
    rw [h1] at al2 HB1 ⊢
    clear h1
    go_enter Try.func44, Try.ntmps44
    go_wp2_with fail
    refine (num_any _ _).mono ?_
    rintro e w1 ⟨rfl, hb1⟩
    have hbw : Below w.heap.size w w1 := al2.trans (hb1.mono al2.size)
    have B1 := HB1.out.below hb1
    have q0 := (B1.cell 0).trans rfl
    have z0 := B1.froz 0
    clear hb1 al2 HB1 HND
    go_wp2_with fail
    refine bodyPost_ret (results_cell rfl _ _ _ ⟨w.heap.size + 1, 0, none⟩ (.agg #[.iface 85 (.int .i64 t.n)]) (by go_simp) (by go_simp)) rfl ?_
    exact ⟨_, [], rfl, .inl ⟨rfl, HT.out.1 HK.out, HNA.out.1, rfl⟩, Apt.nil _ _, Below.setCell (p := ⟨w.heap.size + 1, 0, none⟩) hbw (Nat.le_succ _) _⟩
  · have HK : Hid (t.kind = 2) := h1
    rw [h1] at al2 HB1 ⊢
    clear h1
    go_enter Try.func44, Try.ntmps44
    go_wp2_with fail
    refine (str_any _ _).mono ?_
    rintro e w1 ⟨rfl, hb1⟩
    have hbw : Below w.heap.size w w1 := al2.trans (hb1.mono al2.size)
    have B1 := HB1.out.below hb1
    have q0 := (B1.cell 0).trans rfl
    have z0 := B1.froz 0
    clear hb1 al2 HB1 HND
    go_wp2_with fail
    refine bodyPost_ret (results_cell rfl _ _ _ ⟨w.heap.size + 1, 0, none⟩ (.agg #[.iface 86 (.string t.s)]) (by go_simp) (by go_simp)) rfl ?_
    exact ⟨_, [], rfl, .inr (.inl ⟨rfl, HT.out.2 HK.out, HNA.out.2, rfl⟩), Apt.nil _ _, Below.setCell (p := ⟨w.heap.size + 1, 0, none⟩) hbw (Nat.le_succ _) _⟩
  · have HN3 : Hid (∀ W, Below w.heap.size w W → Calls Try.prog 58 #[.agg #[.int .i64 t.kind, .int .i64 t.n, .string t.s, .slice pe Ke ce, .slice pr Kr cr]] W (NodP n' t W)) := HND.out h1
    rw [h1] at al2 HB1 HN3 ⊢
    clear h1 HND
    generalize t.n = N at *
    generalize t.s = S at *
    go_enter Try.func44, Try.ntmps44
    go_wp2_with fail
    refine (HN3.out _ al2).mono ?_
    rintro e w1 ⟨g, bs, rfl, hV, hA, hb1⟩
    have hbw : Below w.heap.size w w1 := al2.trans (hb1.mono al2.size)
    have B1 := HB1.out.below hb1
    have q0 := (B1.cell 0).trans rfl
    have z0 := B1.froz 0
    rw [show ((w.alloc (Obj.cells #[.int .i64 3, .int .i64 N, .string S, .slice pe Ke ce, .slice pr Kr cr] 25)).alloc (Obj.cells #[.nilIface] 34)).heap.size = w.heap.size + 2 from by simp] at hV hA
    have HV : Hid (VaO (n' + 1) (w.heap.size + 2) w1 [.iface 39 (.pointer (some ⟨g, 0, none⟩))] t bs) := hV
    have HA : Hid (Apt (w.heap.size + 2) w1 bs) := hA
    clear hb1 al2 HB1 HN3 hV hA
    go_wp2_with fail
    refine bodyPost_ret (results_cell rfl _ _ _ ⟨w.heap.size + 1, 0, none⟩ (.agg #[.iface 39 (.pointer (some ⟨g, 0, none⟩))]) (by go_simp) (by go_simp)) rfl ?_
    have KS : Kp (fun q => q = w.heap.size + 1) w1 (w1.setCell ⟨w.heap.size + 1, 0, none⟩ (.iface 39 (.pointer (some ⟨g, 0, none⟩)))) := by
      refine Kp.setCell ?_ (fun _ => by simp) _
      exact Kp.refl _ _
    have hV := VaO.base HV.out (B' := w.heap.size) (by omega)
    have hA := Apt.base HA.out (B' := w.heap.size) (by omega)
    refine ⟨_, bs, rfl, hV.sm fun k hk => KS.block k (hA.2 k hk).2 (fun e => ?_), hA.mono KS.size, Below.setCell (p := ⟨w.heap.size + 1, 0, none⟩) hbw (Nat.le_succ _) _⟩
    have h9 := (HA.out.2 k hk).1
    omega
theorem valueOf_any : ∀ (n : Nat) (t : Tr) (v : Value) (w : World), TrIn n w v t → okN n t = true → SmN n t → Calls Try.prog 44 #[v] w (VofP n t w)
  | 0, t, v, w, h, _, _ => by obtain ⟨r, _, h⟩ := h; exact h.elim
  | n + 1, t, v, w, h, h1, h2 => valueOf_step n (fun t v w h h1 h2 => valueOf_any n t v w h h1 h2) t v w h h1 h2
/-- What Of answers. -/
def OfP (n : Nat) (t : Tr) (w : World) (e : Ending) (w' : World) : Prop :=
  ((chkN n t = false ∧ e = .returned (.tuple #[.agg #[.nilIface], .bool false])) ∨ (chkN n t = true ∧ ∃ x bs, e = .returned (.tuple #[.agg #[x], .bool true]) ∧ VaO n w.heap.size w' [x] t bs ∧ Apt w.heap.size w' bs)) ∧ Below w.heap.size w w'
set_option maxHeartbeats 2000000 in
theorem of_any (n : Nat) (t : Tr) (v : Value) (w : World) (h : TrV2 n w v t) (hn : n ≤ 60) (hc : cntN n t ≤ 1000) (hs : SmN n t) : Calls Try.prog 18 #[v] w (OfP n t w) := by
  have HC : Hid (∀ W, Below w.heap.size w W → Calls Try.prog 12 #[v] W fun e w' => e = .returned (.bool (chkN n t)) ∧ Below W.heap.size W w') := fun W hW => vcheck_any n t v W (h.below hW) hn hc hs
  have HV : Hid (chkN n t = true → ∀ W, Below w.heap.size w W → Calls Try.prog 44 #[v] W (VofP n t W)) := fun hk W hW => by
    simp only [chkN, Bool.and_eq_true] at hk
    obtain ⟨r, e, hq⟩ := h.below hW
    exact valueOf_any n t v W ⟨r, e, hq.trC⟩ hk.2 hs
  obtain ⟨ea, el, ec, ra, rl, rc, rfl, -⟩ := h.open
  clear h hc hs
  have al2 : Below w.heap.size w ((w.alloc (Obj.cells #[.int .i64 t.kind, .int .i64 t.n, .string t.s, .slice ea el ec, .slice ra rl rc] 25)).alloc (Obj.cells #[.nilIface] 34)) := ((Below.refl _ _).alloc (Nat.le_refl _) _).alloc (by simp) _
  have HB1 : Hid (Blk ((w.alloc (Obj.cells #[.int .i64 t.kind, .int .i64 t.n, .string t.s, .slice ea el ec, .slice ra rl rc] 25)).alloc (Obj.cells #[.nilIface] 34)) (w.heap.size + 1) #[.nilIface] 34) := blk_new2T w _ _ _
  have HB0 : Hid (Blk ((w.alloc (Obj.cells #[.int .i64 t.kind, .int .i64 t.n, .string t.s, .slice ea el ec, .slice ra rl rc] 25)).alloc (Obj.cells #[.nilIface] 34)) w.heap.size #[.int .i64 t.kind, .int .i64 t.n, .string t.s, .slice ea el ec, .slice ra rl rc] 25) := (Blk.new w _ _).below ((Below.refl _ _).alloc (Nat.le_refl _) _)
  obtain ⟨R, hR⟩ : ∃ R, chkN n t = R := ⟨_, rfl⟩
  have HR : Hid (chkN n t = R) := hR
  rw [hR] at HC HV
  clear hR
  generalize t.kind = K at *
  generalize t.n = N at *
  generalize t.s = S at *
  cases R with
  | false =>
    go_enter Try.func18, Try.ntmps18
    go_wp2_with fail
    refine (HC.out _ al2).mono ?_
    rintro e w1 ⟨rfl, hb1⟩
    have hbw : Below w.heap.size w w1 := al2.trans (hb1.mono al2.size)
    have B1 := HB1.out.below hb1
    have q0 := (B1.cell 0).trans rfl
    have z0 := B1.froz 0
    clear hb1 al2 HB1 HB0 HC HV
    go_wp2_with fail
    have q1 : (w1.setCell ⟨w.heap.size + 1, 0, none⟩ .nilIface).cell? ⟨w.heap.size + 1, 0, none⟩ = some .nilIface := World.cell?_setCell_same' _ _ _ (by rw [q0]; rfl)
    exact bodyPost_ret (v := .tuple #[.agg #[.nilIface], .bool false]) (by simp [results, Try.results18, go_sem, q1]) rfl ⟨.inl ⟨HR.out, rfl⟩, Below.setCell (p := ⟨w.heap.size + 1, 0, none⟩) hbw (Nat.le_succ _) _⟩
  | true =>
    go_enter Try.func18, Try.ntmps18
    go_wp2_with fail
    refine (HC.out _ al2).mono ?_
    rintro e w1 ⟨rfl, hb1⟩
    have hbw : Below w.heap.size w w1 := al2.trans (hb1.mono al2.size)
    have B1 := HB1.out.below hb1
    have B0 := HB0.out.below hb1
    have p0 := (B0.cell 0).trans rfl
    have p1 := (B0.cell 1).trans rfl
    have p2 := (B0.cell 2).trans rfl
    have p3 := (B0.cell 3).trans rfl
    have p4 := (B0.cell 4).trans rfl
    have hB1 : Hid (Blk w1 (w.heap.size + 1) #[.nilIface] 34) := B1
    clear hb1 al2 HB1 HB0 HC B0 B1
    go_wp2_with fail
    refine (HV.out trivial _ hbw).mono ?_
    rintro e w2 ⟨x, bs, rfl, hV, hA, hb2⟩
    have hbw2 : Below w.heap.size w w2 := hbw.trans (hb2.mono hbw.size)
    have B1 := hB1.out.below hb2
    have hlt := hB1.out.lt
    have q0 := (B1.cell 0).trans rfl
    have z0 := B1.froz 0
    obtain ⟨T, u, hx, -⟩ := hV.one
    have hx' : x = .iface T u := by simpa using hx
    subst hx'
    have HVV : Hid (VaO n w.heap.size w2 [.iface T u] t bs) := hV.base hbw.size
    have HAA : Hid (Apt w1.heap.size w2 bs) := hA
    have HLT : Hid (w.heap.size + 1 < w1.heap.size) := hlt
    clear hb2 hbw hV hA hx p0 p1 p2 p3 p4 hlt HV hB1 B1
    go_wp2_with fail
    have q1 : (w2.setCell ⟨w.heap.size + 1, 0, none⟩ (.iface T u)).cell? ⟨w.heap.size + 1, 0, none⟩ = some (.iface T u) := World.cell?_setCell_same' _ _ _ (by rw [q0]; rfl)
    have KS : Kp (fun q => q = w.heap.size + 1) w2 (w2.setCell ⟨w.heap.size + 1, 0, none⟩ (.iface T u)) := by
      refine Kp.setCell ?_ (fun _ => by simp) _
      exact Kp.refl _ _
    have hlt := HLT.out
    refine bodyPost_ret (v := .tuple #[.agg #[.iface T u], .bool true]) (by simp [results, Try.results18, go_sem, q1]) rfl ⟨.inr ⟨HR.out, _, bs, rfl, HVV.out.sm fun k hk => KS.block k (HAA.out.2 k hk).2 (fun e => by have := (HAA.out.2 k hk).1; omega), (HAA.out.mono KS.size).base (by omega)⟩, Below.setCell (p := ⟨w.heap.size + 1, 0, none⟩) hbw2 (Nat.le_succ _) _⟩
end Go.Proofs.Ytlmkgbdcpphofaa

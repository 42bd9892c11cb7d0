/- What the reference's encode, Raws and Encode answer. -/
import Derived.OneCell
import Derived.Deep.OwnRows
import Derived.Test.YtkmdaopmmfdpgaaPkM
import Derived.Test.YtkmdaopmmfdpgaaPkK
import Derived.Test.YtkmdaopmmfdpgaaPkA
import Derived.Test.YtkmdaopmmfdpgaaPkE
import Derived.Test.YtkmdaopmmfdpgaaPkC
namespace Go.Proofs.Ytkmdaopmmfdpgaa
open Go.ChangeShapes Go.WideShapes Go.ChangeAt Go.RowKit
set_option linter.unusedVariables false
set_option linter.unusedSimpArgs false
set_option maxRecDepth 20000

set_option maxHeartbeats 1000000 in
theorem rencode_step (Q : List Fd × Nat) (t : Tr) (n : Nat) (v : Value) (w : World) (ht : TrIn n w v t) (IR : ∀ W, Below w.heap.size w W → Calls Try.prog 31 #[v] W (RwsP Q W)) : Calls Try.prog 28 #[v] w (EncP (ofR Q) w) := by
  obtain ⟨R, hR⟩ : ∃ R, ofR Q = R := ⟨_, rfl⟩
  have HR : Hid (ofR Q = R) := hR
  rw [hR]
  obtain ⟨m', ve, vr, -, rfl, -, -, -, -, ra, ea⟩ := ht.open
  obtain ⟨a1, c1, rfl, -⟩ := ea.open
  obtain ⟨a2, c2, rfl, -⟩ := rest_holds ra
  have HRC : Hid (∀ W, Below w.heap.size w W → Calls Try.prog 31 #[.agg #[.int .i64 t.kind, .int .i64 t.n, .string t.s, .slice a1 t.es.length c1, .slice a2 t.rest.length c2]] W (RwsP Q W)) := IR
  generalize t.kind = K at *
  generalize t.n = N at *
  generalize t.s = S at *
  generalize t.es.length = n1 at *
  generalize t.rest.length = n2 at *
  have hbw : Below w.heap.size w (w.alloc (Obj.cells #[.int .i64 K, .int .i64 N, .string S, .slice a1 n1 c1, .slice a2 n2 c2] 25)) := (Below.refl _ _).alloc (Nat.le_refl _) _
  clear hR ht ra ea IR
  go_enter Try.func28, Try.ntmps28
  go_wp2_with fail
  refine Calls.mono (HRC.out _ hbw) ?_
  rintro ee w1 ⟨r, rfl, hra, hok, hb1⟩
  have hbw1 : Below w.heap.size w w1 := hbw.trans (hb1.mono hbw.size)
  obtain ⟨rs, er⟩ := Q
  have HPC : Hid (Calls Try.prog 37 #[r] w1 fun e w' => ∃ v, e = .returned (.tuple #[v, .int .i64 ((putL rs).2 : Int)]) ∧ w'.ownsRow w1.heap.size 5 1 v (putL rs).1.length (byteCells (putL rs).1) ∧ Below w1.heap.size w1 w') := rputall_at hra hok
  clear hra hok hb1 hbw HRC
  by_cases he : er = 0
  · subst he
    have HRV : Hid (putL rs = R) := (by have := HR.out; rw [ofR, if_neg (by simp)] at this; exact this : putL rs = R)
    rw [HRV.out] at HPC
    clear HR HRV
    go_wp2_with fail
    refine Calls.mono HPC.out ?_
    rintro ee w2 ⟨u, rfl, ho, hb2⟩
    have hbw2 : Below w.heap.size w w2 := hbw1.trans (hb2.mono hbw1.size)
    have HO : Hid (w2.ownsRow w.heap.size 5 1 u R.1.length (byteCells R.1)) := (by
      refine ⟨ho.1, ?_⟩
      rcases ho.2 with h | ⟨g, cap, cur, h1, h2, h3⟩
      · exact .inl h
      · exact .inr ⟨g, cap, cur, h1, Nat.le_trans hbw1.size h2, h3⟩ : w2.ownsRow w.heap.size 5 1 u R.1.length (byteCells R.1))
    clear ho hb2 HPC
    go_wp2_with fail
    go_ret2
    exact ⟨u, rfl, HO.out, hbw2⟩
  · have hd : ((er : Int) != 0) = true := by simp; omega
    have HRV : Hid (R = ([], er)) := (by have := HR.out; rw [ofR, if_pos he] at this; exact this.symm : R = _)
    clear HR HPC he
    go_wp2_with fail
    go_ret2
    exact EncP.no HRV.out hbw1
theorem rraws_any : ∀ (m : Nat) (t : Tr) (v : Value) (w : World), TrIn m w v t → SmN m t → Calls Try.prog 31 #[v] w (RwsP (rwE (bytE (m - 1)) t) w)
  | 0, _, _, _, h, _ => by obtain ⟨r, _, h⟩ := h; exact h.elim
  | m + 1, t, v, w, h, hs => rraws_step m (fun x v w h hs => by
      cases m with
      | zero => obtain ⟨r, _, h⟩ := h; exact h.elim
      | succ m => exact rencode_step _ x (m + 1) v w h fun W hW => rraws_any (m + 1) x v W (h.below hW) hs) t v w h hs
theorem rencode_any (m : Nat) (t : Tr) (v : Value) (w : World) (h : TrIn m w v t) (hs : SmN m t) : Calls Try.prog 28 #[v] w (EncP (bytE m t) w) := by
  cases m with
  | zero => obtain ⟨r, _, h⟩ := h; exact h.elim
  | succ m => exact rencode_step _ t (m + 1) v w h fun W hW => rraws_any (m + 1) t v W (h.below hW) hs
set_option maxHeartbeats 1000000 in
theorem rRaws_any (n : Nat) (t : Tr) (v : Value) (w : World) (ht : TrIn n w v t) (hs : SmN n t) (hn : n ≤ 100) : Calls Try.prog 15 #[v] w (RwsP (rawsA n t) w) := by
  obtain ⟨R, hR⟩ : ∃ R, rawsA n t = R := ⟨_, rfl⟩
  have HR : Hid (rawsA n t = R) := hR
  rw [hR]
  have HCK0 : Hid (∀ W, Below w.heap.size w W → Calls Try.prog 27 #[v] W fun e w' => e = .returned (.bool (chkN n t)) ∧ Below W.heap.size W w') := fun W hW => rCheck_any n t v W (ht.below hW) hn
  have HRC0 : Hid (∀ W, Below w.heap.size w W → Calls Try.prog 31 #[v] W (RwsP (rwE (bytE (n - 1)) t) W)) := fun W hW => rraws_any n t v W (ht.below hW) hs
  cases n with
  | zero => exact hs.elim
  | succ n =>
    obtain ⟨m', ve, vr, -, rfl, -, -, -, -, ra, ea⟩ := ht.open
    obtain ⟨a1, c1, rfl, -⟩ := ea.open
    obtain ⟨a2, c2, rfl, -⟩ := rest_holds ra
    have HCK : Hid (∀ W, Below w.heap.size w W → Calls Try.prog 27 #[.agg #[.int .i64 t.kind, .int .i64 t.n, .string t.s, .slice a1 t.es.length c1, .slice a2 t.rest.length c2]] W fun e w' => e = .returned (.bool (chkN (n + 1) t)) ∧ Below W.heap.size W w') := HCK0.out
    have HRC : Hid (∀ W, Below w.heap.size w W → Calls Try.prog 31 #[.agg #[.int .i64 t.kind, .int .i64 t.n, .string t.s, .slice a1 t.es.length c1, .slice a2 t.rest.length c2]] W (RwsP (rwE (bytE (n + 1 - 1)) t) W)) := HRC0.out
    obtain ⟨K, hK⟩ : ∃ z, t.kind = z := ⟨_, rfl⟩
    have HT3 : Hid (t.kind = K) := hK
    rw [hK] at HCK HRC ⊢
    generalize t.n = N at *
    generalize t.s = S at *
    generalize t.es.length = n1 at *
    generalize t.rest.length = n2 at *
    have BT : Blk (w.alloc (Obj.cells #[.int .i64 K, .int .i64 N, .string S, .slice a1 n1 c1, .slice a2 n2 c2] 25)) w.heap.size #[.int .i64 K, .int .i64 N, .string S, .slice a1 n1 c1, .slice a2 n2 c2] 25 := Blk.new w _ _
    have hbw : Below w.heap.size w (w.alloc (Obj.cells #[.int .i64 K, .int .i64 N, .string S, .slice a1 n1 c1, .slice a2 n2 c2] 25)) := (Below.refl _ _).alloc (Nat.le_refl _) _
    clear hR ht ra ea hs hn hK HCK0 HRC0
    by_cases hK3 : K = 3
    rotate_left
    · have d : (K != 3) = true := by simpa using hK3
      have HRV : Hid (R = ([], 1)) := (by rw [← HR.out]; unfold rawsA; rw [if_neg (by rw [HT3.out]; exact fun h => hK3 h.1)] : R = _)
      clear hK3 HR HT3 HCK HRC BT
      go_enter Try.func15, Try.ntmps15
      go_wp2_with fail
      go_ret2
      exact RwsP.no HRV.out hbw
    · subst hK3
      go_enter Try.func15, Try.ntmps15
      go_wp2_with fail
      refine (HCK.out _ hbw).mono ?_
      rintro ee w1 ⟨rfl, hb1⟩
      have hbw1 : Below w.heap.size w w1 := hbw.trans (hb1.mono hbw.size)
      have BT1 := BT.below hb1
      clear hb1 hbw BT HCK
      obtain ⟨C, hC⟩ : ∃ z, chkN (n + 1) t = z := ⟨_, rfl⟩
      have HC : Hid (chkN (n + 1) t = C) := hC
      rw [hC]
      clear hC
      cases C with
      | false =>
        have HRV : Hid (R = ([], 1)) := (by rw [← HR.out]; unfold rawsA; rw [if_neg (by rw [HT3.out]; exact fun h => absurd h.2 (by rw [HC.out]; decide))] : R = _)
        clear HR HC HRC
        go_wp2_with fail
        go_ret2
        exact RwsP.no HRV.out hbw1
      | true =>
        have HRV : Hid (rwE (bytE (n + 1 - 1)) t = R) := (by rw [← HR.out]; unfold rawsA; rw [if_pos ⟨HT3.out, HC.out⟩] : _ = R)
        have HF2 : Hid (Calls Try.prog 31 #[.agg #[.int .i64 3, .int .i64 N, .string S, .slice a1 n1 c1, .slice a2 n2 c2]] w1 (RwsP R w1)) := (by
          have h1 := HRC.out w1 hbw1
          rw [HRV.out] at h1
          exact h1 : Calls Try.prog _ _ _ _)
        have t0 := (BT1.cell 0).trans rfl
        have t1 := (BT1.cell 1).trans rfl
        have t2 := (BT1.cell 2).trans rfl
        have t3 := (BT1.cell 3).trans rfl
        have t4 := (BT1.cell 4).trans rfl
        clear HRC HRV HR HC BT1
        go_wp2_with fail
        refine Calls.mono HF2.out ?_
        rintro ee w3 ⟨r, rfl, hra, hok, hb3⟩
        have hbw3 : Below w.heap.size w w3 := hbw1.trans (hb3.mono hbw1.size)
        have HRA : Hid (RawsAt w.heap.size w3 r R.1) := (by
          obtain ⟨qa, qc, q1, q2, q3, q4, q5⟩ := hra
          refine ⟨qa, qc, q1, ?_, q3, q4, q5⟩
          rcases q2 with h | ⟨g, g1, g2, g3⟩
          · exact .inl h
          · exact .inr ⟨g, g1, Nat.le_trans hbw1.size g2, g3⟩ : RawsAt w.heap.size w3 r R.1)
        clear hra hb3 HF2 t0 t1 t2 t3 t4
        go_wp2_with fail
        go_ret2
        exact ⟨r, rfl, HRA.out, hok, hbw3⟩
set_option maxHeartbeats 1000000 in
theorem rEncode_any (n : Nat) (t : Tr) (v : Value) (w : World) (ht : TrIn n w v t) (hs : SmN n t) (hn : n ≤ 100) : Calls Try.prog 13 #[v] w (EncP (encA n t) w) := by
  obtain ⟨R, hR⟩ : ∃ R, encA n t = R := ⟨_, rfl⟩
  have HR : Hid (encA n t = R) := hR
  rw [hR]
  have HCK0 : Hid (∀ W, Below w.heap.size w W → Calls Try.prog 27 #[v] W fun e w' => e = .returned (.bool (chkN n t)) ∧ Below W.heap.size W w') := fun W hW => rCheck_any n t v W (ht.below hW) hn
  have HRC0 : Hid (∀ W, Below w.heap.size w W → Calls Try.prog 28 #[v] W (EncP (bytE n t) W)) := fun W hW => rencode_any n t v W (ht.below hW) hs
  cases n with
  | zero => exact hs.elim
  | succ n =>
    obtain ⟨m', ve, vr, -, rfl, -, -, -, -, ra, ea⟩ := ht.open
    obtain ⟨a1, c1, rfl, -⟩ := ea.open
    obtain ⟨a2, c2, rfl, -⟩ := rest_holds ra
    have HCK : Hid (∀ W, Below w.heap.size w W → Calls Try.prog 27 #[.agg #[.int .i64 t.kind, .int .i64 t.n, .string t.s, .slice a1 t.es.length c1, .slice a2 t.rest.length c2]] W fun e w' => e = .returned (.bool (chkN (n + 1) t)) ∧ Below W.heap.size W w') := HCK0.out
    have HRC : Hid (∀ W, Below w.heap.size w W → Calls Try.prog 28 #[.agg #[.int .i64 t.kind, .int .i64 t.n, .string t.s, .slice a1 t.es.length c1, .slice a2 t.rest.length c2]] W (EncP (bytE (n + 1) t) W)) := HRC0.out
    obtain ⟨K, hK⟩ : ∃ z, t.kind = z := ⟨_, rfl⟩
    have HT3 : Hid (t.kind = K) := hK
    rw [hK] at HCK HRC ⊢
    generalize t.n = N at *
    generalize t.s = S at *
    generalize t.es.length = n1 at *
    generalize t.rest.length = n2 at *
    have BT : Blk (w.alloc (Obj.cells #[.int .i64 K, .int .i64 N, .string S, .slice a1 n1 c1, .slice a2 n2 c2] 25)) w.heap.size #[.int .i64 K, .int .i64 N, .string S, .slice a1 n1 c1, .slice a2 n2 c2] 25 := Blk.new w _ _
    have hbw : Below w.heap.size w (w.alloc (Obj.cells #[.int .i64 K, .int .i64 N, .string S, .slice a1 n1 c1, .slice a2 n2 c2] 25)) := (Below.refl _ _).alloc (Nat.le_refl _) _
    clear hR ht ra ea hs hn hK HCK0 HRC0
    by_cases hK3 : K = 3
    rotate_left
    · have d : (K != 3) = true := by simpa using hK3
      have HRV : Hid (R = ([], 1)) := (by rw [← HR.out]; unfold encA rawsA; rw [if_neg (by rw [HT3.out]; exact fun h => hK3 h.1)]; rfl : R = _)
      clear hK3 HR HT3 HCK HRC BT
      go_enter Try.func13, Try.ntmps13
      go_wp2_with fail
      go_ret2
      exact EncP.no HRV.out hbw
    · subst hK3
      go_enter Try.func13, Try.ntmps13
      go_wp2_with fail
      refine (HCK.out _ hbw).mono ?_
      rintro ee w1 ⟨rfl, hb1⟩
      have hbw1 : Below w.heap.size w w1 := hbw.trans (hb1.mono hbw.size)
      have BT1 := BT.below hb1
      clear hb1 hbw BT HCK
      obtain ⟨C, hC⟩ : ∃ z, chkN (n + 1) t = z := ⟨_, rfl⟩
      have HC : Hid (chkN (n + 1) t = C) := hC
      rw [hC]
      clear hC
      cases C with
      | false =>
        have HRV : Hid (R = ([], 1)) := (by rw [← HR.out]; unfold encA rawsA; rw [if_neg (by rw [HT3.out]; exact fun h => absurd h.2 (by rw [HC.out]; decide))]; rfl : R = _)
        clear HR HC HRC
        go_wp2_with fail
        go_ret2
        exact EncP.no HRV.out hbw1
      | true =>
        have HRV : Hid (bytE (n + 1) t = R) := (by rw [← HR.out]; unfold encA rawsA; rw [if_pos ⟨HT3.out, HC.out⟩]; rfl : _ = R)
        have HF2 : Hid (Calls Try.prog 28 #[.agg #[.int .i64 3, .int .i64 N, .string S, .slice a1 n1 c1, .slice a2 n2 c2]] w1 (EncP R w1)) := (by
          have h1 := HRC.out w1 hbw1
          rw [HRV.out] at h1
          exact h1 : Calls Try.prog _ _ _ _)
        have t0 := (BT1.cell 0).trans rfl
        have t1 := (BT1.cell 1).trans rfl
        have t2 := (BT1.cell 2).trans rfl
        have t3 := (BT1.cell 3).trans rfl
        have t4 := (BT1.cell 4).trans rfl
        clear HRC HRV HR HC BT1
        go_wp2_with fail
        refine Calls.mono HF2.out ?_
        rintro ee w3 ⟨r, rfl, ho, hb3⟩
        have hbw3 : Below w.heap.size w w3 := hbw1.trans (hb3.mono hbw1.size)
        have HO : Hid (w3.ownsRow w.heap.size 5 1 r R.1.length (byteCells R.1)) := (by
          refine ⟨ho.1, ?_⟩
          rcases ho.2 with h | ⟨g, cap, cur, h1, h2, h3⟩
          · exact .inl h
          · exact .inr ⟨g, cap, cur, h1, Nat.le_trans hbw1.size h2, h3⟩ : w3.ownsRow w.heap.size 5 1 r R.1.length (byteCells R.1))
        clear ho hb3 HF2 t0 t1 t2 t3 t4
        go_wp2_with fail
        go_ret2
        exact ⟨r, rfl, HO.out, hbw3⟩
end Go.Proofs.Ytkmdaopmmfdpgaa

/- Two messages, one's tags all ahead of the other's: their bytes are one behind the other. -/
namespace Go.Proofs.Ytkmdaopmmfdpgaa
set_option linter.unusedVariables false
set_option linter.unusedSimpArgs false

theorem entsB_app : ∀ {a b : List (Int × List Tr)} {last m : Int}, entsB last a = true → entsB m b = true → (∀ e ∈ a, e.1 ≤ m) → last ≤ m → entsB last (a ++ b) = true
  | [], b, last, m, _, hb, _, hl => by
    cases b with
    | nil => rfl
    | cons e l =>
      simp only [List.nil_append, entsB, Bool.and_eq_true, decide_eq_true_eq] at hb ⊢
      obtain ⟨⟨⟨⟨⟨h1, h2⟩, h3⟩, h4⟩, h5⟩, h6⟩ := hb
      exact ⟨⟨⟨⟨⟨by omega, h2⟩, h3⟩, h4⟩, h5⟩, h6⟩
  | e :: l, b, last, m, ha, hb, hm, hl => by
    simp only [List.cons_append, entsB, Bool.and_eq_true] at ha ⊢
    exact ⟨ha.1, entsB_app ha.2 hb (fun e he => hm e (List.mem_cons_of_mem _ he)) (hm e (List.mem_cons_self ..))⟩
theorem entsB_low : ∀ {b : List (Int × List Tr)} {last m : Int}, entsB last b = true → (∀ e ∈ b, m < e.1) → entsB m b = true
  | [], _, _, _, _ => rfl
  | e :: l, last, m, h, hm => by
    simp only [entsB, Bool.and_eq_true, decide_eq_true_eq] at h ⊢
    obtain ⟨⟨⟨⟨⟨h1, h2⟩, h3⟩, h4⟩, h5⟩, h6⟩ := h
    exact ⟨⟨⟨⟨⟨hm e (List.mem_cons_self ..), h2⟩, h3⟩, h4⟩, h5⟩, h6⟩
/-- The fields of entries that rise do rise. -/
theorem fsE_rises {B : Tr → List Nat × Nat} : ∀ {es : List (Int × List Tr)} {last : Int}, entsB last es = true → (∀ p ∈ fsE B es, p.2 = 0) → Rises ((fsE B es).map (·.1)) ∧ ∀ f ∈ (fsE B es).map (·.1), last < f.tag
  | [], last, _, _ => ⟨List.Pairwise.nil, by simp [fsE]⟩
  | e :: l, last, h, hp => by
    have e1 : fsE B (e :: l) = enE B e ++ fsE B l := by simp [fsE]
    rw [e1] at hp ⊢
    simp only [entsB, Bool.and_eq_true, decide_eq_true_eq] at h
    have hl := h.1.1.1.1.1
    obtain ⟨r1, r2⟩ := fsE_rises h.2 fun p hq => hp p (List.mem_append.2 (.inr hq))
    have ht : ∀ f ∈ (enE B e).map (·.1), f.tag = e.1 := fun f hf => by
      simp only [enE, List.map_map, List.mem_map, Function.comp] at hf
      obtain ⟨x, hx, rfl⟩ := hf
      exact flE_tag2 (hp _ (List.mem_append.2 (.inl (List.mem_map.2 ⟨x, hx, rfl⟩))))
    rw [List.map_append]
    refine ⟨List.pairwise_append.2 ⟨?_, r1, fun a ha b hb => ?_⟩, fun f hf => ?_⟩
    · refine List.Pairwise.imp_of_mem (R := fun _ _ => True) (fun {a b} ha hb _ => ?_) (List.pairwise_of_forall fun _ _ => trivial)
      rw [ht a ha, ht b hb]
      exact Int.le_refl _
    · rw [ht a ha]
      have := r2 b hb
      omega
    · rcases List.mem_append.1 hf with hf | hf
      · rw [ht f hf]; exact hl
      · have := r2 f hf; omega
/-- A message of entries alone. -/
def mesT (es : List (Int × List Tr)) : Tr := ⟨3, 0, ⟨#[]⟩, es, []⟩
theorem chk_mes {n : Nat} {es : List (Int × List Tr)} : chkN (n + 1) (mesT es) = true ↔ (1 + ((subs es).map (dpN n)).foldr max 0 ≤ 10 ∧ entsB 0 es = true ∧ ∀ x ∈ subs es, okN n x = true) := by
  have he : (⟨#[]⟩ : ByteArray).size = 0 := rfl
  simp [chkN, dpN, okN, lvB, mesT, restB, risesB, he, List.all_eq_true]
theorem foldr_max_app (a b : List Nat) : (a ++ b).foldr max 0 ≤ max (a.foldr max 0) (b.foldr max 0) := foldr_max_le fun x hx => by
  rcases List.mem_append.1 hx with h | h
  · exact Nat.le_trans (le_foldr_max h) (Nat.le_max_left _ _)
  · exact Nat.le_trans (le_foldr_max h) (Nat.le_max_right _ _)
theorem subs_app (a b : List (Int × List Tr)) : subs (a ++ b) = subs a ++ subs b := by simp [subs]
/-- A message whose encoding is right, without rest: what it is. -/
theorem enc_mes {n : Nat} {t : Tr} (h : (encA (n + 1) t).2 = 0) (hr : t.rest = []) : t = mesT t.es := by
  obtain ⟨h1, h2, _, _⟩ := raws_inv (enc_inv h).1
  simp only [chkN, okN, Bool.and_eq_true] at h2
  have h3 := h2.2.1
  simp only [lvB, h1, if_neg (show ¬ (3 : Int) = 1 by decide), if_neg (show ¬ (3 : Int) = 2 by decide), if_pos, Bool.and_eq_true, beq_iff_eq] at h3
  exact tr_parts h1 h3.1.1.1 (size_zero h3.1.1.2) rfl hr
theorem enc_bytes {n : Nat} {es : List (Int × List Tr)} (h : (encA (n + 1) (mesT es)).2 = 0) : entsB 0 es = true ∧ errE (fsE (bytE n) es) = 0 ∧ (((fsE (bytE n) es).map (·.1)).all okF) = true ∧ (encA (n + 1) (mesT es)).1 = flatN ((fsE (bytE n) es).map (·.1)) ∧ chkN (n + 1) (mesT es) = true := by
  obtain ⟨h1, h2, h3, h4⟩ := enc_inv h
  obtain ⟨_, c2, _, c4⟩ := raws_inv h1
  have hE := (chk_mes.1 c2).2.1
  have hs : sortF (fldsE (n + 1) (mesT es)) = (fsE (bytE n) es).map (·.1) := by
    have e1 : fldsE (n + 1) (mesT es) = (fsE (bytE n) es).map (·.1) := by simp [fldsE, mesT]
    rw [e1]
    exact sortF_id ((rises_iff _).2 (fsE_rises hE (errE_all c4)).1)
  rw [hs] at h2 h3
  exact ⟨hE, c4, h2, h3, c2⟩
/-- The two, one behind the other. -/
theorem enc_join {n : Nat} {a b : List (Int × List Tr)} (ha : (encA (n + 1) (mesT a)).2 = 0) (hb : (encA (n + 1) (mesT b)).2 = 0) (hm : ∀ e ∈ a, e.1 < 200) (hm2 : ∀ e ∈ b, 200 ≤ e.1) (hl : (encA (n + 1) (mesT a)).1.length + (encA (n + 1) (mesT b)).1.length ≤ 4096) :
    encA (n + 1) (mesT (a ++ b)) = ((encA (n + 1) (mesT a)).1 ++ (encA (n + 1) (mesT b)).1, 0) := by
  obtain ⟨a1, a2, a3, a4, a5⟩ := enc_bytes ha
  obtain ⟨b1, b2, b3, b4, b5⟩ := enc_bytes hb
  have hE : entsB 0 (a ++ b) = true := entsB_app a1 (entsB_low (m := 199) b1 fun e he => by have := hm2 e he; omega) (fun e he => by have := hm e he; omega) (by decide)
  have hC : chkN (n + 1) (mesT (a ++ b)) = true := by
    rw [chk_mes] at a5 b5 ⊢
    refine ⟨?_, hE, fun x hx => ?_⟩
    · rw [subs_app, List.map_append]
      have h1 := foldr_max_app ((subs a).map (dpN n)) ((subs b).map (dpN n))
      have h2 := a5.1
      have h3 := b5.1
      omega
    · rw [subs_app] at hx
      rcases List.mem_append.1 hx with h | h
      · exact a5.2.2 x h
      · exact b5.2.2 x h
  have hF : errE (fsE (bytE n) (a ++ b)) = 0 := by rw [fsE_app, errE_app, if_pos a2]; exact b2
  have e1 : rawsA (n + 1) (mesT (a ++ b)) = ((fsE (bytE n) (a ++ b)).map (·.1), 0) := by
    unfold rawsA
    rw [if_pos ⟨rfl, hC⟩]
    have h1 : errE (fsE (bytE (n + 1 - 1)) (mesT (a ++ b)).es) = 0 := hF
    rw [rwE_ok h1]
    congr 1
    show sortF ((fsE (bytE n) (a ++ b)).map (·.1) ++ []) = _
    rw [List.append_nil]
    exact sortF_id ((rises_iff _).2 (fsE_rises hE (errE_all hF)).1)
  have e2 : encA (n + 1) (mesT (a ++ b)) = putL ((fsE (bytE n) (a ++ b)).map (·.1)) := by
    unfold encA ofR; rw [e1]; rfl
  rw [e2, fsE_app, List.map_append, putL_ok, flatN_app, ← a4, ← b4]
  · rw [List.all_append, a3, b3]; rfl
  · rw [flatN_app, List.length_append, ← a4, ← b4]; exact hl
/-- All tags are below the last one. -/
theorem ents_last_lt : ∀ {a : List (Int × List Tr)} {last m : Int}, entsB last a = true → (∀ e, a.getLast? = some e → e.1 < m) → ∀ e ∈ a, e.1 < m
  | [], _, _, _, _, e, he => by cases he
  | [x], _, m, _, hl, e, he => by
    obtain rfl : e = x := by simpa using he
    exact hl e rfl
  | x :: y :: l, last, m, h, hl, e, he => by
    simp only [entsB, Bool.and_eq_true] at h
    have h2 : entsB x.1 (y :: l) = true := by
      have := h.2
      simp only [entsB, Bool.and_eq_true]
      exact this
    have ih := ents_last_lt h2 (m := m) (fun e he => hl e (by rw [List.getLast?_cons_cons]; exact he))
    rcases List.mem_cons.1 he with rfl | he
    · have h3 := entsB_gt h2 y (List.mem_cons_self ..)
      have h4 := ih y (List.mem_cons_self ..)
      omega
    · exact ih e he
/-- Tags that are turned. -/
def tagJ (z : Int) : Int := bits .and .i64 z 255 + 200
theorem tagJ_in (z : Int) : 200 ≤ tagJ z ∧ tagJ z ≤ 455 := by
  have hle : (BitVec.ofInt 64 z &&& BitVec.ofInt 64 255).toNat ≤ 255 := by
    rw [BitVec.toNat_and]
    exact Nat.le_trans Nat.and_le_right (by decide)
  have e : bits .and .i64 z 255 = IntKind.i64.wrap ((BitVec.ofInt 64 z &&& BitVec.ofInt 64 255).toNat : Int) := rfl
  unfold tagJ
  rw [e, IntKind.wrap_i64]
  generalize (BitVec.ofInt 64 z &&& BitVec.ofInt 64 255).toNat = k at *
  omega
/-- The entries with their first i tags turned. -/
def turnE (es : List (Int × List Tr)) (i : Nat) : List (Int × List Tr) := (es.take i).map (fun e => (tagJ e.1, e.2)) ++ es.drop i
theorem turnE_zero (es : List (Int × List Tr)) : turnE es 0 = es := by simp [turnE]
theorem turnE_len (es : List (Int × List Tr)) (i : Nat) : (turnE es i).length = es.length := by
  unfold turnE; rw [List.length_append, List.length_map, List.length_take, List.length_drop]; omega
theorem turnE_at {es : List (Int × List Tr)} {i : Nat} {e : Int × List Tr} (h : es[i]? = some e) : (turnE es i)[i]? = some e := by
  obtain ⟨hl, rfl⟩ := List.getElem?_eq_some_iff.1 h
  unfold turnE
  rw [List.getElem?_append_right (by simp; omega)]
  simp only [List.length_map, List.length_take, Nat.min_eq_left (Nat.le_of_lt hl), Nat.sub_self, List.getElem?_drop, Nat.add_zero]
  exact h
theorem turnE_step {es : List (Int × List Tr)} {i : Nat} {e : Int × List Tr} (h : es[i]? = some e) : (turnE es i).set i (tagJ e.1, e.2) = turnE es (i + 1) := by
  obtain ⟨hl, rfl⟩ := List.getElem?_eq_some_iff.1 h
  unfold turnE
  rw [List.take_succ_eq_append_getElem hl, List.map_append, List.set_append_right _ _ (by simp; omega)]
  simp only [List.length_map, List.length_take, Nat.min_eq_left (Nat.le_of_lt hl), Nat.sub_self]
  rw [List.drop_eq_getElem_cons hl, List.set_cons_zero, List.append_assoc]
  rfl
theorem turnE_all (es : List (Int × List Tr)) : ∀ e ∈ turnE es es.length, 200 ≤ e.1 := fun e he => by
  unfold turnE at he
  rw [List.take_length, List.drop_length, List.append_nil] at he
  obtain ⟨x, _, rfl⟩ := List.mem_map.1 he
  exact (tagJ_in x.1).1
end Go.Proofs.Ytkmdaopmmfdpgaa

/- Split from RowSet. -/
namespace Go.Proofs.Ytkmdaopmmfdpgaa
open Go.ChangeShapes Go.WideShapes Go.ChangeAt Go.RowKit
set_option linter.unusedVariables false
set_option linter.unusedSimpArgs false
set_option maxRecDepth 20000

theorem flat_set {size : Nat} : ∀ (rs : List (List Value)), (∀ r ∈ rs, r.length = size) → ∀ (j : Nat) (r : List Value), rs[j]? = some r → ∀ (c : Nat) (u : Value), c < size → rs.flatten.set (j * size + c) u = (rs.set j (r.set c u)).flatten
  | [], _, j, r, h, _, _, _ => by simp at h
  | x :: l, hl, 0, r, h, c, u, hc => by
    obtain rfl : x = r := by simpa using h
    have hx := hl x (List.mem_cons_self ..)
    rw [List.flatten_cons, Nat.zero_mul, Nat.zero_add, List.set_append_left _ _ (by omega), List.set_cons_zero, List.flatten_cons]
  | x :: l, hl, j + 1, r, h, c, u, hc => by
    have hx := hl x (List.mem_cons_self ..)
    have ih := flat_set l (fun r hr => hl r (List.mem_cons_of_mem _ hr)) j r (by simpa using h) c u hc
    rw [List.flatten_cons, List.set_append_right _ _ (by rw [hx, Nat.add_mul]; omega), List.set_cons_succ, List.flatten_cons, ← ih]
    congr 2
    rw [hx, Nat.add_mul]; omega
end Go.Proofs.Ytkmdaopmmfdpgaa

/- Trees of one's own whose entries are turned in place, or put behind one another. -/
namespace Go.Proofs.Ytkmdaopmmfdpgaa
open Go.ChangeShapes Go.WideShapes Go.ChangeAt Go.RowKit
set_option linter.unusedVariables false
set_option linter.unusedSimpArgs false
set_option maxRecDepth 20000

theorem sm_setCell {w : World} {p : Addr} {u : Value} {bs : List Nat} (h : p.block ∉ bs) : Sm w (w.setCell p u) bs := fun k hk => Below.heap_setCell _ _ _ _ (fun e => h (e ▸ hk))
theorem own_baseG {w : World} {base base' : Nat} {e : TypeId} {s : Nat} {v : Value} {n : Nat} {xs : List Value} (h : w.ownsRow base e s v n xs) (hb : base' ≤ base) : w.ownsRow base' e s v n xs := by
  refine ⟨h.1, ?_⟩
  rcases h.2 with h | ⟨g, cap, cur, h1, h2, h3⟩
  · exact .inl h
  · exact .inr ⟨g, cap, cur, h1, Nat.le_trans hb h2, h3⟩
/-- An entry's tag is turned, in place. -/
theorem RowO.setTag {n B g cap : Nat} {w : World} {es : List (Int × List Tr)} {rows : List (List Value)} {bss : List (List Nat)} (h : RowO (EtO (TrO n B) B) B 41 2 w (.slice (some ⟨g, 0, none⟩) es.length cap) es rows bss) (hg : g ∉ bss.flatten) {i : Nat} {e : Int × List Tr} (hi : es[i]? = some e) {z : Int} (hz : Is64 z) :
    ∃ rows', RowO (EtO (TrO n B) B) B 41 2 (w.setCell ⟨g, i * 2, none⟩ (.int .i64 z)) (.slice (some ⟨g, 0, none⟩) es.length cap) (es.set i (z, e.2)) rows' bss := by
  obtain ⟨r, b, hr, hb, vt, rs', bss', rfl, g2, g3, g4⟩ := h.each i e hi
  have hlt : i < rows.length := (List.getElem?_eq_some_iff.1 hr).1
  have hlt2 : i < es.length := (List.getElem?_eq_some_iff.1 hi).1
  have hst := (h.own.stored (i * 2) (.int .i64 z)).1
  have hf := flat_set rows h.wide i _ hr 0 (.int .i64 z) (by decide)
  rw [Nat.add_zero] at hf
  rw [hf] at hst
  refine ⟨rows.set i [.int .i64 z, vt], ⟨by rw [List.length_set]; exact hst, by rw [List.length_set, List.length_set]; exact h.len, by rw [List.length_set]; exact h.blen, fun r hr => ?_, fun j x hx => ?_⟩⟩
  · rcases List.mem_or_eq_of_mem_set hr with hr | rfl
    · exact h.wide r hr
    · rfl
  · rw [List.getElem?_set] at hx
    split at hx
    · rename_i hij
      subst hij
      obtain rfl : (z, e.2) = x := by simpa using hx
      refine ⟨[.int .i64 z, vt], b, by rw [List.getElem?_set, if_pos rfl, if_pos hlt], hb, vt, rs', bss', rfl, hz, ?_, g4⟩
      refine g3.sm (sm_setCell fun hk => hg (List.mem_flatten.2 ⟨b, List.mem_of_getElem? hb, by rw [g4]; exact hk⟩)) fun r x b hp hs => hp.sm hs
    · rename_i hij
      obtain ⟨r2, b2, q1, q2, q3⟩ := h.each j x hx
      exact ⟨r2, b2, by rw [List.getElem?_set, if_neg hij]; exact q1, q2, q3.sm (sm_setCell fun hk => hg (List.mem_flatten.2 ⟨b2, List.mem_of_getElem? q2, hk⟩))⟩
theorem TrO.setTag {n B g cap : Nat} {w : World} {t : Tr} {vr : Value} {bs : List Nat} (h : TrO (n + 1) B w [.int .i64 t.kind, .int .i64 t.n, .string t.s, .slice (some ⟨g, 0, none⟩) t.es.length cap, vr] t bs) (hn : bs.Nodup) {i : Nat} {e : Int × List Tr} (hi : t.es[i]? = some e) {z : Int} (hz : Is64 z) :
    TrO (n + 1) B (w.setCell ⟨g, i * 2, none⟩ (.int .i64 z)) [.int .i64 t.kind, .int .i64 t.n, .string t.s, .slice (some ⟨g, 0, none⟩) t.es.length cap, vr] { t with es := t.es.set i (z, e.2) } bs ∧ g ∈ bs := by
  obtain ⟨ve, vr', rows, bss, h1, h2, h3, h4, h5, h6, h7, rfl⟩ := h
  simp only [List.cons.injEq, and_true, true_and] at h1
  obtain ⟨rfl, rfl⟩ := h1
  have hbl : blkOf (.slice (some ⟨g, 0, none⟩) t.es.length cap) = [g] := rfl
  rw [allB, hbl] at hn
  have hn1 : g ∉ bss.flatten := by
    have := (List.nodup_append.1 hn).2.1
    rw [List.singleton_append, List.nodup_cons] at this
    exact this.1
  have hn2 : g ∉ blkOf vr := fun hk => (List.nodup_append.1 hn).2.2 g hk g (by simp) rfl
  obtain ⟨rows', h8⟩ := h7.setTag hn1 hi hz
  refine ⟨⟨_, vr, rows', bss, rfl, h2, h3, h4, h5, ownsRow_setCell_other h6 (fun e => hn2 (mem_blkOf.2 e)) _, h8, rfl⟩, ?_⟩
  rw [allB, hbl]
  simp
/-- Entries behind entries. -/
theorem RowO.join {n B B2 : Nat} {w w' : World} {v v2 v' : Value} {es fs : List (Int × List Tr)} {rows rows2 : List (List Value)} {bss bss2 : List (List Nat)} (h : RowO (EtO (TrO n B2) B2) B2 41 2 w v es rows bss) (k : RowO (EtO (TrO n B) B) B 41 2 w v2 fs rows2 bss2) (hB : B ≤ B2)
    (ho : w'.ownsRow B2 41 2 v' (es.length + rows2.length) (rows.flatten ++ rows2.flatten)) (s1 : Sm w w' bss.flatten) (s2 : Sm w w' bss2.flatten) : RowO (EtO (TrO n B) B) B 41 2 w' v' (es ++ fs) (rows ++ rows2) (bss ++ bss2) := by
  refine ⟨?_, ?_, ?_, ?_, fun i x hx => ?_⟩
  · rw [List.length_append, ← k.len, List.flatten_append]
    exact own_baseG ho hB
  · rw [List.length_append, List.length_append, h.len, k.len]
  · rw [List.length_append, List.length_append, h.blen, k.blen]
  · intro r hr
    rcases List.mem_append.1 hr with hr | hr
    · exact h.wide r hr
    · exact k.wide r hr
  · by_cases hi : i < es.length
    · rw [List.getElem?_append_left hi] at hx
      obtain ⟨r, b, q1, q2, q3⟩ := h.each i x hx
      refine ⟨r, b, by rw [List.getElem?_append_left (by rw [h.len]; exact hi)]; exact q1, by rw [List.getElem?_append_left (by rw [h.blen]; exact hi)]; exact q2, ?_⟩
      have q4 := q3.sm (s1.mono fun k hk => List.mem_flatten.2 ⟨b, List.mem_of_getElem? q2, hk⟩)
      obtain ⟨vt, rs', bs', g1, g2, g3, g4⟩ := q4
      exact ⟨vt, rs', bs', g1, g2, g3.base hB (fun r x b hp => hp.base hB), g4⟩
    · rw [List.getElem?_append_right (by omega)] at hx
      obtain ⟨r, b, q1, q2, q3⟩ := k.each _ x hx
      refine ⟨r, b, by rw [List.getElem?_append_right (by rw [h.len]; omega), h.len]; exact q1, by rw [List.getElem?_append_right (by rw [h.blen]; omega), h.blen]; exact q2, q3.sm (s2.mono fun k hk => List.mem_flatten.2 ⟨b, List.mem_of_getElem? q2, hk⟩)⟩
end Go.Proofs.Ytkmdaopmmfdpgaa

/- Split from WWireLimits. -/
namespace Go.Proofs.Ytkmdaopmmfdpgaa
open Go.ChangeShapes Go.WideShapes Go.ChangeAt Go.RowKit
set_option linter.unusedVariables false
set_option linter.unusedSimpArgs false
set_option maxRecDepth 20000

theorem infoByte1 : (Try.prog.info? 5).map (fun i => (i.zero, i.size, i.bytes)) = some (some (.int .u8 0), 1, 1) := infoByte
/-- Zeros that were made. -/
theorem holds_zeros (w : World) (n : Nat) : Holds (w.alloc (.cells (madeCells #[.int .u8 0] n) 5)) (some ⟨w.heap.size, 0, none⟩) (List.replicate n 0) := by
  refine Holds.of fun j hj => ?_
  rw [List.length_replicate] at hj
  rw [World.cell?_alloc_at _ _ _ _ rfl, Nat.zero_add]
  have : (madeCells #[Value.int .u8 0] n)[j]? = some (.int .u8 0) := by simp [madeCells, hj, Nat.mod_one]
  rw [this]
  simp [List.getD_eq_getElem?_getD, hj]
theorem digs_two {v : Nat} (h1 : 128 ≤ v) (h2 : v < 16384) : (digs v).length = 2 := by
  rw [digs_big (by omega), digs_small (by omega)]; rfl
theorem putL_one (b : ByteArray) (h1 : 128 ≤ b.size) (h2 : b.size ≤ 4096) : putL [⟨1, 1, 0, b⟩] = if b.size + 3 ≤ 4096 then (flatN [⟨1, 1, 0, b⟩], 0) else ([], 4) := by
  have hok : [(⟨1, 1, 0, b⟩ : Fd)].all okF = true := by simp [okF, okV]; omega
  have hl : (flatN [⟨1, 1, 0, b⟩]).length = b.size + 3 := by
    have := fieldN_text 1 0 b
    rw [flatN_cons, flatN_nil, List.append_nil, show (⟨1, 1, 0, b⟩ : Fd) = ⟨((1 : Nat) : Int), 1, 0, b⟩ from rfl, this, List.length_append, List.length_append, bytesN_len, digs_two h1 (by omega), digs_small (by decide)]
    simp; omega
  rw [putL, if_pos hok, hl]
end Go.Proofs.Ytkmdaopmmfdpgaa

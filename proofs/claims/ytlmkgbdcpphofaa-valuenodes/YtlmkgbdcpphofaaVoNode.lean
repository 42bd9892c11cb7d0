/- nodeOf and valueOf. -/
import Derived.Test.YtlmkgbdcpphofaaVoEnt
import Derived.Test.YtlmkgbdcpphofaaTvRaws
import Derived.Test.YtlmkgbdcpphofaaRg6
import Derived.Test.YtlmkgbdcpphofaaRg
namespace Go.Proofs.Ytlmkgbdcpphofaa
open Go.ChangeShapes Go.WideShapes Go.ChangeAt Go.RowKit
set_option linter.unusedVariables false
set_option linter.unusedSimpArgs false
set_option maxRecDepth 20000

theorem infoVe : (Try.prog.info? 91).map (fun i => (i.zero, i.size, i.bytes)) = some (some (.agg #[.int .i64 0, .slice none 0 0]), 2, 32) := by kernel_rfl
theorem bytes_empty {s : ByteArray} (h : s.size = 0) : s = ByteArray.empty := by
  obtain ⟨⟨l⟩⟩ := s
  cases l with
  | nil => rfl
  | cons a l => simp [ByteArray.size] at h
theorem own_empty {w : World} {g B : Nat} {e : TypeId} {s : Nat} (h : Blk w g #[] e) (hB : B ≤ g) : w.ownsRow B e s (.slice (some ⟨g, 0, none⟩) 0 0) 0 [] :=
  ⟨by simp, .inr ⟨g, 0, #[], rfl, hB, h, Nat.le_refl _, by decide, by simp, by simp⟩⟩
set_option maxHeartbeats 1000000 in
theorem clone_any {w : World} {v : Value} {l : List Fd} (hr : RowG w v 4 (fdRows l)) (hl : l.length ≤ 1000) :
    Calls Try.prog 45 #[v] w fun e w' => ∃ r, e = .returned r ∧ w'.ownsRow w.heap.size 83 4 r l.length (rawCells l) ∧ Below w.heap.size w w' := by
  obtain ⟨a, cap, rfl, h1, h2, h3, h4, -⟩ := rest_holds hr
  cases a with
  | none =>
    have hl0 : l = [] := by
      rcases h3 with h | ⟨g, off, e⟩
      · exact h
      · cases e
    subst hl0
    have := h4 rfl
    subst this
    have hq : ∀ W, (binOp .eql 23 (.slice none 0 0) (.slice none 0 0)).run Try.prog W = .ok (.bool true) W := fun W => by kernel_rfl
    simp only [List.length_nil]
    go_enter Try.func45, Try.ntmps45
    go_wp2_with fail
    go_ret
    exact ⟨_, rfl, World.ownsRow_nil _ _ _ _, Below.refl _ _⟩
  | some a =>
    have hN : (fdRows l).length = l.length := by simp [fdRows]
    have hal : Below w.heap.size w (w.alloc (Obj.cells #[] 83)) := (Below.refl _ _).alloc (Nat.le_refl _) _
    obtain ⟨v', W4, r1, r2, r3⟩ := run_joinG (w := w.alloc (Obj.cells #[] 83)) 23 23 83 4 40 _ Try.underlying23 infoRaw rfl (by decide) w.heap.size (.slice (some ⟨w.heap.size, 0, none⟩) 0 0) 0 [] (own_empty (Blk.new w _ _) (Nat.le_refl _)) (.slice (some a) l.length cap) (fdRows l) (hr.below hal) (fdr_len l) (fdr_one l) (by omega) (by decide) hal.size
    have HRUN : Hid _ := r1
    rw [List.nil_append, hN, Nat.zero_add, ← rawCells_flat] at r2
    have hb4 : Below w.heap.size w W4 := hal.grown r3 hal.size (fun q hq => by simp [Value.ownBlock] at hq; omega)
    have HO : Hid (W4.ownsRow w.heap.size 83 4 v' l.length (rawCells l)) := r2
    obtain ⟨na, nc, hv'⟩ := own_form r2
    subst hv'
    clear r1 r2 r3 hr h3 h4 hN hal
    generalize hLn : l.length = Ln at *
    have HLn : Hid (l.length = Ln) := hLn
    clear hLn
    have hq : ∀ W, (binOp .eql 23 (.slice (some a) Ln cap) (.slice none 0 0)).run Try.prog W = .ok (.bool false) W := fun W => by kernel_rfl
    go_enter Try.func45, Try.ntmps45
    go_wp2_with (first | (at_builtin; refine wpList_ran rfl (append_run rfl rfl rfl HRUN.out) ?_) | fail)
    go_ret
    exact ⟨_, rfl, HO.out, hb4⟩
/-- What nodeOf answers. -/
def NodP (n : Nat) (t : Tr) (w : World) (e : Ending) (w' : World) : Prop := ∃ g bs, e = .returned (.pointer (some ⟨g, 0, none⟩)) ∧ VaO (n + 1) w.heap.size w' [.iface 39 (.pointer (some ⟨g, 0, none⟩))] t bs ∧ Apt w.heap.size w' bs ∧ Below w.heap.size w w'
/-- What stands while the node is being made. -/
structure NdS (n B b0 gn : Nat) (bx : Array Value) (vn vr : Value) (es : List (Int × List Tr)) (fs : List Fd) (rows : List (List Value)) (bss : List (List Nat)) (w : World) : Prop where
  row : RowO (VeO (VaO n B) B) B 91 2 w vn es rows bss
  rst : w.ownsRow B 83 4 vr fs.length (rawCells fs)
  nd : Blk w gn #[vn, vr] 89
  bx : Blk w b0 bx 25
theorem NdS.sm {n B b0 gn : Nat} {bx : Array Value} {vn vr : Value} {es : List (Int × List Tr)} {fs : List Fd} {rows : List (List Value)} {bss : List (List Nat)} {w w' : World} (h : NdS n B b0 gn bx vn vr es fs rows bss w)
    (hs : Sm w w' ([b0, gn] ++ (blkOf vr ++ allB vn bss))) : NdS n B b0 gn bx vn vr es fs rows bss w' :=
  ⟨h.row.sm (hs.mono fun k hk => by simp [hk]) fun _ _ _ hp hb => hp.sm hb, own_sm h.rst (hs.mono fun k hk => by simp [hk]), (hs gn (by simp)).trans h.nd, (hs b0 (by simp)).trans h.bx⟩
theorem NdS.lt {n B b0 gn : Nat} {bx : Array Value} {vn vr : Value} {es : List (Int × List Tr)} {fs : List Fd} {rows : List (List Value)} {bss : List (List Nat)} {w : World} (h : NdS n B b0 gn bx vn vr es fs rows bss w) {more : List Nat}
    (ap : Apt B w (([gn] ++ blkOf vr) ++ (allB vn bss ++ more))) : ∀ k ∈ [b0, gn] ++ (blkOf vr ++ allB vn bss), k < w.heap.size := fun k hk => by
  simp only [List.cons_append, List.nil_append, List.mem_cons, List.mem_append] at hk
  rcases hk with rfl | rfl | hk | hk
  · exact h.bx.lt
  · exact h.nd.lt
  · exact (ap.2 k (by simp [hk])).2
  · exact (ap.2 k (by simp [hk])).2
set_option maxHeartbeats 8000000 in
theorem nodeOf_step (n : Nat) (IH : ∀ t v w, TrIn n w v t → okN n t = true → SmN n t → Calls Try.prog 44 #[v] w (VofP n t w)) (t : Tr) (v : Value) (w : World) (ht : TrIn (n + 1) w v t) (hk3 : t.kind = 3) (hok : okN (n + 1) t = true) (hsm : SmN (n + 1) t) :
    Calls Try.prog 58 #[v] w (NodP n t w) := by
  have hEN := entryOf_step n IH
  obtain ⟨n', ve, vr, e0, rfl, ka, na, sa, fa, ra, ea⟩ := ht.open
  obtain rfl : n' = n := by omega
  clear e0 ht
  obtain ⟨pe, ce, rfl, u1, u2, -⟩ := ea.open
  obtain ⟨pr, cr, rfl, x1, x2, -⟩ := rest_holds ra
  unfold maxLen at u2 x2
  obtain ⟨-, hr40, he40, -, hsub⟩ := hsm
  simp only [okN, hk3, if_true, Bool.and_eq_true, List.all_eq_true] at hok
  obtain ⟨hlv, hall⟩ := hok
  simp only [lvB, hk3] at hlv
  simp at hlv
  obtain ⟨⟨⟨hn0, hs0⟩, hen⟩, hrs⟩ := hlv
  have hokE : ∀ e ∈ t.es, 1 ≤ e.2.length := by
    have : ∀ (l : List (Int × List Tr)) (last : Int), entsB last l = true → ∀ e ∈ l, 1 ≤ e.2.length := by
      intro l
      induction l with
      | nil => intro _ _ e he; cases he
      | cons a l ih =>
        intro last h e he
        simp only [entsB, Bool.and_eq_true, decide_eq_true_eq] at h
        rcases List.mem_cons.1 he with rfl | he
        · exact h.1.1.1.2
        · exact ih _ h.2 e he
    exact this t.es 0 hen
  obtain ⟨Ke, hKe⟩ : ∃ K, t.es.length = K := ⟨_, rfl⟩
  obtain ⟨Kr, hKr⟩ : ∃ K, t.rest.length = K := ⟨_, rfl⟩
  have HT3 : Hid (t = ⟨3, 0, ByteArray.empty, t.es, t.rest⟩) := (by
    have hse : t.s = ByteArray.empty := hs0
    cases t
    simp_all : t = ⟨3, 0, ByteArray.empty, t.es, t.rest⟩)
  have HEO : Hid (∀ (e : Int × List Tr), e ∈ t.es → ∀ (vt : Value) (W : World), TrsIn n' W vt e.2 → Is64 e.1 → Calls Try.prog 65 #[.agg #[.int .i64 e.1, vt]] W fun e' w' => ∃ vv bs, e' = .returned (.agg #[.int .i64 e.1, vv]) ∧ VeO (VaO n' W.heap.size) W.heap.size w' [.int .i64 e.1, vv] e bs ∧ Apt W.heap.size w' bs ∧ Below W.heap.size W w') := fun e he vt W h1 h2 =>
    hEN e vt W h1 h2 (fun x hx => hall x (mem_subs.2 ⟨e, he, hx⟩)) (fun x hx => (hsub e he).2 x hx) ⟨hokE e he, (hsub e he).1⟩
  rw [hKe] at u1 he40 ⊢
  rw [hKr] at x1 hr40 ⊢
  have EA : Hid (EnsIn n' w (.slice pe Ke ce) t.es) := (by rw [← hKe]; exact ea : EnsIn n' w (.slice pe Ke ce) t.es)
  have RA : Hid (RowG w (.slice pr Kr cr) 4 (fdRows t.rest)) := (by rw [← hKr]; exact ra : RowG w (.slice pr Kr cr) 4 (fdRows t.rest))
  have HKe : Hid (t.es.length = Ke) := hKe
  have HKr : Hid (t.rest.length = Kr) := hKr
  have HFA : Hid (Fd64 t.rest) := fa
  clear hKe hKr ea ra fa ka na sa hsub hEN IH hk3 hall hn0 hs0 hen hrs hokE
  generalize t.kind = K at *
  generalize t.n = N at *
  generalize t.s = S at *
  have hal0 : Below w.heap.size w (w.alloc (Obj.cells #[.int .i64 K, .int .i64 N, .string S, .slice pe Ke ce, .slice pr Kr cr] 25)) := (Below.refl _ _).alloc (Nat.le_refl _) _
  have HCL : Hid (Calls Try.prog 45 #[.slice pr Kr cr] (w.alloc (Obj.cells #[.int .i64 K, .int .i64 N, .string S, .slice pe Ke ce, .slice pr Kr cr] 25)) fun e w' => ∃ r, e = .returned r ∧ w'.ownsRow (w.alloc (Obj.cells #[.int .i64 K, .int .i64 N, .string S, .slice pe Ke ce, .slice pr Kr cr] 25)).heap.size 83 4 r t.rest.length (rawCells t.rest) ∧ Below (w.alloc (Obj.cells #[.int .i64 K, .int .i64 N, .string S, .slice pe Ke ce, .slice pr Kr cr] 25)).heap.size (w.alloc (Obj.cells #[.int .i64 K, .int .i64 N, .string S, .slice pe Ke ce, .slice pr Kr cr] 25)) w') := clone_any (RA.out.below hal0) (by have := HKr.out; omega)
  have HBX0 : Hid (Blk (w.alloc (Obj.cells #[.int .i64 K, .int .i64 N, .string S, .slice pe Ke ce, .slice pr Kr cr] 25)) w.heap.size #[.int .i64 K, .int .i64 N, .string S, .slice pe Ke ce, .slice pr Kr cr] 25) := Blk.new w _ _
  go_enter Try.func58, Try.ntmps58
  go_wp2_with fail
  refine HCL.out.mono ?_
  rintro e w1 ⟨vr, rfl, ho1, hb1⟩
  obtain ⟨ua, uc, hvr⟩ := own_form ho1
  rw [HKr.out] at hvr
  subst hvr
  have hbw1 : Below w.heap.size w w1 := hal0.trans (hb1.mono hal0.size)
  have BX1 := HBX0.out.below hb1
  have q3 := (BX1.cell 3).trans rfl
  have hws : w.heap.size + 1 ≤ w1.heap.size := by have := hb1.size; simpa using this
  have alN : Below w1.heap.size w1 (w1.alloc (Obj.cells #[.slice none 0 0, .slice ua Kr uc] 89)) := (Below.refl _ _).alloc (Nat.le_refl _) _
  have HNS : Hid (NdS n' w.heap.size w.heap.size w1.heap.size #[.int .i64 K, .int .i64 N, .string S, .slice pe Ke ce, .slice pr Kr cr] (.slice none 0 0) (.slice ua Kr uc) (t.es.take 0) t.rest [] [] (w1.alloc (Obj.cells #[.slice none 0 0, .slice ua Kr uc] 89))) :=
    ⟨RowO.nil _ _ _ _ _, own_base (own_below ho1 alN) (by simp), Blk.new w1 _ _, BX1.below alN⟩
  have HAP0 : Hid (Apt w.heap.size (w1.alloc (Obj.cells #[.slice none 0 0, .slice ua Kr uc] 89)) (([w1.heap.size] ++ blkOf (.slice ua Kr uc)) ++ allB (.slice none 0 0) [])) := by
    show Apt _ _ _
    have h1 : allB (.slice none 0 0) [] = [] := rfl
    rw [h1, List.append_nil]
    refine ⟨?_, fun k hk => ?_⟩
    · rw [List.cons_append, List.nil_append, List.nodup_cons]
      refine ⟨fun h => ?_, ?_⟩
      · have := (own_lt ho1 (mem_blkOf.1 h)).2; omega
      · unfold blkOf; split <;> simp
    · rcases List.mem_cons.1 hk with rfl | hk
      · exact ⟨by omega, by simp⟩
      · have := own_lt ho1 (mem_blkOf.1 hk); exact ⟨by simp at this; omega, by simp; omega⟩
  have HNA : Hid (Below w.heap.size w (w1.alloc (Obj.cells #[.slice none 0 0, .slice ua Kr uc] 89))) := hbw1.alloc hbw1.size _
  have HGN : Hid (w.heap.size < w1.heap.size) := (by omega : w.heap.size < w1.heap.size)
  clear ho1 hb1 hbw1 BX1 hws hal0 HCL HBX0 alN
  have hgn1 := HGN.out
  go_wp2_with fail
  clear q3 hgn1
  generalize (w1.alloc (Obj.cells #[.slice none 0 0, .slice ua Kr uc] 89)) = W0 at *
  generalize w1.heap.size = gn at *
  obtain ⟨b0, hb0'⟩ : ∃ b, w.heap.size = b := ⟨_, rfl⟩
  have HBZ : Hid (w.heap.size = b0) := hb0'
  rw [hb0'] at HNS HAP0 HGN ⊢
  clear hb0'
  go_loopw [14] (fun iv wr => ∃ (i : Nat) (va : Option Addr) (vc : Nat) (rows : List (List Value)) (bss : List (List Nat)), iv = .int .i64 (i : Int) ∧ i ≤ Ke ∧ Hid (NdS n' b0 b0 gn #[.int .i64 K, .int .i64 N, .string S, .slice pe Ke ce, .slice pr Kr cr] (.slice va i vc) (.slice ua Kr uc) (t.es.take i) t.rest rows bss wr) ∧ Hid (Apt b0 wr (([gn] ++ blkOf (.slice ua Kr uc)) ++ allB (.slice va i vc) bss)) ∧ Hid (∀ k ∈ ([gn] ++ blkOf (.slice ua Kr uc)) ++ allB (.slice va i vc) bss, b0 < k) ∧ Below w.heap.size w wr) (fun iv _ => Ke - (intOf iv).toNat)
  case atStart => exact ⟨0, none, 0, [], [], rfl, by omega, HNS, HAP0, (fun k hk => by
    have h1 : allB (.slice none 0 0) [] = [] := rfl
    rw [h1, List.append_nil] at hk
    rcases List.mem_cons.1 hk with rfl | hk
    · exact HGN.out
    · have h2 := (HAP0.out.2 k (List.mem_append.2 (.inl (List.mem_cons_of_mem _ hk)))).1
      rcases Nat.lt_or_eq_of_le h2 with h | h
      · exact h
      · exfalso
        have h3 := HNS.out.rst
        subst h
        obtain ⟨g, cap, cur, h4, _, h5, _⟩ := (h3.2.resolve_left (fun e => by have := mem_blkOf.1 hk; rw [e.1] at this; cases this))
        have h6 : g = b0 := by have := mem_blkOf.1 hk; rw [h4] at this; simpa [Value.ownBlock] using this
        subst h6
        have h7 := HNS.out.bx
        rw [Blk, h5] at h7
        simp at h7 : ∀ k ∈ ([gn] ++ blkOf (.slice ua Kr uc)) ++ allB (.slice none 0 0) [], b0 < k), HNA.out⟩
  case round =>
    clear HNS HAP0 HNA
    obtain ⟨i, va, vc, rows, bss, rfl, hi, HNS, HAP, HGE, hbel⟩ := hrel
    by_cases hlt : i < Ke
    · obtain ⟨x, hx⟩ : ∃ r, t.es[i]? = some r := ⟨_, List.getElem?_eq_getElem (by rw [HKe.out]; exact hlt)⟩
      obtain ⟨ge, off, rfl, cc⟩ := (EA.out.belowE hbel).get hx
      obtain ⟨vt, p0, p1, p2, p3⟩ := ens_at cc
      obtain ⟨pt, ct, rfl, -⟩ := p3.open
      have HX : Hid (t.es[i]? = some x) := hx
      have HEX : Hid (∀ W, Below wr.heap.size wr W → Calls Try.prog 65 #[.agg #[.int .i64 x.1, .slice pt x.2.length ct]] W fun e' w' => ∃ vv bs, e' = .returned (.agg #[.int .i64 x.1, vv]) ∧ VeO (VaO n' W.heap.size) W.heap.size w' [.int .i64 x.1, vv] x bs ∧ Apt W.heap.size w' bs ∧ Below W.heap.size W w') := fun W hW => HEO.out x (List.mem_of_getElem? hx) _ W (p3.belowT hW) p2
      clear hx cc p2 p3
      generalize x.2.length = Xl at *
      obtain ⟨xt, hxt⟩ : ∃ z, x.1 = z := ⟨_, rfl⟩
      rw [hxt] at p0 HEX
      clear hxt
      go_wp2_with fail
      clear p0 p1
      refine M_region (T := fun W => W.cell? ⟨gn, 0, none⟩ = some (.slice va i vc) ∧ W.cell? ⟨wr.heap.size, 0, none⟩ = some (.int .i64 xt) ∧ W.cell? ⟨wr.heap.size, 1, none⟩ = some (.slice pt Xl ct)) (m := 11) (by kernel_rfl) ?_
      have hdr : Below wr.heap.size wr (wr.alloc (Obj.cells #[.int .i64 xt, .slice pt Xl ct] 50)).drew := ((Below.refl _ _).alloc (Nat.le_refl _) _).drew
      have BE0 : Blk (wr.alloc (Obj.cells #[.int .i64 xt, .slice pt Xl ct] 50)).drew wr.heap.size #[.int .i64 xt, .slice pt Xl ct] 50 := Blk.new wr _ _
      have HNSd : Hid (NdS n' b0 b0 gn #[.int .i64 K, .int .i64 N, .string S, .slice (some ⟨ge, off, none⟩) Ke ce, .slice pr Kr cr] (.slice va i vc) (.slice ua Kr uc) (t.es.take i) t.rest rows bss (wr.alloc (Obj.cells #[.int .i64 xt, .slice pt Xl ct] 50)).drew) := HNS.out.sm (Sm.below hdr (HNS.out.lt (more := []) (by simpa using HAP.out)))
      have HAPd : Hid (Apt b0 (wr.alloc (Obj.cells #[.int .i64 xt, .slice pt Xl ct] 50)).drew (([gn] ++ blkOf (.slice ua Kr uc)) ++ allB (.slice va i vc) bss)) := HAP.out.mono hdr.size
      have hbd : Below w.heap.size w (wr.alloc (Obj.cells #[.int .i64 xt, .slice pt Xl ct] 50)).drew := hbel.trans (hdr.mono hbel.size)
      have HW0 : Hid (Calls Try.prog 65 #[.agg #[.int .i64 xt, .slice pt Xl ct]] (wr.alloc (Obj.cells #[.int .i64 xt, .slice pt Xl ct] 50)).drew _) := HEX.out _ hdr
      have HBL : Hid (∀ k, (Value.slice va i vc).ownBlock = some k → k < wr.heap.size) := fun k hk => (own_lt HNS.out.row.own hk).2
      have hgnl : gn < wr.heap.size := HNS.out.nd.lt
      generalize (wr.alloc (Obj.cells #[.int .i64 xt, .slice pt Xl ct] 50)).drew = W0 at *
      generalize wr.heap.size = be at *
      clear hdr HNS HAP hbel HEX
      have hTb : ∀ W, Blk W gn #[.slice va i vc, .slice ua Kr uc] 89 → Blk W be #[.int .i64 xt, .slice pt Xl ct] 50 → W.cell? ⟨gn, 0, none⟩ = some (.slice va i vc) ∧ W.cell? ⟨be, 0, none⟩ = some (.int .i64 xt) ∧ W.cell? ⟨be, 1, none⟩ = some (.slice pt Xl ct) := fun W h1 h2 => ⟨h1.cell 0, h2.cell 0, h2.cell 1⟩
      have hT := hTb W0 HNSd.out.nd BE0
      refine M_take 0 18 (.pointer (some ⟨gn, 0, none⟩)) _ rfl rfl (by kernel_rfl) (by kernel_rfl) (by kernel_rfl) (by kernel_rfl) (by kernel_rfl) (fun _ _ _ h => h) (by rfl) (fun w' hw' => ?_) hT (listed' := #[true, false, false, false, false, false, false, false, false, false, false, false]) (by kernel_rfl) rfl ?_
      · obtain ⟨f0, f1, f2⟩ := hw'; go_simp
      simp only [List.setIfInBounds_toArray, List.set_cons_zero, List.set_cons_succ]
      refine M_take 1 19 (.pointer (some ⟨gn, 0, none⟩)) _ rfl rfl (by kernel_rfl) (by kernel_rfl) (by kernel_rfl) (by kernel_rfl) (by kernel_rfl) (fun _ _ _ h => h) (by rfl) (fun w' hw' => ?_) hT (listed' := #[true, true, false, false, false, false, false, false, false, false, false, false]) (by kernel_rfl) rfl ?_
      · obtain ⟨f0, f1, f2⟩ := hw'; go_simp
      simp only [List.setIfInBounds_toArray, List.set_cons_zero, List.set_cons_succ]
      refine M_take 2 20 (.pointer (some ⟨gn, 0, none⟩)) _ rfl rfl (by kernel_rfl) (by kernel_rfl) (by kernel_rfl) (by kernel_rfl) (by kernel_rfl) (fun _ _ _ h => h) (by rfl) (fun w' hw' => ?_) hT (listed' := #[true, true, true, false, false, false, false, false, false, false, false, false]) (by kernel_rfl) rfl ?_
      · obtain ⟨f0, f1, f2⟩ := hw'; go_simp
      simp only [List.setIfInBounds_toArray, List.set_cons_zero, List.set_cons_succ]
      refine M_take 3 21 (.pointer (some ⟨gn, 0, none⟩)) _ rfl rfl (by kernel_rfl) (by kernel_rfl) (by kernel_rfl) (by kernel_rfl) (by kernel_rfl) (fun _ _ _ h => h) (by rfl) (fun w' hw' => ?_) hT (listed' := #[true, true, true, true, false, false, false, false, false, false, false, false]) (by kernel_rfl) rfl ?_
      · obtain ⟨f0, f1, f2⟩ := hw'; go_simp
      simp only [List.setIfInBounds_toArray, List.set_cons_zero, List.set_cons_succ]
      refine M_take 4 22 (.slice va i vc) _ rfl rfl (by kernel_rfl) (by kernel_rfl) (by kernel_rfl) (by kernel_rfl) (by kernel_rfl) (fun _ _ _ h => h) (by rfl) (fun w' hw' => ?_) hT (listed' := #[true, true, true, true, true, false, false, false, false, false, false, false]) (by kernel_rfl) rfl ?_
      · obtain ⟨f0, f1, f2⟩ := hw'; go_simp
      simp only [List.setIfInBounds_toArray, List.set_cons_zero, List.set_cons_succ]
      refine M_take 5 23 (.agg #[.int .i64 xt, .slice pt Xl ct]) _ rfl rfl (by kernel_rfl) (by kernel_rfl) (by kernel_rfl) (by kernel_rfl) (by kernel_rfl) (fun _ _ _ h => h) (by rfl) (fun w' hw' => ?_) hT (listed' := #[true, true, true, true, true, true, false, false, false, false, false, false]) (by kernel_rfl) rfl ?_
      · obtain ⟨f0, f1, f2⟩ := hw'; go_simp
      simp only [List.setIfInBounds_toArray, List.set_cons_zero, List.set_cons_succ]
      refine M_call 6 24 65 #[.agg #[.int .i64 xt, .slice pt Xl ct]] rfl rfl (by kernel_rfl) (by rfl) (listed' := #[true, true, true, true, true, true, true, false, false, false, false, false]) (by kernel_rfl) (fun W => by go_simp) ?_
      refine Calls.mono HW0.out ?_
      rintro e W1 ⟨vv, bs, rfl, hO, hA, hb1⟩
      obtain ⟨a1, m1, c1, rfl⟩ : ∃ a m c, vv = .slice a m c := by
        obtain ⟨vv', _, _, e1, _, h7, _⟩ := hO
        simp at e1
        obtain ⟨_, rfl⟩ := e1
        obtain ⟨a, c, e⟩ := own_form h7.own
        exact ⟨a, _, c, e⟩
      have hbw1 : Below w.heap.size w W1 := hbd.trans (hb1.mono hbd.size)
      have BE1 := BE0.below hb1
      have HNS1 : Hid (NdS n' b0 b0 gn #[.int .i64 K, .int .i64 N, .string S, .slice (some ⟨ge, off, none⟩) Ke ce, .slice pr Kr cr] (.slice va i vc) (.slice ua Kr uc) (t.es.take i) t.rest rows bss W1) := HNSd.out.sm (Sm.below hb1 (HNSd.out.lt (more := []) (by simpa using HAPd.out)))
      have hW0B : b0 ≤ W0.heap.size := by have := HNSd.out.bx.lt; omega
      have HAP1 : Hid (Apt b0 W1 (([gn] ++ blkOf (.slice ua Kr uc)) ++ (allB (.slice va i vc) bss ++ bs))) := (HAPd.out.append hA hW0B (Nat.le_refl _) hb1.size).of_count fun k => by simp only [List.count_append]; omega
      have HGE1 : Hid (∀ k ∈ ([gn] ++ blkOf (.slice ua Kr uc)) ++ (allB (.slice va i vc) bss ++ bs), b0 < k) := fun k hk => by
        simp only [List.mem_append] at hk
        rcases hk with hk | hk | hk
        · exact HGE.out k (by simp only [List.mem_append]; exact .inl hk)
        · exact HGE.out k (by simp only [List.mem_append]; exact .inr hk)
        · have h1 := (hA.2 k hk).1
          have h2 := HNSd.out.bx.lt
          omega
      have HVE : Hid (VeO (VaO n' b0) b0 W1 [.int .i64 xt, .slice a1 m1 c1] x bs) := hO.base hW0B
      have hT1 := hTb W1 HNS1.out.nd BE1
      refine ⟨_, rfl, hT1, ?_⟩
      simp only [List.setIfInBounds_toArray, List.set_cons_zero, List.set_cons_succ]
      clear HNSd HAPd hbd hO hA hT HGE BE0 HW0
      have hal : Below W1.heap.size W1 (W1.alloc (.cells #[.int .i64 xt, .slice a1 m1 c1] 91)) := (Below.refl _ _).alloc (Nat.le_refl _) _
      have hbw3 : Below w.heap.size w (W1.alloc (.cells #[.int .i64 xt, .slice a1 m1 c1] 91)) := hbw1.trans (hal.mono hbw1.size)
      have BN := Blk.new W1 #[.int .i64 xt, .slice a1 m1 c1] 91
      have BE3 := BE1.below hal
      have HNS3 : Hid (NdS n' b0 b0 gn #[.int .i64 K, .int .i64 N, .string S, .slice (some ⟨ge, off, none⟩) Ke ce, .slice pr Kr cr] (.slice va i vc) (.slice ua Kr uc) (t.es.take i) t.rest rows bss (W1.alloc (.cells #[.int .i64 xt, .slice a1 m1 c1] 91))) := HNS1.out.sm (Sm.below hal (HNS1.out.lt (more := bs) HAP1.out))
      have HAP3 : Hid (Apt b0 (W1.alloc (.cells #[.int .i64 xt, .slice a1 m1 c1] 91)) (([gn] ++ blkOf (.slice ua Kr uc)) ++ (allB (.slice va i vc) bss ++ bs))) := HAP1.out.mono hal.size
      have HVE3 : Hid (VeO (VaO n' b0) b0 (W1.alloc (.cells #[.int .i64 xt, .slice a1 m1 c1] 91)) [.int .i64 xt, .slice a1 m1 c1] x bs) := HVE.out.sm (Sm.below hal fun k hk => (HAP1.out.2 k (by simp only [List.mem_append]; exact .inr (.inr hk))).2)
      have hW3B : b0 ≤ (W1.alloc (.cells #[.int .i64 xt, .slice a1 m1 c1] 91)).heap.size := by have := hb1.size; simp; omega
      have hbeW : be < (W1.alloc (.cells #[.int .i64 xt, .slice a1 m1 c1] 91)).heap.size := BE3.lt
      have hT3 := hTb _ HNS3.out.nd BE3
      have HNW : Hid (w.heap.size ≤ (W1.alloc (.cells #[.int .i64 xt, .slice a1 m1 c1] 91)).heap.size) := hbw3.size
      obtain ⟨bz, hbz⟩ : ∃ n, W1.heap.size = n := ⟨_, rfl⟩
      refine M_run 7 25 (.slice (some ⟨W1.heap.size, 0, none⟩) 1 1) ((W1.alloc (.cells #[.int .i64 xt, .slice a1 m1 c1] 91))) rfl rfl (by kernel_rfl) (by rfl) (listed' := #[true, true, true, true, true, true, true, true, false, false, false, false]) (by kernel_rfl) (by go_simp) hT3 ?_
      simp only [List.setIfInBounds_toArray, List.set_cons_zero, List.set_cons_succ]
      rw [hbz] at BN ⊢
      generalize (W1.alloc (.cells #[.int .i64 xt, .slice a1 m1 c1] 91)) = W3 at *
      clear hbz hal HNS1 HAP1 HVE BE1 hbw1 hT1 hb1
      obtain ⟨i0, hi0, hz0, hz1, hz2⟩ := info_parts infoVe
      have hown := HNS3.out.row.own
      have hlj : (t.es.take i).length = i := by rw [List.length_take, HKe.out]; omega
      rw [hlj] at hown
      obtain ⟨v', W4, r1, r2, r3, _, r5⟩ := run_append_own_at W3 b0 87 87 91 i0 _ 2 32 Try.underlying87 hi0 hz0 hz1 hz2 rfl (by decide) (.slice va i vc) i _ hown ⟨bz, 0, none⟩ 1 1 [.int .i64 xt, .slice a1 m1 c1] rfl (fun j u hu => by
        have := BN.cell j
        rw [Addr.add_lit, Nat.zero_add, this]
        simpa using hu) (fun u hu => by
        simp only [List.mem_cons, List.not_mem_nil, or_false] at hu
        rcases hu with rfl | rfl <;> rfl) (by unfold maxLen; omega) (by omega) hW3B
      have HRUN : Hid _ := r1
      have HROW4 : Hid (RowO (VeO (VaO n' b0) b0) b0 91 2 W4 v' (t.es.take (i + 1)) (rows ++ [[.int .i64 xt, .slice a1 m1 c1]]) (bss ++ [bs])) := by
        show RowO _ _ _ _ _ _ _ _ _
        rw [take_atQ HX.out]
        exact HNS3.out.row.push (HAP3.out.of_count fun k => by simp only [List.count_append]; omega) (by rw [hlj]; exact r2) r3 HVE3.out rfl fun _ _ _ hp hb => hp.sm hb
      have HAP4 : Hid (Apt b0 W4 (([gn] ++ blkOf (.slice ua Kr uc)) ++ allB v' (bss ++ [bs]))) := HAP3.out.push r5 r2 r3.size hW3B
      have HGE4 : Hid (∀ k ∈ ([gn] ++ blkOf (.slice ua Kr uc)) ++ allB v' (bss ++ [bs]), b0 < k) := fun k hk => by
        simp only [allB, List.flatten_append, List.flatten_cons, List.flatten_nil, List.append_nil, List.mem_append] at hk
        rcases hk with hk | hk | hk | hk
        · exact HGE1.out k (by simp only [List.mem_append]; exact .inl hk)
        · rcases r5 with e | e
          · exact HGE1.out k (by simp only [allB, List.mem_append]; exact .inr (.inl (.inl (mem_blkOf.2 (by rw [← e]; exact mem_blkOf.1 hk)))))
          · have := mem_blkOf.1 hk
            rw [e] at this
            have h2 := HNS3.out.bx.lt
            have h3 : W3.heap.size = k := Option.some.inj this
            omega
        · exact HGE1.out k (by simp only [allB, List.mem_append]; exact .inr (.inl (.inr hk)))
        · exact HGE1.out k (by simp only [List.mem_append]; exact .inr (.inr hk))
      have hno : ∀ k ∈ ([gn] ++ blkOf (.slice ua Kr uc)), k ∉ blkOf (.slice va i vc) := fun k hk hq => HAP3.out.apart k hk (by simp [allB, hq])
      have hsm4 : ∀ q : Nat, q < W3.heap.size → q ∉ blkOf (.slice va i vc) → W4.heap[q]? = W3.heap[q]? := fun q h1 h2 => r3.block q h1 (fun e => h2 (mem_blkOf.2 e.symm))
      have BN4 : Blk W4 gn #[.slice va i vc, .slice ua Kr uc] 89 := (hsm4 gn HNS3.out.nd.lt (hno gn (by simp))).trans HNS3.out.nd
      have BX4 : Blk W4 b0 #[.int .i64 K, .int .i64 N, .string S, .slice (some ⟨ge, off, none⟩) Ke ce, .slice pr Kr cr] 25 := (hsm4 b0 HNS3.out.bx.lt (fun hq => by have := HGE1.out b0 (by simp only [allB, List.mem_append]; exact .inr (.inl (.inl hq))); omega)).trans HNS3.out.bx
      have BE4 : Blk W4 be #[.int .i64 xt, .slice pt Xl ct] 50 := (hsm4 be hbeW (fun hq => by have := HBL.out be (mem_blkOf.1 hq); omega)).trans BE3
      have HO4 : Hid (W4.ownsRow b0 83 4 (.slice ua Kr uc) t.rest.length (rawCells t.rest)) := own_sm HNS3.out.rst fun k hk => hsm4 k (own_lt HNS3.out.rst (mem_blkOf.1 hk)).2 (hno k (by simp [hk]))
      have hbw4 : Below w.heap.size w W4 := hbw3.grown r3 HNW.out (fun k hk => by have := (own_lt hown hk).1; have := HBZ.out; omega)
      have hT4 := hTb W4 BN4 BE4
      obtain ⟨na, nc, hv'⟩ := own_form r2
      subst hv'
      clear r1 r2 r3 r5 hown HNS3 HAP3 HVE3 BE3 hbw3 hT3 BN hno hsm4 HGE1
      refine M_run 8 26 (.slice na (i + 1) nc) (W4) rfl rfl (by kernel_rfl) (by rfl) (listed' := #[true, true, true, true, true, true, true, true, true, false, false, false]) (by kernel_rfl) (append_run rfl rfl rfl HRUN.out) hT4 ?_
      simp only [List.setIfInBounds_toArray, List.set_cons_zero, List.set_cons_succ]
      clear HRUN
      refine M_run 9 27 (.pointer (some ⟨gn, 0, none⟩)) (W4) rfl rfl (by kernel_rfl) (by rfl) (listed' := #[true, true, true, true, true, true, true, true, true, true, false, false]) (by kernel_rfl) (by go_simp) hT4 ?_
      simp only [List.setIfInBounds_toArray, List.set_cons_zero, List.set_cons_succ]
      refine M_take 10 28 (.pointer (some ⟨gn, 0, none⟩)) _ rfl rfl (by kernel_rfl) (by kernel_rfl) (by kernel_rfl) (by kernel_rfl) (by kernel_rfl) (fun _ _ _ h => h) (by rfl) (fun w' hw' => ?_) hT4 (listed' := #[true, true, true, true, true, true, true, true, true, true, true, false]) (by kernel_rfl) rfl ?_
      · obtain ⟨f0, f1, f2⟩ := hw'; go_simp
      simp only [List.setIfInBounds_toArray, List.set_cons_zero, List.set_cons_succ]
      have s1 := (BN4.cell 0).trans rfl
      have s2 := BN4.froz 0
      refine M_store 11 (W4.setCell ⟨gn, 0, none⟩ (.slice na (i + 1) nc)) rfl rfl (by kernel_rfl) (by rfl) (listed' := #[true, true, true, true, true, true, true, true, true, true, true, true]) (by kernel_rfl) (by go_simp) (by kernel_rfl) ?_
      refine M_done (by kernel_rfl) ?_ _
      have KS : Kp (fun q => q = gn) W4 (W4.setCell ⟨gn, 0, none⟩ (.slice na (i + 1) nc)) := by
        refine Kp.setCell ?_ (fun _ => by simp) _
        exact Kp.refl _ _
      have hnb : ∀ k ∈ blkOf (.slice ua Kr uc) ++ allB (.slice na (i + 1) nc) (bss ++ [bs]), k ≠ gn := fun k hk e => by
        subst e
        exact (HAP4.out.of_count (cs := [k] ++ (blkOf (.slice ua Kr uc) ++ allB (.slice na (i + 1) nc) (bss ++ [bs]))) fun q => by simp only [List.count_append]; omega).apart k (by simp) hk
      have hsm5 : ∀ bs : List Nat, (∀ k ∈ bs, k < W4.heap.size) → (∀ k ∈ bs, k ≠ gn) → Sm W4 (W4.setCell ⟨gn, 0, none⟩ (.slice na (i + 1) nc)) bs := fun bs h1 h2 k hk => KS.block k (h1 k hk) (h2 k hk)
      have hgn0 := HGN.out
      have HNS5 : Hid (NdS n' b0 b0 gn #[.int .i64 K, .int .i64 N, .string S, .slice (some ⟨ge, off, none⟩) Ke ce, .slice pr Kr cr] (.slice na (i + 1) nc) (.slice ua Kr uc) (t.es.take (i + 1)) t.rest (rows ++ [[.int .i64 xt, .slice a1 m1 c1]]) (bss ++ [bs]) (W4.setCell ⟨gn, 0, none⟩ (.slice na (i + 1) nc))) :=
        ⟨HROW4.out.sm (hsm5 _ (fun k hk => (HAP4.out.2 k (List.mem_append.2 (.inr hk))).2) fun k hk => hnb k (List.mem_append.2 (.inr hk))) fun _ _ _ hp hb => hp.sm hb, own_sm HO4.out (hsm5 _ (fun k hk => (own_lt HO4.out (mem_blkOf.1 hk)).2) fun k hk => hnb k (List.mem_append.2 (.inl hk))), BN4.set 0 _ rfl, BX4.kp KS (by omega)⟩
      have HAP5 : Hid (Apt b0 (W4.setCell ⟨gn, 0, none⟩ (.slice na (i + 1) nc)) (([gn] ++ blkOf (.slice ua Kr uc)) ++ allB (.slice na (i + 1) nc) (bss ++ [bs]))) := HAP4.out.mono KS.size
      have hbw5 : Below w.heap.size w (W4.setCell ⟨gn, 0, none⟩ (.slice na (i + 1) nc)) := hbw4.trans (KS.toBelow hbw4.size (fun q e => by have := HBZ.out; omega))
      generalize (W4.setCell ⟨gn, 0, none⟩ (.slice na (i + 1) nc)) = W5 at *
      clear s1 s2 KS BN4 BX4 BE4 HROW4 HAP4 HO4 hbw4 hT4 hTb hsm5 hnb
      go_wp2_with fail
      go_roundw
      case rel => exact ⟨i + 1, _, _, _, _, by go_num, by omega, HNS5, HAP5, HGE4, hbw5⟩
      case measure => simp [intOf]; omega
    · obtain rfl : i = Ke := by omega
      go_wp2_with fail
      go_ret
      have hrow := HNS.out.row
      rw [List.take_of_length_le (by rw [HKe.out]; omega)] at hrow
      have hbz := HBZ.out
      refine ⟨gn, [gn] ++ (blkOf (.slice ua Kr uc) ++ allB (.slice va i vc) bss), rfl, ?_, ?_, hbel⟩
      · rw [hbz]
        exact .inr (.inr ⟨gn, _, _, rows, bss, rfl, HT3.out, HNS.out.nd, HFA.out, HNS.out.rst, hrow, rfl⟩)
      · rw [hbz]
        exact HAP.out.of_count fun k => by simp only [List.count_append]; omega
end Go.Proofs.Ytlmkgbdcpphofaa

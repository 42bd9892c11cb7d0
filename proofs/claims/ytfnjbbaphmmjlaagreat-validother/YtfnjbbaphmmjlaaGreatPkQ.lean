/- What the statements' own Fit answers, as a whole. -/
import Derived.OpenShut
import Derived.WalkKit
import Derived.ProofKit
import Derived.OwnWalk
import Derived.Test.YtfnjbbaphmmjlaaGreatPkP
import Derived.Test.YtfnjbbaphmmjlaaGreatPkO
import Derived.Test.YtfnjbbaphmmjlaaGreatPkB
import Derived.Test.YtfnjbbaphmmjlaaGreatPkD
import Derived.Test.YtfnjbbaphmmjlaaGreatRows
namespace Go.Proofs.YtfnjbbaphmmjlaaGreat
open Go.ChangeShapes Go.WideShapes Go.ChangeAt Go.RowKit
set_option linter.unusedVariables false
set_option linter.unusedSimpArgs false
set_option maxRecDepth 20000

theorem fit_any (s : ScS) (sn : ByteArray) (ma ea ta : Option Addr) (mn mc en ec tn tc : Nat) (hl20 : ∀ m ∈ s.msgs, m.fields.length ≤ 20) (hkd : ∀ m ∈ s.msgs, ∀ f ∈ m.fields, 1 ≤ f.kind ∧ f.kind ≤ 7) (ls : List Int) (la : Option Addr) (lc L ba : Nat) (w0 : World) (hs0 : ScIn w0 (.agg #[.string sn, .slice ma mn mc, .slice ea en ec, .slice ta tn tc]) s) (hl : RowG w0 (.slice la L lc) 1 (inRows ls)) (hL : ls.length = L) (hL2 : L ≤ 100000) (hba : w0.heap.size ≤ ba) :
    ∀ (m : Nat) (hm4 : m ≤ 4) (deep : Int) (hdeep : deep = 5 - (m : Int)) (nm : ByteArray) (a0 : Nat) (w : World) (hw : Below w0.heap.size w0 w) (hB : Blk w ba #[.int .i64 (a0 : Int)] 3) (ha : a0 ≤ 900), Calls Tryz.prog 50 #[.agg #[.string sn, .slice ma mn mc, .slice ea en ec, .slice ta tn tc], .string nm, .slice la L lc, .pointer (some ⟨ba, 0, none⟩), .int .i64 deep] w (FitP (m + 2) s nm ba a0 w)
  | 0, hm4, deep, hdeep, nm, a0, w, hw, hB, ha => fit_step s sn ma ea ta mn mc en ec tn tc hl20 hkd 0 hm4 ls la lc L ba w0 hs0 hl hL hL2 hba deep hdeep (fun h => absurd h (by decide)) nm a0 w hw hB ha
  | m + 1, hm4, deep, hdeep, nm, a0, w, hw, hB, ha => fit_step s sn ma ea ta mn mc en ec tn tc hl20 hkd (m + 1) hm4 ls la lc L ba w0 hs0 hl hL hL2 hba deep hdeep (fun _ nm a w hw hB _ ha => fit_any s sn ma ea ta mn mc en ec tn tc hl20 hkd ls la lc L ba w0 hs0 hl hL hL2 hba m (by omega) (deep + 1) (by omega) nm a w hw hB ha) nm a0 w hw hB ha
/-- What Fit answers. -/
def FitA (s : ScS) (nm : ByteArray) (w : World) (e : Ending) (w' : World) : Prop := ∃ r t bs, e = .returned (.agg (List.toArray r)) ∧ TrO 6 w.heap.size w' r t bs ∧ Apt w.heap.size w' bs ∧ FitT 6 s nm t ∧ cntN 6 t ≤ 180 ∧ Below w.heap.size w w'
set_option maxHeartbeats 2000000 in
theorem fitAll_any (s : ScS) (sn : ByteArray) (ma ea ta : Option Addr) (mn mc en ec tn tc : Nat) (hl20 : ∀ m ∈ s.msgs, m.fields.length ≤ 20) (hkd : ∀ m ∈ s.msgs, ∀ f ∈ m.fields, 1 ≤ f.kind ∧ f.kind ≤ 7) (ls : List Int) (la : Option Addr) (lc L : Nat) (w : World) (hs0 : ScIn w (.agg #[.string sn, .slice ma mn mc, .slice ea en ec, .slice ta tn tc]) s) (hl : RowG w (.slice la L lc) 1 (inRows ls)) (hL : ls.length = L) (hL2 : L ≤ 100000) (nm : ByteArray) :
    Calls Tryz.prog 26 #[.agg #[.string sn, .slice ma mn mc, .slice ea en ec, .slice ta tn tc], .string nm, .slice la L lc] w (FitA s nm w) := by
  have BR := b3b w #[.string sn, .slice ma mn mc, .slice ea en ec, .slice ta tn tc] #[.int .i64 0, .int .i64 0, .string ⟨#[]⟩, .slice none 0 0, .slice none 0 0] #[.int .i64 0] 26 30 3
  have BA := b3c w #[.string sn, .slice ma mn mc, .slice ea en ec, .slice ta tn tc] #[.int .i64 0, .int .i64 0, .string ⟨#[]⟩, .slice none 0 0, .slice none 0 0] #[.int .i64 0] 26 30 3
  have hbw := b3w w #[.string sn, .slice ma mn mc, .slice ea en ec, .slice ta tn tc] #[.int .i64 0, .int .i64 0, .string ⟨#[]⟩, .slice none 0 0, .slice none 0 0] #[.int .i64 0] 26 30 3
  have HF : Hid (Calls Tryz.prog 50 #[.agg #[.string sn, .slice ma mn mc, .slice ea en ec, .slice ta tn tc], .string nm, .slice la L lc, .pointer (some ⟨w.heap.size + 2, 0, none⟩), .int .i64 1] (((w.alloc (Obj.cells #[.string sn, .slice ma mn mc, .slice ea en ec, .slice ta tn tc] 26)).alloc (Obj.cells #[.int .i64 0, .int .i64 0, .string ⟨#[]⟩, .slice none 0 0, .slice none 0 0] 30)).alloc (Obj.cells #[.int .i64 0] 3)) (FitP 6 s nm (w.heap.size + 2) 0 (((w.alloc (Obj.cells #[.string sn, .slice ma mn mc, .slice ea en ec, .slice ta tn tc] 26)).alloc (Obj.cells #[.int .i64 0, .int .i64 0, .string ⟨#[]⟩, .slice none 0 0, .slice none 0 0] 30)).alloc (Obj.cells #[.int .i64 0] 3)))) := fit_any s sn ma ea ta mn mc en ec tn tc hl20 hkd ls la lc L (w.heap.size + 2) w hs0 hl hL hL2 (by omega) 4 (by decide) 1 (by decide) nm 0 (((w.alloc (Obj.cells #[.string sn, .slice ma mn mc, .slice ea en ec, .slice ta tn tc] 26)).alloc (Obj.cells #[.int .i64 0, .int .i64 0, .string ⟨#[]⟩, .slice none 0 0, .slice none 0 0] 30)).alloc (Obj.cells #[.int .i64 0] 3)) hbw BA (by decide)
  clear hs0 hl hL
  go_enter Tryz.func26, Tryz.ntmps26
  go_wp2_with fail
  refine Calls.mono HF.out ?_
  rintro ee w2 ⟨r, t, bs, a2, rfl, hO, hA, hT, hc, hm, hB2, hK2⟩
  have HSZ : Hid ((((w.alloc (Obj.cells #[.string sn, .slice ma mn mc, .slice ea en ec, .slice ta tn tc] 26)).alloc (Obj.cells #[.int .i64 0, .int .i64 0, .string ⟨#[]⟩, .slice none 0 0, .slice none 0 0] 30)).alloc (Obj.cells #[.int .i64 0] 3)).heap.size = w.heap.size + 3) := (by simp : (((w.alloc (Obj.cells #[.string sn, .slice ma mn mc, .slice ea en ec, .slice ta tn tc] 26)).alloc (Obj.cells #[.int .i64 0, .int .i64 0, .string ⟨#[]⟩, .slice none 0 0, .slice none 0 0] 30)).alloc (Obj.cells #[.int .i64 0] 3)).heap.size = w.heap.size + 3)
  have BR2 := BR.kp hK2 (fun e => by omega)
  obtain ⟨x1, x2, x3, x4, x5, x6, hr⟩ := TrO.open hO
  subst hr
  have hlt2 := BR2.lt
  have r0 := (BR2.cell 0).trans rfl
  have z0 := BR2.froz 0
  have r1 := (BR2.cell 1).trans rfl
  have z1 := BR2.froz 1
  have r2 := (BR2.cell 2).trans rfl
  have z2 := BR2.froz 2
  have r3 := (BR2.cell 3).trans rfl
  have z3 := BR2.froz 3
  have r4 := (BR2.cell 4).trans rfl
  have z4 := BR2.froz 4
  generalize hkk : t.kind = tk at *
  generalize hnn : t.n = tn' at *
  generalize hss : t.s = ts' at *
  have HO : Hid (TrO 6 (((w.alloc (Obj.cells #[.string sn, .slice ma mn mc, .slice ea en ec, .slice ta tn tc] 26)).alloc (Obj.cells #[.int .i64 0, .int .i64 0, .string ⟨#[]⟩, .slice none 0 0, .slice none 0 0] 30)).alloc (Obj.cells #[.int .i64 0] 3)).heap.size w2 [.int .i64 tk, .int .i64 tn', .string ts', .slice x1 x2 x3, .slice x4 x5 x6] t bs ∧ Apt (((w.alloc (Obj.cells #[.string sn, .slice ma mn mc, .slice ea en ec, .slice ta tn tc] 26)).alloc (Obj.cells #[.int .i64 0, .int .i64 0, .string ⟨#[]⟩, .slice none 0 0, .slice none 0 0] 30)).alloc (Obj.cells #[.int .i64 0] 3)).heap.size w2 bs ∧ FitT 6 s nm t ∧ cntN 6 t ≤ 180 ∧ Kp (fun q => q = w.heap.size + 2) (((w.alloc (Obj.cells #[.string sn, .slice ma mn mc, .slice ea en ec, .slice ta tn tc] 26)).alloc (Obj.cells #[.int .i64 0, .int .i64 0, .string ⟨#[]⟩, .slice none 0 0, .slice none 0 0] 30)).alloc (Obj.cells #[.int .i64 0] 3)) w2 ∧ Below w.heap.size w (((w.alloc (Obj.cells #[.string sn, .slice ma mn mc, .slice ea en ec, .slice ta tn tc] 26)).alloc (Obj.cells #[.int .i64 0, .int .i64 0, .string ⟨#[]⟩, .slice none 0 0, .slice none 0 0] 30)).alloc (Obj.cells #[.int .i64 0] 3))) := ⟨hO, hA, hT, by omega, hK2, hbw⟩
  clear hO hA hT hc hm hB2 hK2 HF BR2 BR BA hkk hnn hss hbw
  go_wp2_with fail
  refine bodyPost_ret (results_cell rfl _ _ _ ⟨w.heap.size + 1, 0, none⟩ (.agg #[.int .i64 tk, .int .i64 tn', .string ts', .slice x1 x2 x3, .slice x4 x5 x6]) (by go_simp) (by go_simp)) rfl ?_
  obtain ⟨o1, o2, o3, o4, o7, hbw⟩ := HO.out
  have hfin : ∀ (W : World), Kp (fun q => q = w.heap.size + 1) w2 W → FitA s nm w (.returned (.agg #[.int .i64 tk, .int .i64 tn', .string ts', .slice x1 x2 x3, .slice x4 x5 x6])) W := fun W hW => by
    have hle : w.heap.size ≤ (((w.alloc (Obj.cells #[.string sn, .slice ma mn mc, .slice ea en ec, .slice ta tn tc] 26)).alloc (Obj.cells #[.int .i64 0, .int .i64 0, .string ⟨#[]⟩, .slice none 0 0, .slice none 0 0] 30)).alloc (Obj.cells #[.int .i64 0] 3)).heap.size := hbw.size
    have hsm : Sm w2 W bs := hW.sm fun k hk => ⟨(o2.2 k hk).2, fun e => by have := (o2.2 k hk).1; have := HSZ.out; omega⟩
    have hk2 : Kp (fun q => w.heap.size ≤ q) w W := ((Kp.ofBelow hbw).trans (o7.weak fun i _ e => by omega)).trans (hW.weak fun i _ e => by omega)
    exact ⟨_, t, bs, rfl, (o1.base hle).sm hsm, (o2.base hle).mono hW.size, o3, o4, hk2.toBelow (Nat.le_refl _) (fun k e => e)⟩
  refine hfin _ ?_
  refine Kp.setCell ?_ (fun _ => by simp) _
  refine Kp.setCell ?_ (fun _ => by simp) _
  refine Kp.setCell ?_ (fun _ => by simp) _
  refine Kp.setCell ?_ (fun _ => by simp) _
  refine Kp.setCell ?_ (fun _ => by simp) _
  exact Kp.refl _ _
end Go.Proofs.YtfnjbbaphmmjlaaGreat

/- What a fitting message with one entry more, or a rest, is said to be. -/
namespace Go.Proofs.YtfnjbbaphmmjlaaGreat
set_option linter.unusedVariables false
set_option linter.unusedSimpArgs false

theorem FitT.chk {n : Nat} {s : ScS} {nm : ByteArray} {t : Tr} (h : FitT n s nm t) (hn : n ≤ 10) : chkN n t = true := by
  have := dpN_le n t
  simp only [chkN, Bool.and_eq_true, decide_eq_true_eq]
  exact ⟨by omega, h.ok⟩
theorem FitT.kind {n : Nat} {s : ScS} {nm : ByteArray} {t : Tr} (h : FitT n s nm t) : t.kind = 3 := by rw [h.form]
theorem FitT.valid {n : Nat} {s : ScS} {nm : ByteArray} {t : Tr} (h : FitT n s nm t) (hn : n ≤ 10) (hs : checkA s = 0) (hm : (msgOf s nm).isSome = true) : validA n s nm t = 0 := by
  rw [validA, if_neg (by simp [hs]), if_neg (by simp [hm]), if_neg (by simp [h.chk hn, h.kind])]
  exact h.val
theorem FitT.ents {n : Nat} {s : ScS} {nm : ByteArray} {t : Tr} (h : FitT (n + 1) s nm t) : entsB 0 t.es = true := by
  have h1 := h.ok
  simp only [okN, Bool.and_eq_true] at h1
  have h2 := h1.1
  simp only [lvB, h.kind] at h2
  simp at h2
  exact h2.1.2
theorem ents_last : ∀ (es : List (Int × List Tr)) (last : Int), entsB last es = true → ∀ (x : Int × List Tr), es.getLast? = some x → (∀ e ∈ es, e.1 ≤ x.1) ∧ last < x.1
  | [], _, _, x, hx => by simp at hx
  | [a], last, h, x, hx => by
    simp at hx
    subst hx
    simp only [entsB, Bool.and_eq_true, decide_eq_true_eq] at h
    exact ⟨fun e he => by simp at he; subst he; exact Int.le_refl _, h.1.1.1.1.1⟩
  | a :: b :: l, last, h, x, hx => by
    simp only [entsB, Bool.and_eq_true, decide_eq_true_eq] at h
    have h2 := ents_last (b :: l) a.1 (by simp only [entsB, Bool.and_eq_true, decide_eq_true_eq]; exact h.2) x (by simpa using hx)
    refine ⟨fun e he => ?_, by have := h.1.1.1.1.1; omega⟩
    rcases List.mem_cons.1 he with rfl | he
    · have := h2.2; omega
    · exact h2.1 e he
/-- With an entry of a tag that is no field's. -/
def moreE (t : Tr) (k : Int) : Tr := ⟨3, 0, ⟨#[]⟩, t.es ++ [(k, [⟨1, 1, ⟨#[]⟩, [], []⟩])], []⟩
/-- With a rest. -/
def moreR (t : Tr) (k : Int) : Tr := ⟨3, 0, ⟨#[]⟩, t.es, [⟨k, 0, 1, ⟨#[]⟩⟩]⟩
theorem errF_append {a b : List Int} (h : errF a = 0) : errF (a ++ b) = errF b := by
  induction a with
  | nil => rfl
  | cons c a ih =>
    by_cases hz : c = 0
    · simp only [errF, hz, if_true, List.cons_append] at h ⊢; exact ih h
    · simp only [errF, if_neg hz] at h; exact absurd h hz
theorem FitT.errs {n : Nat} {s : ScS} {nm : ByteArray} {t : Tr} (h : FitT (n + 1) s nm t) : errF (t.es.map (entV (msgV n s) ((msgOf s nm).getD zMs).fields)) = 0 := by
  have h1 := h.val
  simp only [msgV] at h1
  by_cases hq : errF (t.es.map (entV (msgV n s) ((msgOf s nm).getD zMs).fields)) = 0
  · exact hq
  · rw [if_pos hq] at h1; exact absurd h1 hq
theorem msgV_hit {n : Nat} {s : ScS} {nm : ByteArray} {t : Tr} {X : Int} (h : errF (t.es.map (entV (msgV n s) ((msgOf s nm).getD zMs).fields)) = X) (hx : X ≠ 0) : msgV (n + 1) s nm t = X := by
  rw [msgV, h, if_pos hx]
theorem msgV_pass {n : Nat} {s : ScS} {nm : ByteArray} {t : Tr} (h : errF (t.es.map (entV (msgV n s) ((msgOf s nm).getD zMs).fields)) = 0) (hr : (t.rest.any fun f => (fldOf ((msgOf s nm).getD zMs).fields f.tag).isSome) = false) : msgV (n + 1) s nm t = 0 := by
  rw [msgV, h, if_neg (by simp), hr, if_neg (by simp)]
theorem FitT.moreE_valid {n : Nat} {s : ScS} {nm : ByteArray} {t : Tr} (h : FitT (n + 2) s nm t) (hn : n ≤ 8) (hs : checkA s = 0) (hm : (msgOf s nm).isSome = true) {k : Int} (hk1 : 1 ≤ k) (hk2 : k ≤ 500) (hf : fldOf ((msgOf s nm).getD zMs).fields k = none) (hl : ∀ e ∈ t.es, e.1 < k) : validA (n + 2) s nm (moreE t k) = 7 := by
  have hok : okN (n + 2) (moreE t k) = true := by
    have h1 := h.ok
    have h2 := h.ents
    simp only [okN, Bool.and_eq_true] at h1 ⊢
    refine ⟨?_, ?_⟩
    · have h3 := entsB_snoc t.es 0 k [⟨1, 1, ⟨#[]⟩, [], []⟩] h2 hl (by omega) hk2 (by simp) (by simp) (fun x hx y hy => by simp at hx hy; rw [hx, hy])
      simp [lvB, moreE, h3, restB, risesB]
      rfl
    · simp only [moreE, if_true, List.all_eq_true]
      intro x hx
      obtain ⟨e, he, hxe⟩ := mem_subs.1 hx
      rcases List.mem_append.1 he with he | he
      · have h4 := h1.2
        rw [if_pos h.kind, List.all_eq_true] at h4
        have h5 := h4 x (mem_subs.2 ⟨e, he, hxe⟩)
        simpa only [okN] using h5
      · obtain rfl : e = (k, [⟨1, 1, ⟨#[]⟩, [], []⟩]) := by simpa using he
        simp at hxe
        subst hxe
        simp [okN, lvB]
        rfl
  have hck : chkN (n + 2) (moreE t k) = true := by
    have := dpN_le (n + 2) (moreE t k)
    simp only [chkN, Bool.and_eq_true, decide_eq_true_eq]
    exact ⟨by omega, hok⟩
  rw [validA, if_neg (by simp [hs]), if_neg (by simp [hm]), if_neg (by rintro (h9 | h9); (rw [hck] at h9; cases h9); exact h9 rfl)]
  have h6 : errF ((moreE t k).es.map (entV (msgV (n + 1) s) ((msgOf s nm).getD zMs).fields)) = 7 := by
    simp only [moreE, List.map_append, List.map_cons, List.map_nil]
    rw [errF_append h.errs]
    simp [errF, entV, hf]
  exact msgV_hit h6 (by decide)
theorem ents_nohas {es : List (Int × List Tr)} {k : Int} (hl : ∀ e ∈ es, e.1 < k) : hasB es k = false := by
  rw [hasB, List.any_eq_false]
  intro e he
  have := hl e he
  simp; omega
theorem FitT.moreR_valid {n : Nat} {s : ScS} {nm : ByteArray} {t : Tr} (h : FitT (n + 1) s nm t) (hn : n ≤ 9) (hs : checkA s = 0) (hm : (msgOf s nm).isSome = true) {k : Int} (hk1 : 1 ≤ k) (hk2 : k ≤ 500) (hf : fldOf ((msgOf s nm).getD zMs).fields k = none) (hl : ∀ e ∈ t.es, e.1 < k) : validA (n + 1) s nm (moreR t k) = 0 := by
  have hok : okN (n + 1) (moreR t k) = true := by
    have h1 := h.ok
    have h2 := h.ents
    simp only [okN, Bool.and_eq_true] at h1 ⊢
    refine ⟨?_, ?_⟩
    · have h3 := ents_nohas hl
      have h4 : okF ⟨k, 0, 1, ⟨#[]⟩⟩ = true := by simp only [okF, okV, decide_eq_true hk1, decide_eq_true hk2]; rw [ByteArray.toList_eq]; rfl
      simp [lvB, moreR, h2, restB, h3, h4, risesB]
      rfl
    · have h4 := h1.2
      rw [if_pos h.kind] at h4
      simpa only [moreR, if_true] using h4
  have hck : chkN (n + 1) (moreR t k) = true := by
    have := dpN_le (n + 1) (moreR t k)
    simp only [chkN, Bool.and_eq_true, decide_eq_true_eq]
    exact ⟨by omega, hok⟩
  rw [validA, if_neg (by simp [hs]), if_neg (by simp [hm]), if_neg (by rintro (h9 | h9); (rw [hck] at h9; cases h9); exact h9 rfl)]
  refine msgV_pass h.errs ?_
  simp [moreR, hf]
end Go.Proofs.YtfnjbbaphmmjlaaGreat

/- A slice of integers that came in. -/
namespace Go.Proofs.YtfnjbbaphmmjlaaGreat
open Go.ChangeShapes Go.WideShapes Go.ChangeAt Go.RowKit
set_option linter.unusedVariables false
set_option linter.unusedSimpArgs false
set_option maxRecDepth 20000

/-- What the walk is told of a slice of integers that came in. -/
def IsRow (k : IntKind) (w : World) (a : Option Addr) (len cap : Nat) (zs : List Int) : Prop :=
  (a = none ∧ len = 0 ∧ cap = 0 ∧ zs = []) ∨
  ∃ x, a = some x ∧ len ≤ cap ∧ cap ≤ maxLen ∧ zs.length = cap ∧ (∀ i, i < zs.length → w.cell? (x.add i) = some (.int k (zs.getD i 0))) ∧ ∀ n ∈ zs, (Lit.int k n).wf = true
theorem IsRow.rowG {w : World} {a : Option Addr} {len cap : Nat} {zs : List Int} (h : IsRow .i64 w a len cap zs) : RowG w (.slice a len cap) 1 (inRows (zs.take len)) ∧ (zs.take len).length = len := by
  rcases h with ⟨rfl, rfl, rfl, rfl⟩ | ⟨x, rfl, hl, hm, hz, hc, hw⟩
  · exact ⟨RowG.nil _ _, rfl⟩
  · have hlen : (zs.take len).length = len := by rw [List.length_take]; omega
    refine ⟨⟨some x, cap, by rw [show (inRows (zs.take len)).length = len by rw [inRows, List.length_map, hlen]], by rw [show (inRows (zs.take len)).length = len by rw [inRows, List.length_map, hlen]]; exact hl, hm, (fun e => by cases e), fun hne => ?_⟩, hlen⟩
    have hp : 0 < len := by
      cases len with
      | zero => exact absurd (by simp [inRows]) hne
      | succ n => omega
    obtain ⟨b, off, rfl, hcell⟩ := ints_at hc (by omega)
    refine ⟨b, off, rfl, fun i c u j hi hu => ?_⟩
    simp only [inRows, List.getElem?_map, Option.map_eq_some_iff] at hi
    obtain ⟨n, hn, rfl⟩ := hi
    obtain ⟨hj, rfl⟩ : j = 0 ∧ Value.int .i64 n = u := by
      cases j with
      | zero => simpa using hu
      | succ j => simp at hu
    subst hj
    have hi' : i < len := by
      have := (List.getElem?_eq_some_iff.1 hn).1
      omega
    rw [Nat.mul_one, Nat.add_zero, hcell i (by omega)]
    rw [List.getElem?_take_of_lt hi'] at hn
    simp [List.getD_eq_getElem?_getD, hn]
end Go.Proofs.YtfnjbbaphmmjlaaGreat

/- A region that draws its order: a call that turns nothing and a new block are ready; an address and a load are built of what the call answers. -/
namespace Go.Proofs.YtfnjbbaphmmjlaaGreat
set_option linter.unusedVariables false
set_option linter.unusedSimpArgs false

section
variable {P : Program} {md : Region.Mode} {ops : Array Oper} {Q : Exit → Act → World → Prop} {T : World → Prop} {m : Nat}
theorem M_cabl {o1 o2 ok ol : Oper} {fuel : Nat} {listed : Array Bool} {a : Act} {w : World} (i j k l d1 d2 dk dl f : Nat) (vals : Array Value) (u p q : Value) (z : World → Value) (N : World → World)
    (h1 : ops[i]? = some o1) (h2 : ops[j]? = some o2) (hk : ops[k]? = some ok) (hl : ops[l]? = some ol) (hd1 : o1.dst = some d1) (hd2 : o2.dst = some d2) (hdk : ok.dst = some dk) (hdl : ol.dst = some dl) (hij : i ≠ j) (hjk : j ≠ k) (hjl : j ≠ l) (d12 : d1 ≠ d2) (d2k : d2 ≠ dk) (d2l : d2 ≠ dl)
    (hr : Region.ready md ops listed = [i, j]) (hri : (Region.ready md ops (listed.setIfInBounds i true)).contains k = true) (hrik : (Region.ready md ops ((listed.setIfInBounds i true).setIfInBounds k true)).contains l = true) (hrikl : Region.ready md ops (((listed.setIfInBounds i true).setIfInBounds k true).setIfInBounds l true) = [j])
    (hrj : Region.ready md ops (listed.setIfInBounds j true) = [i]) (hrji : Region.ready md ops ((listed.setIfInBounds j true).setIfInBounds i true) = [k]) (hrjik : Region.ready md ops (((listed.setIfInBounds j true).setIfInBounds i true).setIfInBounds k true) = [l])
    (hw1 : ∀ t, Region.wanted o1 t = true) (hw2 : ∀ t, Region.wanted o2 t = true) (hwk : ∀ t, Region.wanted ok t = true) (hwl : ∀ t, Region.wanted ol t = true)
    (hs : Region.noSelect ops = true) (hfk : Region.free md ops (listed.setIfInBounds i true) k = true) (hmk : ((ops[m]?).any fun om => om.after.any fun e => Region.binds md e && e.on == k) = true) (hlm : (listed.setIfInBounds i true).getD m true = false)
    (hfl : Region.free md ops ((listed.setIfInBounds i true).setIfInBounds k true) l = true) (hml : ((ops[m]?).any fun om => om.after.any fun e => Region.binds md e && e.on == l) = true) (hlm2 : ((listed.setIfInBounds i true).setIfInBounds k true).getD m true = false)
    (hQ : ∀ v c a w, Q (.panic c) (a.put ok.dst v) w → Q (.panic c) a w) (hQ2 : ∀ v c a w, Q (.panic c) (a.put ol.dst v) w → Q (.panic c) a w)
    (hx1 : ∀ w', (execOp a.eval o1).run P w' = .ok (.enter f vals) w') (hx1' : ∀ v w', (execOp (a.put (some d2) v).eval o1).run P w' = .ok (.enter f vals) w')
    (hx2 : ∀ (a' : Act) w', (execOp a'.eval o2).run P w' = .ok (.value (z w')) (N w'))
    (hC : ∀ W, Calls P f vals W fun e w1 => e = .returned u ∧ w1 = W)
    (hxk : ∀ w', (execOp (a.put (some d1) u).eval ok).run P w' = .ok (.value p) w') (hxk' : ∀ v w', (execOp ((a.put (some d2) v).put (some d1) u).eval ok).run P w' = .ok (.value p) w')
    (hxl : ∀ w', T w' → (execOp ((a.put (some d1) u).put (some dk) p).eval ol).run P w' = .ok (.value q) w') (hxl' : ∀ v w', T w' → (execOp (((a.put (some d2) v).put (some d1) u).put (some dk) p).eval ol).run P w' = .ok (.value q) w')
    (hT : T w) (hTN : T (N w))
    (h : wpAnyM P md ops Q T m fuel ((((listed.setIfInBounds i true).setIfInBounds k true).setIfInBounds l true).setIfInBounds j true) { a with tmps := (((a.tmps.setIfInBounds d1 u).setIfInBounds dk p).setIfInBounds dl q).setIfInBounds d2 (z w) } (N w)) : wpAnyM P md ops Q T m (fuel + 4) listed a w := by
  refine ⟨fun h0 => (by rw [hr] at h0; cases h0), fun x hx => ?_⟩
  rw [hr] at hx
  simp only [List.mem_cons, List.not_mem_nil, or_false] at hx
  rcases hx with rfl | rfl
  · unfold wpOp
    simp only [h1]
    rw [if_pos (hw1 _)]
    refine .inl ?_
    unfold Oper.wp
    rw [hx1]
    refine Calls.mono (hC w) ?_
    rintro e w1 ⟨rfl, hW⟩
    subst hW
    rw [hd1]
    refine ⟨fun _ => hT, ?_⟩
    refine M_take k dk p _ hk hdk hs hfk hri hmk hlm (fun c a w => hQ _ c a w) (hwk _) (fun w' _ => hxk w') hT rfl rfl ?_
    refine M_take l dl q _ hl hdl hs hfl hrik hml hlm2 (fun c a w => hQ2 _ c a w) (hwl _) (fun w' ht => hxl w' ht) hT rfl rfl ?_
    exact M_run j d2 (z w1) (N w1) h2 hd2 hrikl (hw2 _) rfl (hx2 _ w1) hTN h
  · unfold wpOp
    simp only [h2]
    rw [if_pos (hw2 _)]
    refine .inl ?_
    unfold Oper.wp
    rw [hx2, Oper.upon_value, hd2]
    refine ⟨fun _ => hTN, ?_⟩
    refine ⟨fun h0 => (by rw [hrj] at h0; cases h0), fun y hy => ?_⟩
    rw [hrj, List.mem_singleton] at hy
    subst hy
    unfold wpOp
    simp only [h1]
    rw [if_pos (hw1 _)]
    refine .inl ?_
    unfold Oper.wp
    rw [hx1']
    refine Calls.mono (hC (N w)) ?_
    rintro e w1 ⟨rfl, hW⟩
    subst hW
    rw [hd1]
    refine ⟨fun _ => hTN, ?_⟩
    refine M_run k dk p _ hk hdk hrji (hwk _) rfl (hxk' (z w) _) hTN ?_
    refine M_run l dl q _ hl hdl hrjik (hwl _) rfl (hxl' (z w) _ hTN) hTN ?_
    have hh := h
    rw [Array.setIfInBounds_comm (xs := (listed.setIfInBounds y true).setIfInBounds k true) _ _ (Ne.symm hjl), Array.setIfInBounds_comm (xs := listed.setIfInBounds y true) _ _ (Ne.symm hjk), Array.setIfInBounds_comm (xs := listed) _ _ hij] at hh
    rw [set_comm2 ((a.tmps.setIfInBounds d1 u).setIfInBounds dk p) (Ne.symm d2l), set_comm2 (a.tmps.setIfInBounds d1 u) (Ne.symm d2k), set_comm2 a.tmps d12] at hh
    exact hh
end
end Go.Proofs.YtfnjbbaphmmjlaaGreat

/- What the statements' own Place answers, by a function. -/
namespace Go.Proofs.YtfnjbbaphmmjlaaGreat
open Go.ChangeShapes Go.WideShapes Go.ChangeAt Go.RowKit
set_option linter.unusedVariables false
set_option maxRecDepth 20000

def placeI (v n : Int) : Int := if v.tmod n < 0 then v.tmod n + n else v.tmod n
theorem placeI_in (v n : Int) (hn : 1 ≤ n) : 0 ≤ placeI v n ∧ placeI v n < n := by
  have t1 := Int.tmod_lt_of_pos v (b := n) (by omega)
  have t2 := Int.lt_tmod_of_pos v (b := n) (by omega)
  unfold placeI; split <;> omega
set_option maxHeartbeats 1000000 in
theorem place_is (v n : Int) (hv1 : -9223372036854775808 ≤ v) (hv2 : v ≤ 9223372036854775807) (hn1 : 1 ≤ n) (hn2 : n ≤ 4611686018427387904) (w : World) :
    Calls Tryz.prog 25 #[.int .i64 v, .int .i64 n] w fun e w' => e = .returned (.int .i64 (placeI v n)) ∧ w' = w := by
  have t1 := Int.tmod_lt_of_pos v (b := n) (by omega)
  have t2 := Int.lt_tmod_of_pos v (b := n) (by omega)
  have hz : (n == 0) = false := by rw [beq_eq_false_iff_ne]; omega
  by_cases h : v.tmod n < 0
  · have HP : Hid (v.tmod n + n = placeI v n) := by show _ = _; unfold placeI; rw [if_pos h]
    go_enter Tryz.func25, Tryz.ntmps25
    go_wp2_with fail
    go_ret
    exact ⟨by rw [← HP.out]; rfl, rfl⟩
  · have HP : Hid (v.tmod n = placeI v n) := by show _ = _; unfold placeI; rw [if_neg h]
    go_enter Tryz.func25, Tryz.ntmps25
    go_wp2_with fail
    go_ret
    exact ⟨by rw [← HP.out]; rfl, rfl⟩
end Go.Proofs.YtfnjbbaphmmjlaaGreat

/- What the reference's Message and Enum answer. -/
namespace Go.Proofs.YtfnjbbaphmmjlaaGreat
open Go.ChangeShapes Go.WideShapes Go.ChangeAt Go.RowKit Go.Maps
set_option linter.unusedVariables false
set_option linter.unusedSimpArgs false
set_option maxRecDepth 20000

set_option maxHeartbeats 4000000 in
theorem r7message_any {w : World} {snm nm : ByteArray} {ae at' : Option Addr} {E ce T ct : Nat} {vm : Value} {ms : List MsS} (hr : MsIn w vm ms)  :
    Calls Tryz.prog 37 #[.agg #[.string snm, vm, .slice ae E ce, .slice at' T ct], .string nm] w fun e w' => ∃ vf vr, e = .returned (.tuple #[.agg #[.string ((ms.find? (fun m => decide (m.name = nm))).getD zeroM).name, vf, vr], .bool (ms.find? (fun m => decide (m.name = nm))).isSome]) ∧ RowG w' vf 5 (flRows ((ms.find? (fun m => decide (m.name = nm))).getD zeroM).fields) ∧ RowG w' vr 1 (inRows ((ms.find? (fun m => decide (m.name = nm))).getD zeroM).reserved) ∧ Below w.heap.size w w' := by
  obtain ⟨a, c, rfl, q1, q2⟩ := hr.form2
  have HR : Hid (MsIn w (.slice a ms.length c) ms) := hr
  obtain ⟨N, hN⟩ : ∃ N, ms.length = N := ⟨_, rfl⟩
  rw [hN] at HR q1 ⊢
  have HN : Hid (ms.length = N) := hN
  clear hN hr
  obtain ⟨A, hA⟩ : ∃ A, (ms.find? (fun m => decide (m.name = nm))) = A := ⟨_, rfl⟩
  rw [hA]
  have HA : Hid (A = ((ms.drop 0).find? (fun m => decide (m.name = nm)))) := hA.symm
  clear hA
  have BX0 : Blk ((w.alloc (.cells #[.string snm, .slice a N c, .slice ae E ce, .slice at' T ct] 26)).alloc (.cells #[.string ⟨#[]⟩, .slice none 0 0, .slice none 0 0] 50)) w.heap.size #[.string snm, .slice a N c, .slice ae E ce, .slice at' T ct] 26 := (Blk.new w _ _).below ((Below.refl _ _).alloc (Nat.le_refl _) _)
  have BR0 : Blk ((w.alloc (.cells #[.string snm, .slice a N c, .slice ae E ce, .slice at' T ct] 26)).alloc (.cells #[.string ⟨#[]⟩, .slice none 0 0, .slice none 0 0] 50)) (w.heap.size + 1) #[.string ⟨#[]⟩, .slice none 0 0, .slice none 0 0] 50 := by
    have := Blk.new (w.alloc (.cells #[.string snm, .slice a N c, .slice ae E ce, .slice at' T ct] 26)) #[.string ⟨#[]⟩, .slice none 0 0, .slice none 0 0] 50
    rwa [show (w.alloc (.cells #[.string snm, .slice a N c, .slice ae E ce, .slice at' T ct] 26)).heap.size = w.heap.size + 1 by simp] at this
  have hb0 : Below w.heap.size w ((w.alloc (.cells #[.string snm, .slice a N c, .slice ae E ce, .slice at' T ct] 26)).alloc (.cells #[.string ⟨#[]⟩, .slice none 0 0, .slice none 0 0] 50)) := ((Below.refl _ _).alloc (Nat.le_refl _) _).alloc (by simp) _
  go_enter Tryz.func37, Tryz.ntmps37
  go_wp2_with fail
  go_loopw [6] (fun iv wr => ∃ k : Nat, iv = .int .i64 (k : Int) ∧ k ≤ N ∧ Hid (A = ((ms.drop k).find? (fun m => decide (m.name = nm)))) ∧ Below w.heap.size w wr ∧ Blk wr (w.heap.size + 1) #[.string ⟨#[]⟩, .slice none 0 0, .slice none 0 0] 50 ∧ Blk wr w.heap.size #[.string snm, .slice a N c, .slice ae E ce, .slice at' T ct] 26) (fun iv _ => N - (intOf iv).toNat)
  case atStart => exact ⟨0, rfl, by omega, HA, hb0, BR0, BX0⟩
  case round =>
    obtain ⟨k, rfl, hk, HAk, hbel, BR, BX⟩ := hrel
    clear BX0 BR0 hb0
    have hlt2 : w.heap.size + 1 < wr.heap.size := BR.lt
    have r0 := (BR.cell 0).trans rfl
    have z0 := BR.froz 0
    have r1 := (BR.cell 1).trans rfl
    have z1 := BR.froz 1
    have r2 := (BR.cell 2).trans rfl
    have z2 := BR.froz 2
    have x1 : wr.cell? ⟨w.heap.size, 1, none⟩ = some (.slice a N c) := BX.cell 1
    by_cases hlt : k < N
    · obtain ⟨f, hf⟩ : ∃ n, ms[k]? = some n := ⟨_, List.getElem?_eq_getElem (by rw [HN.out]; exact hlt)⟩
      obtain ⟨g, off, vf, vr, rfl, c0', c1', c2', hrf, hrr⟩ := HR.out.get hf
      have c0 := (hbel.cell (World.block_lt_of_cell? _ _ c0')).trans c0'
      have c1 := (hbel.cell (World.block_lt_of_cell? _ _ c1')).trans c1'
      have c2 := (hbel.cell (World.block_lt_of_cell? _ _ c2')).trans c2'
      clear c0' c1' c2'
      have HF : Hid (RowG w vf 5 (flRows f.fields)) := hrf
      have HV : Hid (RowG w vr 1 (inRows f.reserved)) := hrr
      obtain ⟨a3, c3, rfl, _, _⟩ := hrf.form2
      obtain ⟨a4, c4, rfl, _, _⟩ := hrr.form2
      have HF : Hid (RowG w (.slice a3 (flRows f.fields).length c3) 5 (flRows f.fields)) := HF
      have HV : Hid (RowG w (.slice a4 (inRows f.reserved).length c4) 1 (inRows f.reserved)) := HV
      have HA2 : Hid (A = if decide (f.name = nm) = true then some f else ((ms.drop (k + 1)).find? (fun m => decide (m.name = nm)))) := by
        show _ = _
        rw [HAk.out, drop_at hf, List.find?_cons]
        cases decide (f.name = nm) <;> rfl
      obtain ⟨f0, ff, fr⟩ := f
      simp only at c0 c1 c2 HA2 HF HV 
      generalize hnF : (flRows ff).length = nF at *
      generalize hnR : (inRows fr).length = nR at *
      clear hrf hrr hf HAk hnF hnR
      by_cases he : f0 = nm
      · subst he
        have HA3 : Hid (A = some ⟨f0, ff, fr⟩) := by show _ = _; rw [HA2.out, if_pos (by simp)]
        clear HA2
        go_wp2_with fail
        refine bodyPost_ret (results_two rfl _ _ _ ⟨w.heap.size + 1, 0, none⟩ (.agg #[.string f0, .slice a3 nF c3, .slice a4 nR c4]) (by go_simp) (by go_simp)) rfl ?_
        refine ⟨.slice a3 nF c3, .slice a4 nR c4, ret_two (by rw [HA3.out]; rfl) (by rw [HA3.out]; rfl), ?_, ?_, (Below.setCell (Below.setCell (Below.setCell hbel (by simp) _) (by simp) _) (by simp) _)⟩
        · rw [HA3.out]; exact HF.out.below (Below.setCell (Below.setCell (Below.setCell hbel (by simp) _) (by simp) _) (by simp) _)
        · rw [HA3.out]; exact HV.out.below (Below.setCell (Below.setCell (Below.setCell hbel (by simp) _) (by simp) _) (by simp) _)
      · have hq := bytes_ne he
        have HA3 : Hid (A = ((ms.drop (k + 1)).find? (fun m => decide (m.name = nm)))) := by show _ = _; rw [HA2.out, if_neg (by simpa using he)]
        go_wp2_with fail
        go_roundw
        case rel => exact ⟨k + 1, by go_num, by omega, HA3, hbel, BR, BX⟩
        case measure => simp [intOf]; omega
    · have HA2 : Hid (A = none) := by show _ = _; rw [HAk.out, drop_end (by rw [HN.out]; omega)]; rfl
      go_wp2_with fail
      refine bodyPost_ret (results_two rfl _ _ _ ⟨w.heap.size + 1, 0, none⟩ (.agg #[.string ⟨#[]⟩, .slice none 0 0, .slice none 0 0]) (by go_simp) (by go_simp)) rfl ?_
      exact ⟨.slice none 0 0, .slice none 0 0, ret_two (by rw [HA2.out]; rfl) (by rw [HA2.out]; rfl), by rw [HA2.out]; exact RowG.nil _ _, by rw [HA2.out]; exact RowG.nil _ _, (Below.setCell (Below.setCell (Below.setCell hbel (by simp) _) (by simp) _) (by simp) _)⟩
set_option maxHeartbeats 4000000 in
theorem r7enum_any {w : World} {snm nm : ByteArray} {am at' : Option Addr} {M cm T ct : Nat} {ve : Value} {ms : List EnS} (hr : EnIn w ve ms)  :
    Calls Tryz.prog 121 #[.agg #[.string snm, .slice am M cm, ve, .slice at' T ct], .string nm] w fun e w' => ∃ vv, e = .returned (.tuple #[.agg #[.string ((ms.find? (fun m => decide (m.name = nm))).getD zeroN).name, vv], .bool (ms.find? (fun m => decide (m.name = nm))).isSome]) ∧ RowG w' vv 2 (nmRows ((ms.find? (fun m => decide (m.name = nm))).getD zeroN).values) ∧ Below w.heap.size w w' := by
  obtain ⟨a, c, rfl, q1, q2⟩ := hr.form2
  have HR : Hid (EnIn w (.slice a ms.length c) ms) := hr
  obtain ⟨N, hN⟩ : ∃ N, ms.length = N := ⟨_, rfl⟩
  rw [hN] at HR q1 ⊢
  have HN : Hid (ms.length = N) := hN
  clear hN hr
  obtain ⟨A, hA⟩ : ∃ A, (ms.find? (fun m => decide (m.name = nm))) = A := ⟨_, rfl⟩
  rw [hA]
  have HA : Hid (A = ((ms.drop 0).find? (fun m => decide (m.name = nm)))) := hA.symm
  clear hA
  have BX0 : Blk ((w.alloc (.cells #[.string snm, .slice am M cm, .slice a N c, .slice at' T ct] 26)).alloc (.cells #[.string ⟨#[]⟩, .slice none 0 0] 68)) w.heap.size #[.string snm, .slice am M cm, .slice a N c, .slice at' T ct] 26 := (Blk.new w _ _).below ((Below.refl _ _).alloc (Nat.le_refl _) _)
  have BR0 : Blk ((w.alloc (.cells #[.string snm, .slice am M cm, .slice a N c, .slice at' T ct] 26)).alloc (.cells #[.string ⟨#[]⟩, .slice none 0 0] 68)) (w.heap.size + 1) #[.string ⟨#[]⟩, .slice none 0 0] 68 := by
    have := Blk.new (w.alloc (.cells #[.string snm, .slice am M cm, .slice a N c, .slice at' T ct] 26)) #[.string ⟨#[]⟩, .slice none 0 0] 68
    rwa [show (w.alloc (.cells #[.string snm, .slice am M cm, .slice a N c, .slice at' T ct] 26)).heap.size = w.heap.size + 1 by simp] at this
  have hb0 : Below w.heap.size w ((w.alloc (.cells #[.string snm, .slice am M cm, .slice a N c, .slice at' T ct] 26)).alloc (.cells #[.string ⟨#[]⟩, .slice none 0 0] 68)) := ((Below.refl _ _).alloc (Nat.le_refl _) _).alloc (by simp) _
  go_enter Tryz.func121, Tryz.ntmps121
  go_wp2_with fail
  go_loopw [6] (fun iv wr => ∃ k : Nat, iv = .int .i64 (k : Int) ∧ k ≤ N ∧ Hid (A = ((ms.drop k).find? (fun m => decide (m.name = nm)))) ∧ Below w.heap.size w wr ∧ Blk wr (w.heap.size + 1) #[.string ⟨#[]⟩, .slice none 0 0] 68 ∧ Blk wr w.heap.size #[.string snm, .slice am M cm, .slice a N c, .slice at' T ct] 26) (fun iv _ => N - (intOf iv).toNat)
  case atStart => exact ⟨0, rfl, by omega, HA, hb0, BR0, BX0⟩
  case round =>
    obtain ⟨k, rfl, hk, HAk, hbel, BR, BX⟩ := hrel
    clear BX0 BR0 hb0
    have hlt2 : w.heap.size + 1 < wr.heap.size := BR.lt
    have r0 := (BR.cell 0).trans rfl
    have z0 := BR.froz 0
    have r1 := (BR.cell 1).trans rfl
    have z1 := BR.froz 1
    have x1 : wr.cell? ⟨w.heap.size, 2, none⟩ = some (.slice a N c) := BX.cell 2
    by_cases hlt : k < N
    · obtain ⟨f, hf⟩ : ∃ n, ms[k]? = some n := ⟨_, List.getElem?_eq_getElem (by rw [HN.out]; exact hlt)⟩
      obtain ⟨g, off, vv, rfl, c0', c1', hrf⟩ := HR.out.get hf
      have c0 := (hbel.cell (World.block_lt_of_cell? _ _ c0')).trans c0'
      have c1 := (hbel.cell (World.block_lt_of_cell? _ _ c1')).trans c1'
      clear c0' c1'
      have HF : Hid (RowG w vv 2 (nmRows f.values)) := hrf
      obtain ⟨a3, c3, rfl, _, _⟩ := hrf.form2
      have HF : Hid (RowG w (.slice a3 (nmRows f.values).length c3) 2 (nmRows f.values)) := HF
      have HA2 : Hid (A = if decide (f.name = nm) = true then some f else ((ms.drop (k + 1)).find? (fun m => decide (m.name = nm)))) := by
        show _ = _
        rw [HAk.out, drop_at hf, List.find?_cons]
        cases decide (f.name = nm) <;> rfl
      obtain ⟨f0, ff⟩ := f
      simp only at c0 c1 HA2 HF 
      generalize hnF : (nmRows ff).length = nF at *
      clear hrf hf HAk hnF
      by_cases he : f0 = nm
      · subst he
        have HA3 : Hid (A = some ⟨f0, ff⟩) := by show _ = _; rw [HA2.out, if_pos (by simp)]
        clear HA2
        go_wp2_with fail
        refine bodyPost_ret (results_two rfl _ _ _ ⟨w.heap.size + 1, 0, none⟩ (.agg #[.string f0, .slice a3 nF c3]) (by go_simp) (by go_simp)) rfl ?_
        refine ⟨.slice a3 nF c3, ret_two (by rw [HA3.out]; rfl) (by rw [HA3.out]; rfl), ?_, (Below.setCell (Below.setCell hbel (by simp) _) (by simp) _)⟩
        rw [HA3.out]; exact HF.out.below (Below.setCell (Below.setCell hbel (by simp) _) (by simp) _)
      · have hq := bytes_ne he
        have HA3 : Hid (A = ((ms.drop (k + 1)).find? (fun m => decide (m.name = nm)))) := by show _ = _; rw [HA2.out, if_neg (by simpa using he)]
        go_wp2_with fail
        go_roundw
        case rel => exact ⟨k + 1, by go_num, by omega, HA3, hbel, BR, BX⟩
        case measure => simp [intOf]; omega
    · have HA2 : Hid (A = none) := by show _ = _; rw [HAk.out, drop_end (by rw [HN.out]; omega)]; rfl
      go_wp2_with fail
      refine bodyPost_ret (results_two rfl _ _ _ ⟨w.heap.size + 1, 0, none⟩ (.agg #[.string ⟨#[]⟩, .slice none 0 0]) (by go_simp) (by go_simp)) rfl ?_
      exact ⟨.slice none 0 0, ret_two (by rw [HA2.out]; rfl) (by rw [HA2.out]; rfl), by rw [HA2.out]; exact RowG.nil _ _, (Below.setCell (Below.setCell hbel (by simp) _) (by simp) _)⟩
end Go.Proofs.YtfnjbbaphmmjlaaGreat

/- What the reference's tail and Next answer, at every input: the rune at the place, its width, true; or nothing. -/
set_option linter.unusedSimpArgs false
namespace Go.Proofs.YtfnjbbaphmmjlaaGreat
open Go.ChangeShapes Go.WideShapes Go.ChangeAt Go.RowKit
set_option linter.unusedVariables false
set_option maxRecDepth 20000

/-- The six bits of a byte that goes on. -/
def tlL : List UInt8 → Int
  | [] => -1
  | a :: _ => if ctU a = true then (a.toNat : Int) - 128 else -1

theorem tl_in (s : ByteArray) (i : Nat) (h : i < s.size) (a : 128 ≤ (s[i].toNat : Int)) (b : (s[i].toNat : Int) ≤ 191) : (s[i].toNat : Int) - 128 = tlL (s.data.toList.drop i) := by
  rw [drop_cons s i h]; simp only [tlL]; rw [if_pos (by simp [ctU]; omega)]
theorem tl_out (s : ByteArray) (i : Nat) (h : i < s.size) (a : (s[i].toNat : Int) < 128 ∨ 191 < (s[i].toNat : Int)) : -1 = tlL (s.data.toList.drop i) := by
  rw [drop_cons s i h]; simp only [tlL]; rw [if_neg (by simp [ctU]; omega)]
theorem tl_end (s : ByteArray) (i : Nat) (h : s.size ≤ i) : -1 = tlL (s.data.toList.drop i) := by
  rw [drop_none s i h]; rfl

set_option maxHeartbeats 1000000 in
theorem tail_any (s : ByteArray) (i : Int) (w : World) (hs : s.size ≤ 140737488351232) (hi : 0 ≤ i) :
    Calls Tryz.prog 120 #[.string s, .int .i64 i] w fun e w' => e = .returned (.int .i64 (tlL (s.data.toList.drop i.toNat))) ∧ w' = w := by
  by_cases h : i < s.size
  · have hn : i.toNat < s.size := by omega
    go_enter Tryz.func120, Tryz.ntmps120
    go_wp2
    all_goals
      go_ret
      first
      | exact ⟨ret_int (tl_in s i.toNat hn (by omega) (by omega)), rfl⟩
      | exact ⟨ret_int (tl_out s i.toNat hn (by omega)), rfl⟩
  · go_enter Tryz.func120, Tryz.ntmps120
    go_wp2
    go_ret
    exact ⟨ret_int (tl_end s i.toNat (by omega)), rfl⟩
set_option maxHeartbeats 1000000 in
theorem rnext_out (s : ByteArray) (i : Int) (w : World) (h : i < 0 ∨ (s.size : Int) ≤ i) :
    Calls Tryz.prog 102 #[.string s, .int .i64 i] w fun e w' => e = .returned (nxV (nxL (atL s i))) ∧ w' = w := by
  have hx := atL_out s i h
  have HX : Hid (nxL (atL s i) = none) := hx
  clear hx
  rcases h with h | h
  · go_enter Tryz.func102, Tryz.ntmps102
    go_wp2
    go_ret3
    exact ⟨ret_none HX.out, rfl⟩
  · by_cases h0 : i < 0
    all_goals
      go_enter Tryz.func102, Tryz.ntmps102
      go_wp2
      go_ret3
      exact ⟨ret_none HX.out, rfl⟩

def accv (v0 : Int) (l : List UInt8) : Nat → Int
  | 0 => v0
  | k + 1 => 64 * accv v0 l k + tlL (l.drop (k + 1))

theorem nxL_lead1 (s : ByteArray) (i : Nat) (h : i < s.size) (ha : (s[i].toNat : Int) < 128) : nxL (atL s i) = some (s[i].toNat, 1) := by
  rw [atL_in s i (by omega), Int.toNat_natCast, drop_cons s i h]
  simp only [nxL]; rw [if_pos (by omega)]
theorem nxL_lead0 (s : ByteArray) (i : Nat) (h : i < s.size) (h0 : 128 ≤ (s[i].toNat : Int)) (h1 : (s[i].toNat : Int) < 192 ∨ 248 ≤ (s[i].toNat : Int)) : nxL (atL s i) = none := by
  rw [atL_in s i (by omega), Int.toNat_natCast, drop_cons s i h]
  simp only [nxL]; rw [if_neg (by omega), if_neg (by omega), if_neg (by omega), if_neg (by omega)]

set_option maxHeartbeats 1000000 in
theorem rnext_lead1 (s : ByteArray) (i : Nat) (w : World) (hs : s.size ≤ 140737488351232) (h : i < s.size) (ha : (s[i].toNat : Int) < 128) :
    Calls Tryz.prog 102 #[.string s, .int .i64 (i : Int)] w fun e w' => e = .returned (nxV (nxL (atL s i))) ∧ w' = w := by
  have HX : Hid (nxL (atL s i) = some (s[i].toNat, 1)) := nxL_lead1 s i h ha
  have hb : 0 ≤ (s[i].toNat : Int) := by omega
  go_enter Tryz.func102, Tryz.ntmps102
  go_wp2
  go_ret3
  exact ⟨ret_some _ _ HX.out rfl rfl, rfl⟩
set_option maxHeartbeats 1000000 in
theorem rnext_lead0 (s : ByteArray) (i : Nat) (w : World) (hs : s.size ≤ 140737488351232) (h : i < s.size) (h0 : 128 ≤ (s[i].toNat : Int)) (h1 : (s[i].toNat : Int) < 192 ∨ 248 ≤ (s[i].toNat : Int)) :
    Calls Tryz.prog 102 #[.string s, .int .i64 (i : Int)] w fun e w' => e = .returned (nxV (nxL (atL s i))) ∧ w' = w := by
  have HX : Hid (nxL (atL s i) = none) := nxL_lead0 s i h h0 h1
  have hb : (s[i].toNat : Int) < 256 := by have := s[i].toNat_lt; omega
  rcases h1 with h1 | h1
  all_goals
    go_enter Tryz.func102, Tryz.ntmps102
    go_wp2
    go_ret3
    exact ⟨ret_none HX.out, rfl⟩

theorem tl_neg {r : List UInt8} (h : tlL r < 0) : ∀ b r', r = b :: r' → ctU b = false := by
  rintro b r' rfl
  cases e : ctU b with
  | false => rfl
  | true => simp only [tlL, e, if_true] at h; simp [ctU] at e; omega
theorem tl_pos {r : List UInt8} (h : 0 ≤ tlL r) : ∃ b r', r = b :: r' ∧ ctU b = true ∧ tlL r = (b.toNat : Int) - 128 := by
  match r with
  | [] => simp [tlL] at h
  | b :: r' =>
    cases e : ctU b with
    | false => simp [tlL, e] at h
    | true => exact ⟨b, r', rfl, e, by simp [tlL, e]⟩
theorem tl_bd (r : List UInt8) : -1 ≤ tlL r ∧ tlL r ≤ 63 := by
  match r with
  | [] => simp [tlL]
  | b :: r' =>
    simp only [tlL]
    split
    · rename_i e; simp [ctU] at e; omega
    · omega

def okVr (v : Int) : Prop := v ≤ 1114111 ∧ ¬ (55296 ≤ v ∧ v ≤ 57343)

theorem bad_2 {a : UInt8} {r : List UInt8} (h0 : 192 ≤ a.toNat) (h1 : a.toNat < 224) (m : Nat) (hm : 1 ≤ m) (hn : m < 2) (h : tlL ((a :: r).drop m) < 0) : nxL (a :: r) = none := by
  obtain rfl : m = 1 := by omega
  have hc := tl_neg (r := r) h
  simp only [nxL]
  rw [if_neg (by omega), if_pos ⟨h0, h1⟩]
  match r with
  | [] => rfl
  | b :: r' => simp [hc b r' rfl]
theorem bad_3 {a : UInt8} {r : List UInt8} (h0 : 224 ≤ a.toNat) (h1 : a.toNat < 240) (m : Nat) (hm : 1 ≤ m) (hn : m < 3) (h : tlL ((a :: r).drop m) < 0) : nxL (a :: r) = none := by
  simp only [nxL]
  rw [if_neg (by omega), if_neg (by omega), if_pos ⟨h0, h1⟩]
  match r with
  | [] => rfl
  | [b] => rfl
  | b :: c :: r' =>
    obtain rfl | rfl : m = 1 ∨ m = 2 := by omega
    · have hc := tl_neg (r := b :: c :: r') h; simp [hc b _ rfl]
    · have hc := tl_neg (r := c :: r') h; simp [hc c _ rfl]
theorem bad_4 {a : UInt8} {r : List UInt8} (h0 : 240 ≤ a.toNat) (h1 : a.toNat < 248) (m : Nat) (hm : 1 ≤ m) (hn : m < 4) (h : tlL ((a :: r).drop m) < 0) : nxL (a :: r) = none := by
  simp only [nxL]
  rw [if_neg (by omega), if_neg (by omega), if_neg (by omega), if_pos ⟨h0, h1⟩]
  match r with
  | [] => rfl
  | [b] => rfl
  | [b, c] => rfl
  | b :: c :: d :: r' =>
    obtain rfl | rfl | rfl : m = 1 ∨ m = 2 ∨ m = 3 := by omega
    · have hc := tl_neg (r := b :: c :: d :: r') h; simp [hc b _ rfl]
    · have hc := tl_neg (r := c :: d :: r') h; simp [hc c _ rfl]
    · have hc := tl_neg (r := d :: r') h; simp [hc d _ rfl]

theorem good_2 {a : UInt8} {r : List UInt8} (h0 : 192 ≤ a.toNat) (h1 : a.toNat < 224) (h : ∀ m, 1 ≤ m → m < 2 → 0 ≤ tlL ((a :: r).drop m)) :
    ∃ v : Nat, accv ((a.toNat : Int) - 192) (a :: r) 1 = v ∧ v ≤ 1000000000 ∧ (128 ≤ v ∧ okVr v → nxL (a :: r) = some (v, 2)) ∧ (¬ (128 ≤ v ∧ okVr v) → nxL (a :: r) = none) := by
  obtain ⟨b, r', rfl, hb, eb⟩ := tl_pos (r := r) (h 1 (by omega) (by omega))
  have hl := two_lt h1 hb
  have hb' := hb
  simp only [ctU, Bool.and_eq_true, decide_eq_true_eq] at hb'
  refine ⟨two a b, ?_, by omega, ?_, ?_⟩
  · show 64 * ((a.toNat : Int) - 192) + tlL (b :: r') = _
    rw [eb]; simp only [two]; omega
  · rintro ⟨g, _⟩
    simp only [nxL]
    rw [if_neg (by omega), if_pos ⟨h0, h1⟩, if_pos ⟨hb, g⟩]
  · intro g
    simp only [nxL]
    rw [if_neg (by omega), if_pos ⟨h0, h1⟩, if_neg (fun x => g ⟨x.2, by simp only [okVr]; omega⟩)]
theorem good_3 {a : UInt8} {r : List UInt8} (h0 : 224 ≤ a.toNat) (h1 : a.toNat < 240) (h : ∀ m, 1 ≤ m → m < 3 → 0 ≤ tlL ((a :: r).drop m)) :
    ∃ v : Nat, accv ((a.toNat : Int) - 224) (a :: r) 2 = v ∧ v ≤ 1000000000 ∧ (2048 ≤ v ∧ okVr v → nxL (a :: r) = some (v, 3)) ∧ (¬ (2048 ≤ v ∧ okVr v) → nxL (a :: r) = none) := by
  obtain ⟨b, r1, rfl, hb, eb⟩ := tl_pos (r := r) (h 1 (by omega) (by omega))
  obtain ⟨c, r', rfl, hc, ec⟩ := tl_pos (r := r1) (h 2 (by omega) (by omega))
  have hl := three_lt h1 hb hc
  have hb' := hb
  have hc' := hc
  simp only [ctU, Bool.and_eq_true, decide_eq_true_eq] at hb' hc'
  refine ⟨three a b c, ?_, by omega, ?_, ?_⟩
  · show 64 * (64 * ((a.toNat : Int) - 224) + tlL (b :: c :: r')) + tlL (c :: r') = _
    rw [eb, ec]; simp only [three]; omega
  · rintro ⟨g, g2⟩
    simp only [nxL]
    rw [if_neg (by omega), if_neg (by omega), if_pos ⟨h0, h1⟩, if_pos ⟨hb, hc, g, by simp only [okVr] at g2; omega⟩]
  · intro g
    simp only [nxL]
    rw [if_neg (by omega), if_neg (by omega), if_pos ⟨h0, h1⟩, if_neg (fun x => g ⟨x.2.2.1, by simp only [okVr]; omega⟩)]
theorem good_4 {a : UInt8} {r : List UInt8} (h0 : 240 ≤ a.toNat) (h1 : a.toNat < 248) (h : ∀ m, 1 ≤ m → m < 4 → 0 ≤ tlL ((a :: r).drop m)) :
    ∃ v : Nat, accv ((a.toNat : Int) - 240) (a :: r) 3 = v ∧ v ≤ 1000000000 ∧ (65536 ≤ v ∧ okVr v → nxL (a :: r) = some (v, 4)) ∧ (¬ (65536 ≤ v ∧ okVr v) → nxL (a :: r) = none) := by
  obtain ⟨b, r1, rfl, hb, eb⟩ := tl_pos (r := r) (h 1 (by omega) (by omega))
  obtain ⟨c, r2, rfl, hc, ec⟩ := tl_pos (r := r1) (h 2 (by omega) (by omega))
  obtain ⟨d, r', rfl, hd, ed⟩ := tl_pos (r := r2) (h 3 (by omega) (by omega))
  have hb' := hb
  have hc' := hc
  have hd' := hd
  simp only [ctU, Bool.and_eq_true, decide_eq_true_eq] at hb' hc' hd'
  refine ⟨four a b c d, ?_, by simp only [four]; omega, ?_, ?_⟩
  · show 64 * (64 * (64 * ((a.toNat : Int) - 240) + tlL (b :: c :: d :: r')) + tlL (c :: d :: r')) + tlL (d :: r') = _
    rw [eb, ec, ed]; simp only [four]; omega
  · rintro ⟨g, g2⟩
    simp only [nxL]
    rw [if_neg (by omega), if_neg (by omega), if_neg (by omega), if_pos ⟨h0, h1⟩, if_pos ⟨hb, hc, hd, g, by simp only [okVr] at g2; omega⟩]
  · intro g
    simp only [nxL]
    rw [if_neg (by omega), if_neg (by omega), if_neg (by omega), if_pos ⟨h0, h1⟩, if_neg (fun x => g ⟨x.2.2.2.1, by simp only [okVr]; omega⟩)]

theorem accv_bd (v0 : Int) (l : List UInt8) (h0 : 0 ≤ v0) (h1 : v0 ≤ 31) (k : Nat) (hk : k ≤ 3) (h : ∀ m, 1 ≤ m → m < k + 1 → 0 ≤ tlL (l.drop m)) : 0 ≤ accv v0 l k ∧ accv v0 l k ≤ 10000000 := by
  have b1 := tl_bd (l.drop 1)
  have b2 := tl_bd (l.drop 2)
  have b3 := tl_bd (l.drop 3)
  obtain rfl | rfl | rfl | rfl : k = 0 ∨ k = 1 ∨ k = 2 ∨ k = 3 := by omega
  · simp only [accv]; omega
  · have := h 1 (by omega) (by omega); simp only [accv, Nat.zero_add, Nat.reduceAdd]; omega
  · have := h 1 (by omega) (by omega); have := h 2 (by omega) (by omega); simp only [accv, Nat.zero_add, Nat.reduceAdd]; omega
  · have := h 1 (by omega) (by omega); have := h 2 (by omega) (by omega); have := h 3 (by omega) (by omega); simp only [accv, Nat.zero_add, Nat.reduceAdd]; omega

theorem rest_at (s : ByteArray) (i m : Nat) : s.data.toList.drop ((i : Int) + (m : Int)).toNat = (s.data.toList.drop i).drop m := by
  rw [List.drop_drop]; congr 1

set_option maxHeartbeats 2000000 in
theorem rnext_lead2 (s : ByteArray) (i : Nat) (w : World) (hs : s.size ≤ 140737488351232) (h : i < s.size) (h0 : 192 ≤ (s[i].toNat : Int)) (h1 : (s[i].toNat : Int) < 224) :
    Calls Tryz.prog 102 #[.string s, .int .i64 (i : Int)] w fun e w' => e = .returned (nxV (nxL (atL s i))) ∧ w' = w := by
  have hl0 : Hid (atL s i = s[i] :: s.data.toList.drop (i + 1)) := by rw [atL_in s i (by omega), Int.toNat_natCast, drop_cons s i h]; rfl
  have hl1 : Hid (atL s i = s.data.toList.drop i) := by rw [atL_in s i (by omega), Int.toNat_natCast]; rfl
  generalize atL s i = l at *
  have hd1 : decide (s.size ≤ i) = false := by simp; omega
  have hd2 : decide ((i : Int) < 0) = false := by simp
  have hd3 : decide ((s[i].toNat : Int) < 128) = false := by simp; omega
  go_enter Tryz.func102, Tryz.ntmps102
  go_wp2
  go_loop [9, 11] (fun v j => ∃ m : Nat, 1 ≤ m ∧ m ≤ 2 ∧ j = .int .i64 m ∧ v = .int .i64 (accv ((s[i].toNat : Int) - 192) l (m - 1)) ∧ Hid (∀ q, 1 ≤ q → q < m → 0 ≤ tlL (l.drop q))) (fun _ j => 2 - (intOf j).toNat)
  case atStart => exact ⟨1, by omega, by omega, rfl, rfl, by intro q; omega⟩
  case round =>
    obtain ⟨m, hm1, hm2, rfl, rfl, H⟩ := hrel
    have hbd := accv_bd ((s[i].toNat : Int) - 192) l (by omega) (by omega) (m - 1) (by omega) (fun q a b => H.out q a (by omega))
    by_cases hlt : m < 2
    · have ht := tl_bd (l.drop m)
      have HT : Hid (tlL (s.data.toList.drop ((i : Int) + (m : Int)).toNat) = tlL (l.drop m)) := by rw [rest_at, ← hl1.out]; rfl
      have HS : Hid (64 * accv ((s[i].toNat : Int) - 192) l (m - 1) + tlL (l.drop m) = accv ((s[i].toNat : Int) - 192) l m) := by
        obtain ⟨k, rfl⟩ : ∃ k, m = k + 1 := ⟨m - 1, by omega⟩
        rfl
      have HB : Hid (tlL (l.drop m) < 0 → nxL l = none) := fun hh => by
        have hx := hh
        rw [hl0.out] at hx ⊢
        exact bad_2 (by omega) (by omega) m hm1 hlt hx
      have HN : Hid (0 ≤ tlL (l.drop m) → ∀ q, 1 ≤ q → q < m + 1 → 0 ≤ tlL (l.drop q)) := fun hh q a b => by
        by_cases e : q = m
        · rw [e]; exact hh
        · exact H.out q a (by omega)
      generalize accv ((s[i].toNat : Int) - 192) l (m - 1) = v at *
      go_wp2_with fail
      refine (tail_any s _ _ hs (by omega)).mono ?_
      rintro e w' ⟨rfl, rfl⟩
      rw [HT.out]
      generalize tlL (l.drop m) = t at *
      by_cases hneg : t < 0
      · go_wp2
        go_ret3
        exact ⟨ret_none (HB.out hneg), rfl⟩
      · go_wp2
        go_round
        case rel => exact ⟨m + 1, by omega, by omega, by go_num, by rw [HS.out]; rfl, HN.out (by omega)⟩
        case measure => simp [intOf]; omega
    · obtain rfl : m = 2 := by omega
      obtain ⟨v, ev, hv, hyes, hno⟩ : ∃ v : Nat, accv ((s[i].toNat : Int) - 192) l (2 - 1) = v ∧ v ≤ 1000000000 ∧ (128 ≤ v ∧ okVr v → nxL l = some (v, 2)) ∧ (¬ (128 ≤ v ∧ okVr v) → nxL l = none) := by
        have hg := H.out
        rw [hl0.out] at hg ⊢
        exact good_2 (by omega) (by omega) hg
      rw [ev]
      have HY : Hid (128 ≤ v ∧ okVr v → nxL l = some (v, 2)) := hyes
      have HNO : Hid (¬ (128 ≤ v ∧ okVr v) → nxL l = none) := hno
      clear hyes hno ev hbd H
      go_wp2
      all_goals
        go_ret3
        first
        | exact ⟨ret_none (HNO.out (by simp only [okVr]; omega)), rfl⟩
        | exact ⟨ret_some _ _ (HY.out (by simp only [okVr]; omega)) rfl rfl, rfl⟩

set_option maxHeartbeats 2000000 in
theorem rnext_lead3 (s : ByteArray) (i : Nat) (w : World) (hs : s.size ≤ 140737488351232) (h : i < s.size) (h0 : 224 ≤ (s[i].toNat : Int)) (h1 : (s[i].toNat : Int) < 240) :
    Calls Tryz.prog 102 #[.string s, .int .i64 (i : Int)] w fun e w' => e = .returned (nxV (nxL (atL s i))) ∧ w' = w := by
  have hl0 : Hid (atL s i = s[i] :: s.data.toList.drop (i + 1)) := by rw [atL_in s i (by omega), Int.toNat_natCast, drop_cons s i h]; rfl
  have hl1 : Hid (atL s i = s.data.toList.drop i) := by rw [atL_in s i (by omega), Int.toNat_natCast]; rfl
  generalize atL s i = l at *
  have hd1 : decide (s.size ≤ i) = false := by simp; omega
  have hd2 : decide ((i : Int) < 0) = false := by simp
  have hd3 : decide ((s[i].toNat : Int) < 128) = false := by simp; omega
  go_enter Tryz.func102, Tryz.ntmps102
  go_wp2
  go_loop [9, 11] (fun v j => ∃ m : Nat, 1 ≤ m ∧ m ≤ 3 ∧ j = .int .i64 m ∧ v = .int .i64 (accv ((s[i].toNat : Int) - 224) l (m - 1)) ∧ Hid (∀ q, 1 ≤ q → q < m → 0 ≤ tlL (l.drop q))) (fun _ j => 3 - (intOf j).toNat)
  case atStart => exact ⟨1, by omega, by omega, rfl, rfl, by intro q; omega⟩
  case round =>
    obtain ⟨m, hm1, hm2, rfl, rfl, H⟩ := hrel
    have hbd := accv_bd ((s[i].toNat : Int) - 224) l (by omega) (by omega) (m - 1) (by omega) (fun q a b => H.out q a (by omega))
    by_cases hlt : m < 3
    · have ht := tl_bd (l.drop m)
      have HT : Hid (tlL (s.data.toList.drop ((i : Int) + (m : Int)).toNat) = tlL (l.drop m)) := by rw [rest_at, ← hl1.out]; rfl
      have HS : Hid (64 * accv ((s[i].toNat : Int) - 224) l (m - 1) + tlL (l.drop m) = accv ((s[i].toNat : Int) - 224) l m) := by
        obtain ⟨k, rfl⟩ : ∃ k, m = k + 1 := ⟨m - 1, by omega⟩
        rfl
      have HB : Hid (tlL (l.drop m) < 0 → nxL l = none) := fun hh => by
        have hx := hh
        rw [hl0.out] at hx ⊢
        exact bad_3 (by omega) (by omega) m hm1 hlt hx
      have HN : Hid (0 ≤ tlL (l.drop m) → ∀ q, 1 ≤ q → q < m + 1 → 0 ≤ tlL (l.drop q)) := fun hh q a b => by
        by_cases e : q = m
        · rw [e]; exact hh
        · exact H.out q a (by omega)
      generalize accv ((s[i].toNat : Int) - 224) l (m - 1) = v at *
      go_wp2_with fail
      refine (tail_any s _ _ hs (by omega)).mono ?_
      rintro e w' ⟨rfl, rfl⟩
      rw [HT.out]
      generalize tlL (l.drop m) = t at *
      by_cases hneg : t < 0
      · go_wp2
        go_ret3
        exact ⟨ret_none (HB.out hneg), rfl⟩
      · go_wp2
        go_round
        case rel => exact ⟨m + 1, by omega, by omega, by go_num, by rw [HS.out]; rfl, HN.out (by omega)⟩
        case measure => simp [intOf]; omega
    · obtain rfl : m = 3 := by omega
      obtain ⟨v, ev, hv, hyes, hno⟩ : ∃ v : Nat, accv ((s[i].toNat : Int) - 224) l (3 - 1) = v ∧ v ≤ 1000000000 ∧ (2048 ≤ v ∧ okVr v → nxL l = some (v, 3)) ∧ (¬ (2048 ≤ v ∧ okVr v) → nxL l = none) := by
        have hg := H.out
        rw [hl0.out] at hg ⊢
        exact good_3 (by omega) (by omega) hg
      rw [ev]
      have HY : Hid (2048 ≤ v ∧ okVr v → nxL l = some (v, 3)) := hyes
      have HNO : Hid (¬ (2048 ≤ v ∧ okVr v) → nxL l = none) := hno
      clear hyes hno ev hbd H
      go_wp2
      all_goals
        go_ret3
        first
        | exact ⟨ret_none (HNO.out (by simp only [okVr]; omega)), rfl⟩
        | exact ⟨ret_some _ _ (HY.out (by simp only [okVr]; omega)) rfl rfl, rfl⟩

set_option maxHeartbeats 2000000 in
theorem rnext_lead4 (s : ByteArray) (i : Nat) (w : World) (hs : s.size ≤ 140737488351232) (h : i < s.size) (h0 : 240 ≤ (s[i].toNat : Int)) (h1 : (s[i].toNat : Int) < 248) :
    Calls Tryz.prog 102 #[.string s, .int .i64 (i : Int)] w fun e w' => e = .returned (nxV (nxL (atL s i))) ∧ w' = w := by
  have hl0 : Hid (atL s i = s[i] :: s.data.toList.drop (i + 1)) := by rw [atL_in s i (by omega), Int.toNat_natCast, drop_cons s i h]; rfl
  have hl1 : Hid (atL s i = s.data.toList.drop i) := by rw [atL_in s i (by omega), Int.toNat_natCast]; rfl
  generalize atL s i = l at *
  have hd1 : decide (s.size ≤ i) = false := by simp; omega
  have hd2 : decide ((i : Int) < 0) = false := by simp
  have hd3 : decide ((s[i].toNat : Int) < 128) = false := by simp; omega
  go_enter Tryz.func102, Tryz.ntmps102
  go_wp2
  go_loop [9, 11] (fun v j => ∃ m : Nat, 1 ≤ m ∧ m ≤ 4 ∧ j = .int .i64 m ∧ v = .int .i64 (accv ((s[i].toNat : Int) - 240) l (m - 1)) ∧ Hid (∀ q, 1 ≤ q → q < m → 0 ≤ tlL (l.drop q))) (fun _ j => 4 - (intOf j).toNat)
  case atStart => exact ⟨1, by omega, by omega, rfl, rfl, by intro q; omega⟩
  case round =>
    obtain ⟨m, hm1, hm2, rfl, rfl, H⟩ := hrel
    have hbd := accv_bd ((s[i].toNat : Int) - 240) l (by omega) (by omega) (m - 1) (by omega) (fun q a b => H.out q a (by omega))
    by_cases hlt : m < 4
    · have ht := tl_bd (l.drop m)
      have HT : Hid (tlL (s.data.toList.drop ((i : Int) + (m : Int)).toNat) = tlL (l.drop m)) := by rw [rest_at, ← hl1.out]; rfl
      have HS : Hid (64 * accv ((s[i].toNat : Int) - 240) l (m - 1) + tlL (l.drop m) = accv ((s[i].toNat : Int) - 240) l m) := by
        obtain ⟨k, rfl⟩ : ∃ k, m = k + 1 := ⟨m - 1, by omega⟩
        rfl
      have HB : Hid (tlL (l.drop m) < 0 → nxL l = none) := fun hh => by
        have hx := hh
        rw [hl0.out] at hx ⊢
        exact bad_4 (by omega) (by omega) m hm1 hlt hx
      have HN : Hid (0 ≤ tlL (l.drop m) → ∀ q, 1 ≤ q → q < m + 1 → 0 ≤ tlL (l.drop q)) := fun hh q a b => by
        by_cases e : q = m
        · rw [e]; exact hh
        · exact H.out q a (by omega)
      generalize accv ((s[i].toNat : Int) - 240) l (m - 1) = v at *
      go_wp2_with fail
      refine (tail_any s _ _ hs (by omega)).mono ?_
      rintro e w' ⟨rfl, rfl⟩
      rw [HT.out]
      generalize tlL (l.drop m) = t at *
      by_cases hneg : t < 0
      · go_wp2
        go_ret3
        exact ⟨ret_none (HB.out hneg), rfl⟩
      · go_wp2
        go_round
        case rel => exact ⟨m + 1, by omega, by omega, by go_num, by rw [HS.out]; rfl, HN.out (by omega)⟩
        case measure => simp [intOf]; omega
    · obtain rfl : m = 4 := by omega
      obtain ⟨v, ev, hv, hyes, hno⟩ : ∃ v : Nat, accv ((s[i].toNat : Int) - 240) l (4 - 1) = v ∧ v ≤ 1000000000 ∧ (65536 ≤ v ∧ okVr v → nxL l = some (v, 4)) ∧ (¬ (65536 ≤ v ∧ okVr v) → nxL l = none) := by
        have hg := H.out
        rw [hl0.out] at hg ⊢
        exact good_4 (by omega) (by omega) hg
      rw [ev]
      have HY : Hid (65536 ≤ v ∧ okVr v → nxL l = some (v, 4)) := hyes
      have HNO : Hid (¬ (65536 ≤ v ∧ okVr v) → nxL l = none) := hno
      clear hyes hno ev hbd H
      go_wp2
      all_goals
        go_ret3
        first
        | exact ⟨ret_none (HNO.out (by simp only [okVr]; omega)), rfl⟩
        | exact ⟨ret_some _ _ (HY.out (by simp only [okVr]; omega)) rfl rfl, rfl⟩

theorem rnext_any (s : ByteArray) (i : Int) (w : World) (hs : s.size ≤ 140737488351232) :
    Calls Tryz.prog 102 #[.string s, .int .i64 i] w fun e w' => e = .returned (nxV (nxL (atL s i))) ∧ w' = w := by
  by_cases h : i < 0 ∨ (s.size : Int) ≤ i
  · exact rnext_out s i w h
  · obtain ⟨n, rfl⟩ := Int.eq_ofNat_of_zero_le (a := i) (by omega)
    have hn : n < s.size := by omega
    by_cases h1 : (s[n].toNat : Int) < 128
    · exact rnext_lead1 s n w hs hn h1
    · by_cases h2 : (s[n].toNat : Int) < 192 ∨ 248 ≤ (s[n].toNat : Int)
      · exact rnext_lead0 s n w hs hn (by omega) h2
      · by_cases h3 : (s[n].toNat : Int) < 224
        · exact rnext_lead2 s n w hs hn (by omega) h3
        · by_cases h4 : (s[n].toNat : Int) < 240
          · exact rnext_lead3 s n w hs hn (by omega) h4
          · exact rnext_lead4 s n w hs hn (by omega) (by omega)
end Go.Proofs.YtfnjbbaphmmjlaaGreat

/- What the leaf functions of the reference answer (Digit, Letter, Key), at every input. -/
namespace Go.Proofs.YtfnjbbaphmmjlaaGreat
open Go.ChangeShapes Go.WideShapes Go.ChangeAt Go.RowKit
set_option linter.unusedVariables false
set_option linter.unusedSimpArgs false
set_option maxRecDepth 20000

set_option maxHeartbeats 400000 in
theorem rdigit_any (r : Int) (w : World) :
    Calls Tryz.prog 74 #[.int .i32 r] w fun e w' => e = .returned (.bool (digB r)) ∧ w' = w := by
  go_enter Tryz.func74, Tryz.ntmps74
  go_wp2
  all_goals
    go_ret
    exact ⟨ret_bool (by simp [digB]; try omega), rfl⟩

set_option maxHeartbeats 1000000 in
theorem rletter_any (r : Int) (w : World) :
    Calls Tryz.prog 72 #[.int .i32 r] w fun e w' => e = .returned (.bool (letB r)) ∧ w' = w := by
  go_enter Tryz.func72, Tryz.ntmps72
  go_wp2
  all_goals
    go_ret
    refine ⟨ret_bool ?_, rfl⟩
    rw [Bool.eq_iff_iff]
    simp [letB]
    try omega

end Go.Proofs.YtfnjbbaphmmjlaaGreat

/- What the reference's All answers, at every text of at most 20000 bytes. -/
namespace Go.Proofs.YtfnjbbaphmmjlaaGreat
open Go.ChangeShapes Go.WideShapes Go.ChangeAt Go.RowKit
set_option linter.unusedVariables false
set_option maxRecDepth 20000

theorem infoRune : (Tryz.prog.info? 21).map (fun i => (i.zero, i.size, i.bytes)) = some (some (.int .i32 0), 1, 4) := by kernel_rfl
def runeCells (rs : List Nat) : List Value := rs.map fun (c : Nat) => Value.int .i32 (c : Int)

theorem owns_cast {w : World} {b e : Nat} {v : Value} {n n' : Nat} {xs xs' : List Value} (h : w.ownsRow b e 1 v n xs) (hn : n' = n) (hx : xs' = xs) : w.ownsRow b e 1 v n' xs' := by
  rw [hn, hx]; exact h
theorem all_len {l : List UInt8} {pos c k : Nat} (hn : nxL (l.drop pos) = some (c, k)) (hp : pos ≤ l.length) : pos + k ≤ l.length ∧ 1 ≤ k ∧ k ≤ 4 := by
  obtain ⟨_, _, _, h4, h5, h6, _⟩ := nxL_some _ _ _ hn
  simp at h5
  omega

set_option maxHeartbeats 1000000 in
theorem rall_any (s : ByteArray) (w : World) (hs : s.size ≤ 20000) :
    Calls Tryz.prog 71 #[.string s] w fun e w' => ∃ v, e = .returned (.tuple #[v, .bool (validB s.data.toList)]) ∧
      w'.ownsRow w.heap.size 21 1 v (countN s.data.toList) (runeCells ((runesOf s.data.toList).getD [])) ∧ Below w.heap.size w w' := by
  obtain ⟨i0, hi, hz0, hz1, hz2⟩ := info_parts infoRune
  go_enter Tryz.func71, Tryz.ntmps71
  go_wp2_with fail
  go_loopw [4, 5] (fun v at' wr => ∃ (pos : Nat) (acc : List Nat), at' = .int .i64 pos ∧ pos ≤ s.size ∧ acc.length ≤ pos ∧ Hid (Gone s.data.toList pos acc) ∧ wr.ownsRow w.heap.size 21 1 v acc.length (runeCells acc) ∧ Below w.heap.size w wr)
    (fun _ at' _ => s.size - (intOf at').toNat)
  case atStart => exact ⟨0, [], rfl, by omega, by simp, Gone.start _, World.ownsRow_nil _ _ _ _, Below.refl _ _⟩
  case round =>
    obtain ⟨pos, acc, rfl, hps, hap, H, hown, hbel⟩ := hrel
    by_cases hp : pos < s.size
    · have HA : Hid (atL s pos = s.data.toList.drop pos) := by rw [atL_in s pos (by omega), Int.toNat_natCast]; rfl
      go_wp2_with fail
      refine (rnext_any s _ _ (by omega)).mono ?_
      rintro e w1 ⟨rfl, rfl⟩
      rw [HA.out]
      generalize hx : nxL (s.data.toList.drop pos) = x
      cases x with
      | none =>
        have HR : Hid (runesOf s.data.toList = none) := H.out.bad (by rw [len_data]; exact hp) hx
        have H1 : Hid (validB s.data.toList = false) := by show _ = _; unfold validB; rw [HR.out]; rfl
        have H2 : Hid (countN s.data.toList = 0) := by show _ = _; unfold countN; rw [HR.out]; rfl
        have H3 : Hid ((runesOf s.data.toList).getD [] = []) := by show _ = _; rw [HR.out]; rfl
        simp only [nxV]
        clear hx
        go_wp2_with fail
        go_ret2
        refine ⟨.slice none 0 0, ?_, ?_, hbel⟩
        · rw [H1.out]; rfl
        · rw [H2.out, H3.out]; exact World.ownsRow_nil _ _ _ _
      | some x =>
        obtain ⟨c, k⟩ := x
        obtain ⟨g1, g2, g3⟩ := all_len hx (by rw [len_data]; omega)
        rw [len_data] at g1
        have HG : Hid (Gone s.data.toList (pos + k) (acc ++ [c])) := H.out.step hx
        clear hx
        simp only [nxV]
        have hws := hbel.size
        go_wp2_with (first
          | (at_builtin; refine wpList_append_own _ rfl _ _ 131 rfl w.heap.size 21 i0 (.int .i32 0) 1 4 Tryz.underlying131 hi hz0 hz1 hz2 rfl (by decide) _ _ _ rfl (hown.alloc _) ⟨w1.heap.size, 0, none⟩ 1 1 [.int .i32 (c : Int)] rfl rfl ?c1 ?c2 ?c3 ?c4 ?c5 ?_)
          | fail)
        case c1 =>
          intro j u hj
          match j, hj with
          | 0, hj => simp at hj; subst hj; simp [Addr.add]
        case c2 => intro u hu; simp at hu; subst hu; rfl
        case c3 => unfold maxLen; omega
        case c4 => omega
        case c5 => simp; omega
        intro v' w2 hown' hgrow _
        have hb2 : Below w.heap.size w w2 := (hbel.alloc hws _).grown hgrow (by simp; omega) (fun k hk => (hown.lt k hk).1)
        have HO : Hid (w2.ownsRow w.heap.size 21 1 v' (acc ++ [c]).length (runeCells (acc ++ [c]))) := by
          have e1 : (acc ++ [c]).length = acc.length + 1 := by simp
          have e2 : runeCells (acc ++ [c]) = runeCells acc ++ [.int .i32 (c : Int)] := by simp [runeCells]
          show World.ownsRow _ _ _ _ _ _ _
          rw [e1, e2]
          exact hown'
        clear hown hown' hgrow
        go_wp2_with fail
        go_roundw
        case rel => exact ⟨pos + k, acc ++ [c], by go_num, by omega, by simp; omega, HG, HO.out, hb2⟩
        case measure => simp [intOf]; omega
    · have HR : Hid (runesOf s.data.toList = some acc) := H.out.done (by rw [len_data]; omega)
      have H1 : Hid (validB s.data.toList = true) := by show _ = _; unfold validB; rw [HR.out]; rfl
      have H2 : Hid (countN s.data.toList = acc.length) := by show _ = _; unfold countN; rw [HR.out]; rfl
      have H3 : Hid ((runesOf s.data.toList).getD [] = acc) := by show _ = _; rw [HR.out]; rfl
      have HO := owns_cast hown H2.out (congrArg runeCells H3.out)
      clear hown
      go_wp2_with fail
      go_ret2
      exact ⟨_, by rw [H1.out]; rfl, HO, hbel⟩

theorem owns_form {w : World} {base e : Nat} {v : Value} {n : Nat} {xs : List Value} (h : w.ownsRow base e 1 v n xs) :
    ∃ a cap, v = .slice a n cap ∧ (0 < n → ∃ g, a = some ⟨g, 0, none⟩ ∧ ∀ j, j < n → w.cell? ⟨g, j, none⟩ = xs[j]?) := by
  have h0 := h
  obtain ⟨h1, h2⟩ := h
  rcases h2 with ⟨rfl, rfl⟩ | ⟨g, cap, cur, rfl, _⟩
  · exact ⟨none, 0, rfl, by omega⟩
  · exact ⟨some ⟨g, 0, none⟩, cap, rfl, fun _ => ⟨g, rfl, fun j hj => h0.cellAt j (by omega)⟩⟩

end Go.Proofs.YtfnjbbaphmmjlaaGreat

/- What the reference's Key answers, at every text. -/
namespace Go.Proofs.YtfnjbbaphmmjlaaGreat
open Go.ChangeShapes Go.WideShapes Go.ChangeAt Go.RowKit
set_option linter.unusedVariables false
set_option linter.unusedSimpArgs false
set_option maxRecDepth 20000

set_option maxHeartbeats 1000000 in
theorem rkey_any (s : ByteArray) (w : World) :
    Calls Tryz.prog 73 #[.string s] w fun e w' => e = .returned (.bool (keyB s)) ∧ w' = w := by
  go_enter Tryz.func73, Tryz.ntmps73
  go_wp2
  all_goals
    go_ret
    refine ⟨ret_bool ?_, rfl⟩
    first | (simp [keyB, *]; done) | simp_all
end Go.Proofs.YtfnjbbaphmmjlaaGreat

/- Whether a text is a name, or a key, reckoned over its list of bytes. -/
namespace Go.Proofs.YtfnjbbaphmmjlaaGreat
open Go.RowKit
def keyK (l : List UInt8) : Bool := [[115, 99, 104, 101, 109, 97], [109, 101, 115, 115, 97, 103, 101], [101, 110, 117, 109], [99, 97, 108, 108], [114, 101, 116, 117, 114, 110, 115], [114, 101, 115, 101, 114, 118, 101, 100],
  [111, 112, 116, 105, 111, 110, 97, 108], [114, 101, 112, 101, 97, 116, 101, 100], [105, 110, 116, 51, 50], [105, 110, 116, 54, 52], [98, 111, 111, 108], [116, 101, 120, 116], [98, 121, 116, 101, 115]].any fun (k : List UInt8) => l == k
def nameK (l : List UInt8) : Bool := decide (1 ≤ countN l ∧ countN l ≤ 20) && !keyK l && okFrom true ((runesOf l).getD [])
theorem keyB_eq (s : ByteArray) : keyB s = keyK s.data.toList := by unfold keyB keyK; rw [ByteArray.toList_eq]
theorem nameB_eq (s : ByteArray) : nameB s = nameK s.data.toList := by unfold nameB nameK; rw [keyB_eq]
end Go.Proofs.YtfnjbbaphmmjlaaGreat

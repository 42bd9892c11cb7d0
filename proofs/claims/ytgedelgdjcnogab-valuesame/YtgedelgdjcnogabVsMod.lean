/- A tree of one's own that is changed in one place. -/
import Derived.Test.YtgedelgdjcnogabVsSame
import Derived.Test.YtgedelgdjcnogabTvOth
import Derived.Test.YtgedelgdjcnogabTvCopy
namespace Go.Proofs.Ytgedelgdjcnogab
open Go.ChangeShapes Go.WideShapes Go.ChangeAt Go.RowKit
set_option linter.unusedVariables false
set_option linter.unusedSimpArgs false
set_option maxRecDepth 20000

theorem RowO.setAt {α : Type} {P : World → List Value → α → List Nat → Prop} {B e size : Nat} {w w' : World} {v : Value} {xs : List α} {rows : List (List Value)} {bss : List (List Nat)} (h : RowO P B e size w v xs rows bss) {i : Nat} {x' : α} {r' : List Value} {b' : List Nat} (hi : i < xs.length) (hw : r'.length = size)
    (ho : w'.ownsRow B e size v xs.length (rows.set i r').flatten) (hs : ∀ j b, j ≠ i → bss[j]? = some b → Sm w w' b) (hp : P w' r' x' b') (loc : ∀ r x b, P w r x b → Sm w w' b → P w' r x b) :
    RowO P B e size w' v (xs.set i x') (rows.set i r') (bss.set i b') := by
  refine ⟨by rw [List.length_set]; exact ho, by rw [List.length_set, List.length_set]; exact h.len, by rw [List.length_set, List.length_set]; exact h.blen, fun r hr => ?_, fun j x hx => ?_⟩
  · rcases List.mem_or_eq_of_mem_set hr with hr | rfl
    · exact h.wide r hr
    · exact hw
  · by_cases hij : i = j
    · subst hij
      rw [List.getElem?_set, if_pos rfl, if_pos hi] at hx
      obtain rfl : x' = x := by simpa using hx
      exact ⟨r', b', by rw [List.getElem?_set, if_pos rfl, if_pos (by rw [h.len]; exact hi)], by rw [List.getElem?_set, if_pos rfl, if_pos (by rw [h.blen]; exact hi)], hp⟩
    · rw [List.getElem?_set, if_neg hij] at hx
      obtain ⟨r2, b2, q1, q2, q3⟩ := h.each j x hx
      exact ⟨r2, b2, by rw [List.getElem?_set, if_neg hij]; exact q1, by rw [List.getElem?_set, if_neg hij]; exact q2, loc _ _ _ q3 (hs j b2 (Ne.symm hij) q2)⟩
theorem mem_two {bss : List (List Nat)} (h : bss.flatten.Nodup) {i j : Nat} {a b : List Nat} (ha : bss[i]? = some a) (hb : bss[j]? = some b) (hij : j ≠ i) {k : Nat} (hk : k ∈ a) : k ∉ b := by
  intro hk2
  have h1 := List.nodup_iff_count.1 h k
  have h2 := List.count_pos_iff.2 hk
  have h3 := List.count_pos_iff.2 hk2
  rcases Nat.lt_or_gt_of_ne hij with hlt | hgt
  · have := count_two hb ha hlt k
    omega
  · have := count_two ha hb hgt k
    omega
theorem nodup_at {bss : List (List Nat)} (h : bss.flatten.Nodup) {i : Nat} {a : List Nat} (ha : bss[i]? = some a) : a.Nodup := nodup_count h (count_mem_le ha)
/-- What lies behind an entry of a tree of one's own. -/
structure EntO (n B : Nat) (w : World) (r : List Value) (t : Tr) (bs : List Nat) (i : Nat) (e : Int × List Tr) (ge ec : Nat) (va vr : Value) (rows rows' : List (List Value)) (bss bss' : List (List Nat)) : Prop where
  form : r = [.int .i64 t.kind, .int .i64 t.n, .string t.s, .slice (some ⟨ge, 0, none⟩) t.es.length ec, vr]
  k64 : Is64 t.kind
  n64 : Is64 t.n
  ss : t.s.size ≤ 140737488351232
  fds : Fd64 t.rest
  rest : w.ownsRow B 36 4 vr t.rest.length (rawCells t.rest)
  row : RowO (EtO (TrO n B) B) B 33 2 w (.slice (some ⟨ge, 0, none⟩) t.es.length ec) t.es rows bss
  at' : t.es[i]? = some e
  rowi : rows[i]? = some [.int .i64 e.1, va]
  e64 : Is64 e.1
  trs : RowO (TrO n B) B 25 5 w va e.2 rows' bss'
  bi : bss[i]? = some (allB va bss')
  blk : bs = blkOf vr ++ (ge :: bss.flatten)
  nd : bs.Nodup
theorem TrO.ent {n B : Nat} {w : World} {r : List Value} {t : Tr} {bs : List Nat} (h : TrO (n + 1) B w r t bs) (hn : bs.Nodup) {i : Nat} {e : Int × List Tr} (hi : t.es[i]? = some e) : ∃ ge ec va vr rows rows' bss bss', EntO n B w r t bs i e ge ec va vr rows rows' bss bss' := by
  obtain ⟨ve, vr, rows, bss, h1, h2, h3, h4, h5, h6, h7, rfl⟩ := h
  obtain ⟨g, b, g1, g2, vt, rows', bss', rfl, k2, k3, rfl⟩ := h7.each i e hi
  rcases h7.own.2 with ⟨_, e0⟩ | ⟨ge, cap, cur, e1, _⟩
  · rw [List.getElem?_eq_none (by omega)] at hi
    cases hi
  · subst e1
    exact ⟨ge, cap, vt, vr, rows, rows', bss, bss', ⟨h1, h2, h3, h4, h5, h6, h7, hi, g1, k2, k3, g2, rfl, hn⟩⟩
section
variable {n B : Nat} {w : World} {r : List Value} {t : Tr} {bs : List Nat} {i : Nat} {e : Int × List Tr} {ge ec : Nat} {va vr : Value} {rows rows' : List (List Value)} {bss bss' : List (List Nat)}
theorem EntO.cells (h : EntO n B w r t bs i e ge ec va vr rows rows' bss bss') : w.cell? ⟨ge, i * 2, none⟩ = some (.int .i64 e.1) ∧ w.cell? ⟨ge, i * 2 + 1, none⟩ = some va ∧ w.frozen? ⟨ge, i * 2, none⟩ = false ∧ w.frozen? ⟨ge, i * 2 + 1, none⟩ = false := by
  have hg := (RowG.own h.row.wide (by decide) h.row.own).1
  obtain ⟨g, off, e1, hc⟩ := hg.get h.rowi
  simp only [Option.some.injEq, Addr.mk.injEq, and_true] at e1
  obtain ⟨rfl, rfl⟩ := e1
  have c0 := hc 0 _ rfl
  have c1 := hc 1 _ rfl
  simp only [Nat.zero_add, Nat.add_zero] at c0 c1
  rcases h.row.own.2 with ⟨e2, _⟩ | ⟨g', cap, cur, e2, _, e3, _⟩
  · cases e2
  · simp only [Value.slice.injEq, Option.some.injEq, Addr.mk.injEq, and_true, true_and] at e2
    obtain ⟨rfl, rfl⟩ := e2
    exact ⟨c0, c1, block_froz e3 _, block_froz e3 _⟩
theorem EntO.ge_rest (h : EntO n B w r t bs i e ge ec va vr rows rows' bss bss') : ge ∉ blkOf vr ∧ ge ∉ bss.flatten ∧ bss.flatten.Nodup := by
  have hn := h.nd
  rw [h.blk] at hn
  have h1 := List.nodup_append.1 hn
  have h2 := List.nodup_cons.1 h1.2.1
  exact ⟨fun hk => h1.2.2 ge hk ge (by simp) rfl, h2.1, h2.2⟩
theorem EntO.mk' (h : EntO n B w r t bs i e ge ec va vr rows rows' bss bss') {w' : World} {es' : Ens} {rows2 : List (List Value)} {bss2 : List (List Nat)} (hl : es'.length = t.es.length) (hr : w'.ownsRow B 36 4 vr t.rest.length (rawCells t.rest)) (hrow : RowO (EtO (TrO n B) B) B 33 2 w' (.slice (some ⟨ge, 0, none⟩) t.es.length ec) es' rows2 bss2) :
    TrO (n + 1) B w' r { t with es := es' } (blkOf vr ++ allB (.slice (some ⟨ge, 0, none⟩) t.es.length ec) bss2) :=
  ⟨_, vr, rows2, bss2, h.form, h.k64, h.n64, h.ss, h.fds, hr, hrow, rfl⟩
/-- The tag is turned. -/
theorem EntO.setTag (h : EntO n B w r t bs i e ge ec va vr rows rows' bss bss') {z : Int} (hz : Is64 z) : ∃ cs, TrO (n + 1) B (w.setCell ⟨ge, i * 2, none⟩ (.int .i64 z)) r { t with es := t.es.set i (z, e.2) } cs := by
  obtain ⟨n1, n2, n3⟩ := h.ge_rest
  obtain ⟨rows2, h8⟩ := h.row.setTag n2 h.at' hz
  exact ⟨_, h.mk' (by simp) (ownsRow_setCell_other h.rest (fun e => n1 (mem_blkOf.2 e)) _) h8⟩
/-- The trees are others: one more is behind them. -/
theorem EntO.setTrees (h : EntO n B w r t bs i e ge ec va vr rows rows' bss bss') (hap : Apt B w bs) {w' : World} {v' : Value} {x : Tr} {rx : List Value} (hx : ∀ W, TrO n B W rx x []) (hx5 : rx.length = 5) (hown : w'.ownsRow B 25 5 v' (e.2.length + 1) (rows'.flatten ++ rx)) (hg : w.grownBy w' va.ownBlock) (hat : v'.ownBlock ≠ some ge) :
    ∃ cs, TrO (n + 1) B (w'.setCell ⟨ge, i * 2 + 1, none⟩ v') r { t with es := t.es.set i (e.1, e.2 ++ [x]) } cs := by
  obtain ⟨n1, n2, n3⟩ := h.ge_rest
  have hi : i < t.es.length := (List.getElem?_eq_some_iff.1 h.at').1
  have hir : i < rows.length := (List.getElem?_eq_some_iff.1 h.rowi).1
  have sub : ∀ k ∈ allB va bss', k ∈ bss.flatten := fun k hk => List.mem_flatten.2 ⟨_, List.mem_of_getElem? h.bi, hk⟩
  have inb : ∀ k ∈ bss.flatten, k ∈ bs := fun k hk => by rw [h.blk]; exact List.mem_append.2 (.inr (List.mem_cons_of_mem _ hk))
  have hva : ∀ k, va.ownBlock = some k → k ∈ allB va bss' := fun k hk => List.mem_append.2 (.inl (mem_blkOf.2 hk))
  have ndv : (allB va bss').Nodup := nodup_at n3 h.bi
  -- blocks other than the trees' own row are as they were
  have same : ∀ k, k ∈ bs → va.ownBlock ≠ some k → w'.heap[k]? = w.heap[k]? := fun k hk hne => hg.block k (hap.2 k hk).2 (fun e => hne e.symm)
  have trs2 : RowO (TrO n B) B 25 5 w' v' (e.2 ++ [x]) (rows' ++ [rx]) (bss' ++ [[]]) := h.trs.push (b := []) (by rw [List.append_nil]; exact ⟨ndv, fun k hk => hap.2 k (inb k (sub k hk))⟩) hown hg (hx w) hx5 (fun r x b hp hs => hp.sm hs)
  have setk : ∀ k, k ≠ ge → (w'.setCell ⟨ge, i * 2 + 1, none⟩ v').heap[k]? = w'.heap[k]? := fun k hk => Below.heap_setCell _ _ _ _ (fun e => hk e)
  have vge : ge ∈ bs := by rw [h.blk]; simp
  have hge : va.ownBlock ≠ some ge := fun hk => n2 (sub ge (hva ge hk))
  have row1 : w'.ownsRow B 33 2 (.slice (some ⟨ge, 0, none⟩) t.es.length ec) t.es.length rows.flatten := own_sm h.row.own (fun k hk => by
    have : k = ge := by simpa [blkOf, Value.ownBlock] using hk
    rw [this]
    exact same ge vge hge)
  have hst := (row1.stored (i * 2 + 1) v').1
  rw [flat_set rows h.row.wide i _ h.rowi 1 v' (by decide)] at hst
  have trs3 : RowO (TrO n B) B 25 5 (w'.setCell ⟨ge, i * 2 + 1, none⟩ v') v' (e.2 ++ [x]) (rows' ++ [rx]) (bss' ++ [[]]) := trs2.sm (fun k hk => setk k (fun e => by
    subst e
    rcases List.mem_append.1 hk with hk | hk
    · exact hat (mem_blkOf.1 hk)
    · have : k ∈ allB va bss' := List.mem_append.2 (.inr (by simpa using hk))
      exact n2 (sub k this))) (fun r x b hp hs => hp.sm hs)
  have row2 := RowO.setAt (w' := w'.setCell ⟨ge, i * 2 + 1, none⟩ v') (x' := (e.1, e.2 ++ [x])) (b' := allB v' (bss' ++ [[]])) h.row hi (r' := [.int .i64 e.1, v']) rfl hst (fun j b hj hb k hk => by
    have hkf : k ∈ bss.flatten := List.mem_flatten.2 ⟨b, List.mem_of_getElem? hb, hk⟩
    rw [setk k (fun e => by subst e; exact n2 hkf)]
    exact same k (inb k hkf) (fun hv => mem_two n3 h.bi hb hj (hva k hv) hk)) ⟨v', _, _, rfl, h.e64, trs3, rfl⟩ (fun r x b hp hs => hp.sm hs)
  refine ⟨_, h.mk' (by simp) ?_ row2⟩
  refine own_sm h.rest fun k hk => ?_
  have hkb : k ∈ bs := by rw [h.blk]; exact List.mem_append.2 (.inl hk)
  have hnd := h.nd
  rw [h.blk] at hnd
  have h3 := (List.nodup_append.1 hnd).2.2
  rw [setk k (fun e => by subst e; exact n1 hk)]
  exact same k hkb (fun hv => h3 k hk k (List.mem_cons_of_mem _ (sub k (hva k hv))) rfl)
/-- The first tree's number is turned. -/
theorem EntO.setN (h : EntO n B w r t bs i e ge ec va vr rows rows' bss bss') {x : Tr} (h0 : e.2[0]? = some x) {gt tc : Nat} (hv : va = .slice (some ⟨gt, 0, none⟩) e.2.length tc) {z : Int} (hz : Is64 z) :
    ∃ cs, TrO (n + 1) B (w.setCell ⟨gt, 1, none⟩ (.int .i64 z)) r { t with es := t.es.set i (e.1, e.2.set 0 { x with n := z }) } cs := by
  obtain ⟨n1, n2, n3⟩ := h.ge_rest
  have hi : i < t.es.length := (List.getElem?_eq_some_iff.1 h.at').1
  have hil : 0 < e.2.length := (List.getElem?_eq_some_iff.1 h0).1
  have sub : ∀ k ∈ allB va bss', k ∈ bss.flatten := fun k hk => List.mem_flatten.2 ⟨_, List.mem_of_getElem? h.bi, hk⟩
  have hgt : gt ∈ allB va bss' := by rw [hv]; simp [allB, blkOf, Value.ownBlock]
  have ndv : (allB va bss').Nodup := nodup_at n3 h.bi
  have gtn : gt ∉ bss'.flatten := by
    rw [hv] at ndv
    have : (gt :: bss'.flatten).Nodup := by simpa [allB, blkOf, Value.ownBlock] using ndv
    exact (List.nodup_cons.1 this).1
  have setk : ∀ k, k ≠ gt → (w.setCell ⟨gt, 1, none⟩ (.int .i64 z)).heap[k]? = w.heap[k]? := fun k hk => Below.heap_setCell _ _ _ _ (fun e => hk e)
  have smb : ∀ bs : List Nat, gt ∉ bs → Sm w (w.setCell ⟨gt, 1, none⟩ (.int .i64 z)) bs := fun bs hb => sm_setCell hb
  obtain ⟨rx, bx, q1, q2, q3⟩ := h.trs.each 0 x h0
  cases n with
  | zero => exact q3.elim
  | succ n =>
    obtain ⟨ve, vr', rows3, bss3, rfl, p2, p3, p4, p5, p6, p7, rfl⟩ := q3
    have own2 := h.trs.own
    rw [hv] at own2
    have hst := (own2.stored 1 (.int .i64 z)).1
    have hf := flat_set rows' h.trs.wide 0 _ q1 1 (.int .i64 z) (by decide)
    simp only [Nat.zero_mul, Nat.zero_add] at hf
    rw [hf] at hst
    have bxn : gt ∉ blkOf vr' ++ allB ve bss3 := fun hk => gtn (List.mem_flatten.2 ⟨_, List.mem_of_getElem? q2, hk⟩)
    have trs2 := RowO.setAt (w' := w.setCell ⟨gt, 1, none⟩ (.int .i64 z)) (x' := ({ x with n := z } : Tr)) (b' := blkOf vr' ++ allB ve bss3) h.trs hil (r' := [.int .i64 x.kind, .int .i64 z, .string x.s, ve, vr']) rfl (by rw [hv]; exact hst) (fun j b hj hb => smb b (fun hk => gtn (List.mem_flatten.2 ⟨b, List.mem_of_getElem? hb, hk⟩)))
      ⟨ve, vr', rows3, bss3, rfl, p2, hz, p4, p5, own_sm p6 (smb _ fun hk => bxn (List.mem_append.2 (.inl hk))), p7.sm (smb _ fun hk => bxn (List.mem_append.2 (.inr hk))) (fun r x b hp hs => hp.sm hs), rfl⟩ (fun r x b hp hs => hp.sm hs)
    have gge : ge ≠ gt := fun e => n2 (by rw [e]; exact sub gt hgt)
    have row1 : (w.setCell ⟨gt, 1, none⟩ (.int .i64 z)).ownsRow B 33 2 (.slice (some ⟨ge, 0, none⟩) t.es.length ec) t.es.length (rows.set i [.int .i64 e.1, va]).flatten := by
      have : rows.set i [.int .i64 e.1, va] = rows := by
        obtain ⟨hl, he⟩ := List.getElem?_eq_some_iff.1 h.rowi
        rw [← he]
        exact List.set_getElem_self hl
      rw [this]
      exact own_sm h.row.own (smb _ fun hk => gge ((by simpa [blkOf, Value.ownBlock] using hk : gt = ge)).symm)
    have row2 := RowO.setAt (w' := w.setCell ⟨gt, 1, none⟩ (.int .i64 z)) (x' := (e.1, e.2.set 0 { x with n := z })) (b' := allB va (bss'.set 0 (blkOf vr' ++ allB ve bss3))) h.row hi (r' := [.int .i64 e.1, va]) rfl row1 (fun j b hj hb => smb b (mem_two n3 h.bi hb hj hgt)) ⟨va, _, _, rfl, h.e64, trs2, rfl⟩ (fun r x b hp hs => hp.sm hs)
    refine ⟨_, h.mk' (by simp) (own_sm h.rest (smb _ fun hk => ?_)) row2⟩
    have hnd := h.nd
    rw [h.blk] at hnd
    exact (List.nodup_append.1 hnd).2.2 gt hk gt (List.mem_cons_of_mem _ (sub gt hgt)) rfl
/-- What is not known is more. -/
theorem EntO.setRest (h : EntO n B w r t bs i e ge ec va vr rows rows' bss bss') (hap : Apt B w bs) {w' : World} {v' : Value} {f : Fd} (hf : Is64 f.tag ∧ Is64 f.wire ∧ Is64 f.n ∧ f.b.size ≤ 140737488351232) (hown : w'.ownsRow B 36 4 v' (t.rest.length + 1) (rawCells t.rest ++ f.cells)) (hg : w.grownBy w' vr.ownBlock) :
    ∃ cs, TrO (n + 1) B w' [.int .i64 t.kind, .int .i64 t.n, .string t.s, .slice (some ⟨ge, 0, none⟩) t.es.length ec, v'] { t with rest := t.rest ++ [f] } cs ∧ ∀ k ∈ cs, v'.ownBlock = some k ∨ k ∈ bs := by
  refine ⟨blkOf v' ++ allB (.slice (some ⟨ge, 0, none⟩) t.es.length ec) bss, ⟨_, v', rows, bss, rfl, h.k64, h.n64, h.ss, fun x hx => ?_, ?_, ?_, rfl⟩, fun k hk => ?_⟩
  · rcases List.mem_append.1 hx with hx | hx
    · exact h.fds x hx
    · obtain rfl := List.mem_singleton.1 hx
      exact hf
  · show w'.ownsRow B 36 4 v' (t.rest ++ [f]).length (rawCells (t.rest ++ [f]))
    rw [List.length_append, List.length_singleton]
    have : rawCells (t.rest ++ [f]) = rawCells t.rest ++ f.cells := by simp [rawCells]
    rw [this]
    exact hown
  · refine h.row.sm (fun k hk => ?_) (fun r x b hp hs => hp.sm hs)
    have hkb : k ∈ ge :: bss.flatten := by simpa [allB, blkOf, Value.ownBlock] using hk
    have hnd := h.nd
    rw [h.blk] at hnd
    refine hg.block k (hap.2 k (by rw [h.blk]; exact List.mem_append.2 (.inr hkb))).2 (fun e => ?_)
    exact (List.nodup_append.1 hnd).2.2 k (mem_blkOf.2 e.symm) k hkb rfl
  · rcases List.mem_append.1 hk with hk | hk
    · exact .inl (mem_blkOf.1 hk)
    · rw [h.blk]
      exact .inr (List.mem_append.2 (.inr (by simpa [allB, blkOf, Value.ownBlock] using hk)))
/-- The first tree of an entry. -/
theorem EntO.first (h : EntO n B w r t bs i e ge ec va vr rows rows' bss bss') {x : Tr} (h0 : e.2[0]? = some x) : ∃ gt tc, va = .slice (some ⟨gt, 0, none⟩) e.2.length tc ∧ w.cell? ⟨gt, 1, none⟩ = some (.int .i64 x.n) ∧ w.frozen? ⟨gt, 1, none⟩ = false ∧ Is64 x.n ∧ gt ∈ bs := by
  have hg := (RowG.own h.trs.wide (by decide) h.trs.own).1
  obtain ⟨rx, bx, q1, q2, q3⟩ := h.trs.each 0 x h0
  have hlen : 0 < e.2.length := (List.getElem?_eq_some_iff.1 h0).1
  rcases h.trs.own.2 with ⟨_, e0⟩ | ⟨gt, tc, cur, e1, _, e3, _⟩
  · omega
  · subst e1
    obtain ⟨g, off, e4, hc⟩ := hg.get q1
    simp only [Option.some.injEq, Addr.mk.injEq, and_true] at e4
    obtain ⟨rfl, rfl⟩ := e4
    cases n with
    | zero => exact q3.elim
    | succ n =>
      obtain ⟨ve, vr', rows3, bss3, rfl, p2, p3, p4, p5, p6, p7, rfl⟩ := q3
      have c1 := hc 1 _ rfl
      simp only [Nat.zero_mul, Nat.zero_add] at c1
      refine ⟨gt, tc, rfl, c1, block_froz e3 _, p3, ?_⟩
      rw [h.blk]
      refine List.mem_append.2 (.inr (List.mem_cons_of_mem _ (List.mem_flatten.2 ⟨_, List.mem_of_getElem? h.bi, ?_⟩)))
      simp [allB, blkOf, Value.ownBlock]
end
end Go.Proofs.Ytgedelgdjcnogab

/- Trees of one's own whose entries are turned in place, or put behind one another. -/
import Derived.Test.YtgedelgdjcnogabTvPush
import Derived.Test.YtgedelgdjcnogabRowFs
import Derived.OneCell
namespace Go.Proofs.Ytgedelgdjcnogab
open Go.ChangeShapes Go.WideShapes Go.ChangeAt Go.RowKit
set_option linter.unusedVariables false
set_option linter.unusedSimpArgs false
set_option maxRecDepth 20000

theorem sm_setCell {w : World} {p : Addr} {u : Value} {bs : List Nat} (h : p.block ∉ bs) : Sm w (w.setCell p u) bs := fun k hk => Below.heap_setCell _ _ _ _ (fun e => h (e ▸ hk))
theorem own_baseG {w : World} {base base' : Nat} {e : TypeId} {s : Nat} {v : Value} {n : Nat} {xs : List Value} (h : w.ownsRow base e s v n xs) (hb : base' ≤ base) : w.ownsRow base' e s v n xs := by
  refine ⟨h.1, ?_⟩
  rcases h.2 with h | ⟨g, cap, cur, h1, h2, h3⟩
  · exact .inl h
  · exact .inr ⟨g, cap, cur, h1, Nat.le_trans hb h2, h3⟩
/-- An entry's tag is turned, in place. -/
theorem RowO.setTag {n B g cap : Nat} {w : World} {es : List (Int × List Tr)} {rows : List (List Value)} {bss : List (List Nat)} (h : RowO (EtO (TrO n B) B) B 33 2 w (.slice (some ⟨g, 0, none⟩) es.length cap) es rows bss) (hg : g ∉ bss.flatten) {i : Nat} {e : Int × List Tr} (hi : es[i]? = some e) {z : Int} (hz : Is64 z) :
    ∃ rows', RowO (EtO (TrO n B) B) B 33 2 (w.setCell ⟨g, i * 2, none⟩ (.int .i64 z)) (.slice (some ⟨g, 0, none⟩) es.length cap) (es.set i (z, e.2)) rows' bss := by
  obtain ⟨r, b, hr, hb, vt, rs', bss', rfl, g2, g3, g4⟩ := h.each i e hi
  have hlt : i < rows.length := (List.getElem?_eq_some_iff.1 hr).1
  have hlt2 : i < es.length := (List.getElem?_eq_some_iff.1 hi).1
  have hst := (h.own.stored (i * 2) (.int .i64 z)).1
  have hf := flat_set rows h.wide i _ hr 0 (.int .i64 z) (by decide)
  rw [Nat.add_zero] at hf
  rw [hf] at hst
  refine ⟨rows.set i [.int .i64 z, vt], ⟨by rw [List.length_set]; exact hst, by rw [List.length_set, List.length_set]; exact h.len, by rw [List.length_set]; exact h.blen, fun r hr => ?_, fun j x hx => ?_⟩⟩
  · rcases List.mem_or_eq_of_mem_set hr with hr | rfl
    · exact h.wide r hr
    · rfl
  · rw [List.getElem?_set] at hx
    split at hx
    · rename_i hij
      subst hij
      obtain rfl : (z, e.2) = x := by simpa using hx
      refine ⟨[.int .i64 z, vt], b, by rw [List.getElem?_set, if_pos rfl, if_pos hlt], hb, vt, rs', bss', rfl, hz, ?_, g4⟩
      refine g3.sm (sm_setCell fun hk => hg (List.mem_flatten.2 ⟨b, List.mem_of_getElem? hb, by rw [g4]; exact hk⟩)) fun r x b hp hs => hp.sm hs
    · rename_i hij
      obtain ⟨r2, b2, q1, q2, q3⟩ := h.each j x hx
      exact ⟨r2, b2, by rw [List.getElem?_set, if_neg hij]; exact q1, q2, q3.sm (sm_setCell fun hk => hg (List.mem_flatten.2 ⟨b2, List.mem_of_getElem? q2, hk⟩))⟩
theorem TrO.setTag {n B g cap : Nat} {w : World} {t : Tr} {vr : Value} {bs : List Nat} (h : TrO (n + 1) B w [.int .i64 t.kind, .int .i64 t.n, .string t.s, .slice (some ⟨g, 0, none⟩) t.es.length cap, vr] t bs) (hn : bs.Nodup) {i : Nat} {e : Int × List Tr} (hi : t.es[i]? = some e) {z : Int} (hz : Is64 z) :
    TrO (n + 1) B (w.setCell ⟨g, i * 2, none⟩ (.int .i64 z)) [.int .i64 t.kind, .int .i64 t.n, .string t.s, .slice (some ⟨g, 0, none⟩) t.es.length cap, vr] { t with es := t.es.set i (z, e.2) } bs ∧ g ∈ bs := by
  obtain ⟨ve, vr', rows, bss, h1, h2, h3, h4, h5, h6, h7, rfl⟩ := h
  simp only [List.cons.injEq, and_true, true_and] at h1
  obtain ⟨rfl, rfl⟩ := h1
  have hbl : blkOf (.slice (some ⟨g, 0, none⟩) t.es.length cap) = [g] := rfl
  rw [allB, hbl] at hn
  have hn1 : g ∉ bss.flatten := by
    have := (List.nodup_append.1 hn).2.1
    rw [List.singleton_append, List.nodup_cons] at this
    exact this.1
  have hn2 : g ∉ blkOf vr := fun hk => (List.nodup_append.1 hn).2.2 g hk g (by simp) rfl
  obtain ⟨rows', h8⟩ := h7.setTag hn1 hi hz
  refine ⟨⟨_, vr, rows', bss, rfl, h2, h3, h4, h5, ownsRow_setCell_other h6 (fun e => hn2 (mem_blkOf.2 e)) _, h8, rfl⟩, ?_⟩
  rw [allB, hbl]
  simp
/-- Entries behind entries. -/
theorem RowO.join {n B B2 : Nat} {w w' : World} {v v2 v' : Value} {es fs : List (Int × List Tr)} {rows rows2 : List (List Value)} {bss bss2 : List (List Nat)} (h : RowO (EtO (TrO n B2) B2) B2 33 2 w v es rows bss) (k : RowO (EtO (TrO n B) B) B 33 2 w v2 fs rows2 bss2) (hB : B ≤ B2)
    (ho : w'.ownsRow B2 33 2 v' (es.length + rows2.length) (rows.flatten ++ rows2.flatten)) (s1 : Sm w w' bss.flatten) (s2 : Sm w w' bss2.flatten) : RowO (EtO (TrO n B) B) B 33 2 w' v' (es ++ fs) (rows ++ rows2) (bss ++ bss2) := by
  refine ⟨?_, ?_, ?_, ?_, fun i x hx => ?_⟩
  · rw [List.length_append, ← k.len, List.flatten_append]
    exact own_baseG ho hB
  · rw [List.length_append, List.length_append, h.len, k.len]
  · rw [List.length_append, List.length_append, h.blen, k.blen]
  · intro r hr
    rcases List.mem_append.1 hr with hr | hr
    · exact h.wide r hr
    · exact k.wide r hr
  · by_cases hi : i < es.length
    · rw [List.getElem?_append_left hi] at hx
      obtain ⟨r, b, q1, q2, q3⟩ := h.each i x hx
      refine ⟨r, b, by rw [List.getElem?_append_left (by rw [h.len]; exact hi)]; exact q1, by rw [List.getElem?_append_left (by rw [h.blen]; exact hi)]; exact q2, ?_⟩
      have q4 := q3.sm (s1.mono fun k hk => List.mem_flatten.2 ⟨b, List.mem_of_getElem? q2, hk⟩)
      obtain ⟨vt, rs', bs', g1, g2, g3, g4⟩ := q4
      exact ⟨vt, rs', bs', g1, g2, g3.base hB (fun r x b hp => hp.base hB), g4⟩
    · rw [List.getElem?_append_right (by omega)] at hx
      obtain ⟨r, b, q1, q2, q3⟩ := k.each _ x hx
      refine ⟨r, b, by rw [List.getElem?_append_right (by rw [h.len]; omega), h.len]; exact q1, by rw [List.getElem?_append_right (by rw [h.blen]; omega), h.blen]; exact q2, q3.sm (s2.mono fun k hk => List.mem_flatten.2 ⟨b, List.mem_of_getElem? q2, hk⟩)⟩
end Go.Proofs.Ytgedelgdjcnogab

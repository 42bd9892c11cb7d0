/- Values as they are read: what stands behind them. -/
import Derived.Test.YtlmkgbdcpphofaaVoMath
import Derived.Test.YtlmkgbdcpphofaaTvCopy
namespace Go.Proofs.Ytlmkgbdcpphofaa
open Go.ChangeShapes Go.WideShapes Go.ChangeAt Go.RowKit
set_option linter.unusedVariables false
set_option linter.unusedSimpArgs false
set_option maxRecDepth 20000

def VeC (P : List Value → Tr → Prop) (w : World) (r : List Value) (e : Int × List Tr) : Prop := ∃ vv, r = [.int .i64 e.1, vv] ∧ Is64 e.1 ∧ RowP P w 1 vv e.2
def VaC : Nat → World → List Value → Tr → Prop
  | 0, _, _, _ => False
  | n + 1, w, r, t =>
    (r = [.iface 85 (.int .i64 t.n)] ∧ t = ⟨1, t.n, ByteArray.empty, [], []⟩ ∧ Is64 t.n) ∨
    (r = [.iface 86 (.string t.s)] ∧ t = ⟨2, 0, t.s, [], []⟩ ∧ t.s.size ≤ 140737488351232) ∨
    (∃ g vn vr, r = [.iface 39 (.pointer (some ⟨g, 0, none⟩))] ∧ t = ⟨3, 0, ByteArray.empty, t.es, t.rest⟩ ∧ Blk w g #[vn, vr] 89 ∧ Fd64 t.rest ∧ RowG w vr 4 (fdRows t.rest) ∧ RowP (VeC (VaC n w) w) w 2 vn t.es)
theorem VaC.below : ∀ {n : Nat} {w w1 : World} {r : List Value} {t : Tr}, VaC n w r t → Below w.heap.size w w1 → VaC n w1 r t
  | 0, _, _, _, _, h, _ => h
  | n + 1, w, w1, r, t, h, hb => by
    rcases h with h | h | ⟨g, vn, vr, h1, h2, h3, h4, h5, h6⟩
    · exact .inl h
    · exact .inr (.inl h)
    · refine .inr (.inr ⟨g, vn, vr, h1, h2, h3.below hb, h4, h5.below hb, h6.mono hb fun r x hx hp => ?_⟩)
      obtain ⟨vt, g1, g2, g3⟩ := hp
      exact ⟨vt, g1, g2, g3.mono hb fun r x hx hp => hp.below hb⟩
theorem VaO.vaC : ∀ {n B : Nat} {w : World} {r : List Value} {t : Tr} {bs : List Nat}, VaO n B w r t bs → VaC n w r t
  | 0, _, _, _, _, _, h => h
  | n + 1, B, w, r, t, bs, h => by
    rcases h with ⟨h1, h2, h3, _⟩ | ⟨h1, h2, h3, _⟩ | ⟨g, vn, vr, rows, bss, h1, h2, h3, h4, h5, h6, rfl⟩
    · exact .inl ⟨h1, h2, h3⟩
    · exact .inr (.inl ⟨h1, h2, h3⟩)
    · refine .inr (.inr ⟨g, vn, vr, h1, h2, h3, h4, own_rest h5, h6.rowP (by decide) fun r x b hx hp => ?_⟩)
      obtain ⟨vt, rows', bss', g1, g2, g3, rfl⟩ := hp
      exact ⟨vt, g1, g2, g3.rowP (by decide) fun r x b hx hp => hp.vaC⟩
abbrev VasC (n : Nat) (w : World) (v : Value) (ts : List Tr) : Prop := RowP (VaC n w) w 1 v ts
abbrev VesC (n : Nat) (w : World) (v : Value) (es : List (Int × List Tr)) : Prop := RowP (VeC (VaC n w) w) w 2 v es
theorem RowP.belowV {n : Nat} {w w1 : World} {v : Value} {ts : List Tr} (h : VasC n w v ts) (hb : Below w.heap.size w w1) : VasC n w1 v ts := RowP.mono h hb fun _ _ _ hp => hp.below hb
theorem RowP.belowVe {n : Nat} {w w1 : World} {v : Value} {es : List (Int × List Tr)} (h : VesC n w v es) (hb : Below w.heap.size w w1) : VesC n w1 v es :=
  RowP.mono h hb fun _ _ _ hp => by
    obtain ⟨vt, g1, g2, g3⟩ := hp
    exact ⟨vt, g1, g2, g3.belowV hb⟩
theorem VaC.one {n : Nat} {w : World} {r : List Value} {t : Tr} (h : VaC n w r t) : ∃ T u, r = [.iface T u] := by
  cases n with
  | zero => exact h.elim
  | succ n =>
    rcases h with ⟨h1, _⟩ | ⟨h1, _⟩ | ⟨g, vn, vr, h1, _⟩
    · exact ⟨_, _, h1⟩
    · exact ⟨_, _, h1⟩
    · exact ⟨_, _, h1⟩
/-- A row of values: an element's cell. -/
theorem vas_at {n : Nat} {w : World} {g off : Nat} {i : Nat} {t : Tr} (h : ∃ r, VaC n w r t ∧ ∀ j u, r[j]? = some u → w.cell? ⟨g, off + i * 1 + j, none⟩ = some u) :
    ∃ T u, w.cell? ⟨g, off + i, none⟩ = some (.iface T u) ∧ VaC n w [.iface T u] t := by
  obtain ⟨r, h0, hc⟩ := h
  obtain ⟨T, u, rfl⟩ := h0.one
  have := hc 0 _ rfl
  rw [Nat.mul_one, Nat.add_zero] at this
  exact ⟨T, u, this, h0⟩
/-- A row of entries: an element's two cells. -/
theorem ves_at {n : Nat} {w : World} {g off : Nat} {i : Nat} {e : Int × List Tr} (h : ∃ r, VeC (VaC n w) w r e ∧ ∀ j u, r[j]? = some u → w.cell? ⟨g, off + i * 2 + j, none⟩ = some u) :
    ∃ vt, w.cell? ⟨g, off + i * 2, none⟩ = some (.int .i64 e.1) ∧ w.cell? ⟨g, off + i * 2 + 1, none⟩ = some vt ∧ Is64 e.1 ∧ VasC n w vt e.2 := by
  obtain ⟨r, ⟨vt, rfl, h2, h3⟩, hc⟩ := h
  exact ⟨vt, hc 0 _ rfl, hc 1 _ rfl, h2, h3⟩
theorem take_five {cs : List Value} {i : Nat} {a b c d e : Value} (h : i * 5 + 5 ≤ cs.length) :
    (((((cs.set (i * 5) a).set (i * 5 + 1) b).set (i * 5 + 2) c).set (i * 5 + 3) d).set (i * 5 + 4) e).take ((i + 1) * 5) = cs.take (i * 5) ++ [a, b, c, d, e] := by
  refine List.ext_getElem? fun k => ?_
  by_cases hk : k < i * 5
  · rw [List.getElem?_append_left (by rw [List.length_take]; omega), List.getElem?_take_of_lt (by omega), List.getElem?_take_of_lt hk,
      List.getElem?_set_ne (by omega), List.getElem?_set_ne (by omega), List.getElem?_set_ne (by omega), List.getElem?_set_ne (by omega), List.getElem?_set_ne (by omega)]
  · obtain ⟨j, rfl⟩ : ∃ j, k = i * 5 + j := ⟨k - i * 5, by omega⟩
    rw [List.getElem?_append_right (by rw [List.length_take]; omega)]
    have e1 : i * 5 + j - (cs.take (i * 5)).length = j := by rw [List.length_take]; omega
    rw [e1]
    by_cases hj : j < 5
    · rw [List.getElem?_take_of_lt (by omega)]
      rcases j with _ | _ | _ | _ | _ | j
      · rw [List.getElem?_set_ne (by omega), List.getElem?_set_ne (by omega), List.getElem?_set_ne (by omega), List.getElem?_set_ne (by omega), Nat.add_zero, List.getElem?_set_self (by omega)]; rfl
      · rw [List.getElem?_set_ne (by omega), List.getElem?_set_ne (by omega), List.getElem?_set_ne (by omega), List.getElem?_set_self (by simp; omega)]; rfl
      · rw [List.getElem?_set_ne (by omega), List.getElem?_set_ne (by omega), List.getElem?_set_self (by simp; omega)]; rfl
      · rw [List.getElem?_set_ne (by omega), List.getElem?_set_self (by simp; omega)]; rfl
      · rw [List.getElem?_set_self (by simp; omega)]; rfl
      · omega
    · rw [List.getElem?_eq_none (by simp; omega), List.getElem?_eq_none (by simp; omega)]
/-- A block filled from its beginning is a row of one's own (five cells each). -/
theorem own_of_five {w : World} {B g N : Nat} {e : TypeId} {cs : List Value} (h : Blk w g cs.toArray e) (hN : cs.length = N * 5) (hB : B ≤ g) (hm : N ≤ maxLen) : w.ownsRow B e 5 (.slice (some ⟨g, 0, none⟩) N N) N cs :=
  ⟨hN, .inr ⟨g, N, cs.toArray, rfl, hB, h, Nat.le_refl _, hm, by simp [hN], by rw [← hN]; simp⟩⟩
end Go.Proofs.Ytlmkgbdcpphofaa

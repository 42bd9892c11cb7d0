/- Values of one's own: what they keep, and which blocks they lie in. -/
import Derived.Test.YtlmkgbdcpphofaaTvPush
import Derived.Test.YtlmkgbdcpphofaaTvPl
namespace Go.Proofs.Ytlmkgbdcpphofaa
open Go.ChangeShapes Go.WideShapes Go.ChangeAt Go.RowKit
set_option linter.unusedVariables false
set_option linter.unusedSimpArgs false
set_option maxRecDepth 20000

def VeO (P : World → List Value → Tr → List Nat → Prop) (B : Nat) (w : World) (r : List Value) (e : Int × List Tr) (bs : List Nat) : Prop :=
  ∃ vv rows bss, r = [.int .i64 e.1, vv] ∧ Is64 e.1 ∧ RowO P B 34 1 w vv e.2 rows bss ∧ bs = allB vv bss
/-- What a value keeps (one cell), as a tree. -/
def VaO : Nat → Nat → World → List Value → Tr → List Nat → Prop
  | 0, _, _, _, _, _ => False
  | n + 1, B, w, r, t, bs =>
    (r = [.iface 85 (.int .i64 t.n)] ∧ t = ⟨1, t.n, ByteArray.empty, [], []⟩ ∧ Is64 t.n ∧ bs = []) ∨
    (r = [.iface 86 (.string t.s)] ∧ t = ⟨2, 0, t.s, [], []⟩ ∧ t.s.size ≤ 140737488351232 ∧ bs = []) ∨
    (∃ g vn vr rows bss, r = [.iface 39 (.pointer (some ⟨g, 0, none⟩))] ∧ t = ⟨3, 0, ByteArray.empty, t.es, t.rest⟩ ∧ Blk w g #[vn, vr] 89 ∧ Fd64 t.rest ∧
      w.ownsRow B 83 4 vr t.rest.length (rawCells t.rest) ∧ RowO (VeO (VaO n B) B) B 91 2 w vn t.es rows bss ∧ bs = [g] ++ (blkOf vr ++ allB vn bss))
theorem VaO.sm : ∀ {n B : Nat} {w w' : World} {r : List Value} {t : Tr} {bs : List Nat}, VaO n B w r t bs → Sm w w' bs → VaO n B w' r t bs
  | 0, _, _, _, _, _, _, h, _ => h
  | n + 1, B, w, w', r, t, bs, h, hb => by
    rcases h with h | h | ⟨g, vn, vr, rows, bss, h1, h2, h3, h4, h5, h6, rfl⟩
    · exact .inl h
    · exact .inr (.inl h)
    · refine .inr (.inr ⟨g, vn, vr, rows, bss, h1, h2, (hb g (by simp)).trans h3, h4, own_sm h5 (hb.mono fun k hk => by simp [hk]), h6.sm (hb.mono fun k hk => by simp [hk]) fun r x b hp hs => ?_, rfl⟩)
      obtain ⟨vv, rows', bss', g1, g2, g3, rfl⟩ := hp
      exact ⟨vv, rows', bss', g1, g2, g3.sm hs fun r x b hp hs => hp.sm hs, rfl⟩
theorem VeO.sm {n B : Nat} {w w' : World} {r : List Value} {e : Int × List Tr} {bs : List Nat} (h : VeO (VaO n B) B w r e bs) (hb : Sm w w' bs) : VeO (VaO n B) B w' r e bs := by
  obtain ⟨vt, rows', bss', g1, g2, g3, rfl⟩ := h
  exact ⟨vt, rows', bss', g1, g2, g3.sm hb fun r x b hp hs => hp.sm hs, rfl⟩
theorem VaO.base : ∀ {n B B' : Nat} {w : World} {r : List Value} {t : Tr} {bs : List Nat}, VaO n B w r t bs → B' ≤ B → VaO n B' w r t bs
  | 0, _, _, _, _, _, _, h, _ => h
  | n + 1, B, B', w, r, t, bs, h, hb => by
    rcases h with h | h | ⟨g, vn, vr, rows, bss, h1, h2, h3, h4, h5, h6, rfl⟩
    · exact .inl h
    · exact .inr (.inl h)
    · refine .inr (.inr ⟨g, vn, vr, rows, bss, h1, h2, h3, h4, own_base h5 hb, h6.base hb fun r x b hp => ?_, rfl⟩)
      obtain ⟨vv, rows', bss', g1, g2, g3, rfl⟩ := hp
      exact ⟨vv, rows', bss', g1, g2, g3.base hb fun r x b hp => hp.base hb, rfl⟩
theorem VeO.base {n B B' : Nat} {w : World} {r : List Value} {e : Int × List Tr} {bs : List Nat} (h : VeO (VaO n B) B w r e bs) (hb : B' ≤ B) : VeO (VaO n B') B' w r e bs := by
  obtain ⟨vv, rows', bss', g1, g2, g3, rfl⟩ := h
  exact ⟨vv, rows', bss', g1, g2, g3.base hb fun r x b hp => hp.base hb, rfl⟩
/-- What a value keeps: its one cell. -/
theorem VaO.one {n B : Nat} {w : World} {r : List Value} {t : Tr} {bs : List Nat} (h : VaO n B w r t bs) : ∃ T u, r = [.iface T u] ∧ ((T = 85 ∧ u = .int .i64 t.n ∧ t.kind = 1) ∨ (T = 86 ∧ u = .string t.s ∧ t.kind = 2) ∨ (T = 39 ∧ (∃ g, u = .pointer (some ⟨g, 0, none⟩)) ∧ t.kind = 3)) := by
  cases n with
  | zero => exact h.elim
  | succ n =>
    rcases h with ⟨h1, h2, _⟩ | ⟨h1, h2, _⟩ | ⟨g, vn, vr, rows, bss, h1, h2, _⟩
    · exact ⟨_, _, h1, .inl ⟨rfl, rfl, by rw [h2]⟩⟩
    · exact ⟨_, _, h1, .inr (.inl ⟨rfl, rfl, by rw [h2]⟩)⟩
    · exact ⟨_, _, h1, .inr (.inr ⟨rfl, ⟨g, rfl⟩, by rw [h2]⟩)⟩
/-- A block filled from its beginning is a row of one's own. -/
theorem own_of_blk {w : World} {B g N : Nat} {e : TypeId} {cs : List Value} (h : Blk w g cs.toArray e) (hN : cs.length = N) (hB : B ≤ g) (hm : N ≤ maxLen) : w.ownsRow B e 1 (.slice (some ⟨g, 0, none⟩) N N) N cs :=
  ⟨by rw [hN, Nat.mul_one], .inr ⟨g, N, cs.toArray, rfl, hB, h, Nat.le_refl _, hm, by simp [hN], by rw [Nat.mul_one, ← hN]; simp⟩⟩
end Go.Proofs.Ytlmkgbdcpphofaa

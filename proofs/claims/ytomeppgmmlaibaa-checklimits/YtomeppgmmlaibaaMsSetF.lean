/- One field of a message that a call has made is written. -/
import Derived.Test.YtomeppgmmlaibaaMsOwn
import Derived.Test.YtomeppgmmlaibaaCkSpoil
namespace Go.Proofs.Ytomeppgmmlaibaa
open Go.ChangeShapes Go.WideShapes Go.ChangeAt Go.RowKit
set_option linter.unusedVariables false
set_option linter.unusedSimpArgs false
set_option maxRecDepth 20000

theorem flat_set {size : Nat} : ∀ (rs : List (List Value)), (∀ r ∈ rs, r.length = size) → ∀ (j : Nat) (r : List Value), rs[j]? = some r → ∀ (c : Nat) (u : Value), c < size → rs.flatten.set (j * size + c) u = (rs.set j (r.set c u)).flatten
  | [], _, j, r, h, _, _, _ => by simp at h
  | x :: l, hl, 0, r, h, c, u, hc => by
    obtain rfl : x = r := by simpa using h
    have hx := hl x (List.mem_cons_self ..)
    rw [List.flatten_cons, Nat.zero_mul, Nat.zero_add, List.set_append_left _ _ (by omega), List.set_cons_zero, List.flatten_cons]
  | x :: l, hl, j + 1, r, h, c, u, hc => by
    have hx := hl x (List.mem_cons_self ..)
    have ih := flat_set l (fun r hr => hl r (List.mem_cons_of_mem _ hr)) j r (by simpa using h) c u hc
    rw [List.flatten_cons, List.set_append_right _ _ (by rw [hx, Nat.add_mul]; omega), List.set_cons_succ, List.flatten_cons, ← ih]
    congr 2
    rw [hx, Nat.add_mul]; omega
/-- A cell of a field. -/
theorem fl_put {fs : List FlS} {j : Nat} {f f' : FlS} (h : fs[j]? = some f) {c : Nat} {u : Value} (hc : c < 5) (hf : f.cells.set c u = f'.cells) : (flRows fs).flatten.set (j * 5 + c) u = (flRows (fs.set j f')).flatten := by
  rw [flat_set (flRows fs) (fl_len fs) j f.cells (fl_get h) c u hc, hf]
  unfold flRows
  rw [List.map_set]
theorem MsO.setF {w w1 : World} {B : Nat} {v : Value} {ms : List MsS} {ps : List (Value × Value)} (h : MsO w B v ms ps) {i j : Nat} {m : MsS} {p : Value × Value} {f' : FlS} (hm : ms[i]? = some m) (hp : ps[i]? = some p)
    (ho : w1.ownsRow B 52 5 p.1 m.fields.length (flRows (m.fields.set j f')).flatten) (hk : Kp (fun k => p.1.ownBlock = some k) w w1) : MsO w1 B v (ms.set i (putF m j f')) ps := by
  have hpf := (h.each i m p hm hp).1
  have hi := (List.getElem?_eq_some_iff.1 hm).1
  refine ⟨by rw [List.length_set]; exact h.len, ?_, ?_, h.apart⟩
  · have hrows : msRows (ms.set i (putF m j f')) ps = msRows ms ps := by
      unfold msRows
      apply List.ext_getElem?
      intro k
      rw [List.getElem?_zipWith, List.getElem?_zipWith, List.getElem?_set]
      by_cases hk : i = k
      · subst hk
        rw [if_pos rfl, if_pos hi, hm, hp]
        rfl
      · rw [if_neg hk]
    rw [hrows, List.length_set]
    exact own_kpV h.own hk (fun k hv hq => own_apart hpf h.own (by decide) k hq hv)
  · intro k m' p' hm' hp'
    rw [List.getElem?_set] at hm'
    by_cases hik : i = k
    · subst hik
      rw [if_pos rfl, if_pos hi] at hm'
      cases hm'
      rw [hp] at hp'
      cases hp'
      refine ⟨?_, ?_⟩
      · show w1.ownsRow B _ 5 p.1 (m.fields.set j f').length (flRows (m.fields.set j f')).flatten
        rw [List.length_set]; exact ho
      · exact own_kpV (h.each i m p hm hp).2 hk (fun k hv hq => own_apart hpf (h.each i m p hm hp).2 (by decide) k hq hv)
    · rw [if_neg hik] at hm'
      refine ⟨own_kpV (h.each k m' p' hm' hp').1 hk (fun q hv hq => hik (h.apart i k p p' q hp hp' hq hv)), own_kpV (h.each k m' p' hm' hp').2 hk (fun q hv hq => own_apart hpf (h.each k m' p' hm' hp').2 (by decide) q hq hv)⟩
theorem MsO.addr {w : World} {B : Nat} {v : Value} {ms : List MsS} {ps : List (Value × Value)} (h : MsO w B v ms ps) (hn : 0 < ms.length) : ∃ q cap, v = .slice (some ⟨q, 0, none⟩) ms.length cap ∧ ms.length ≤ cap ∧ cap ≤ 9223372036854775807 ∧
    ∀ (i : Nat) (m : MsS) (p : Value × Value), ms[i]? = some m → ps[i]? = some p → w.cell? ⟨q, i * 3, none⟩ = some (.string m.name) ∧ w.cell? ⟨q, i * 3 + 1, none⟩ = some p.1 ∧ w.cell? ⟨q, i * 3 + 2, none⟩ = some p.2 := by
  obtain ⟨q, cap, rfl, h1, h2, _⟩ := own_addr h.own hn
  refine ⟨q, cap, rfl, h1, by unfold maxLen at h2; omega, fun i m p hm hp => ?_⟩
  have ho := h.own
  exact ⟨own_at (ms_len ms ps) ho (ms_get hm hp) (j := 0) rfl, own_at (ms_len ms ps) ho (ms_get hm hp) (j := 1) rfl, own_at (ms_len ms ps) ho (ms_get hm hp) (j := 2) rfl⟩
end Go.Proofs.Ytomeppgmmlaibaa

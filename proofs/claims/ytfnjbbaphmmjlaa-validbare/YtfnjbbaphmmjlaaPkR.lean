/- What the statements' own Ints answers: a row in new memory. -/
import Derived.Test.YtfnjbbaphmmjlaaPkF
import Derived.Test.YtfnjbbaphmmjlaaPkB
import Derived.Test.YtfnjbbaphmmjlaaPkA
namespace Go.Proofs.Ytfnjbbaphmmjlaa
open Go.ChangeShapes Go.WideShapes Go.ChangeAt Go.RowKit
set_option linter.unusedVariables false
set_option linter.unusedSimpArgs false
set_option maxRecDepth 20000

set_option maxHeartbeats 1000000 in
theorem ints_any {w : World} {v : Value} {fs : List Int} (hr : RowG w v 1 (inRows fs)) (hl : fs.length ≤ 100) :
    Calls Try.prog 24 #[v] w fun e w' => ∃ r, e = .returned r ∧ w'.ownsRow w.heap.size 3 1 r fs.length (inRows fs).flatten ∧ Below w.heap.size w w' := by
  have hN : (inRows fs).length = fs.length := by simp [inRows]
  have HN : Hid ((inRows fs).length = fs.length) := hN
  have HR : Hid (RowG w v 1 (inRows fs)) := hr
  have HL : Hid (fs.length ≤ 100) := hl
  clear hr hN hl
  go_enter Try.func24, Try.ntmps24
  go_wp2_with (first
    | (at_builtin; refine wpList_joinG rfl _ _ 45 3 1 8 _ rfl Try.underlying45 infoIn rfl (by decide) w.heap.size (.slice none 0 0) 0 [] rfl (World.ownsRow_nil _ _ _ _) v (inRows fs) rfl HR.out (inr_len fs) (inr_one fs) ?c1 (by decide) (Nat.le_refl _) ?_)
    | fail)
  case c1 => have h1 := HN.out; have h2 := HL.out; omega
  intro r w1 ho hg
  have hb : Below w.heap.size w w1 := (Below.refl _ _).grown hg (Nat.le_refl _) (fun k hk => by cases hk)
  have HO : Hid (w1.ownsRow w.heap.size 3 1 r fs.length (inRows fs).flatten) := by
    show World.ownsRow _ _ _ _ _ _ _
    rw [HN.out] at ho
    exact ho
  clear hg ho
  go_wp2_with fail
  go_ret
  exact ⟨_, rfl, HO.out, hb⟩
end Go.Proofs.Ytfnjbbaphmmjlaa

/- Messages and enumerations that a call has made: their rows, owned and apart. -/
namespace Go.Proofs.Ytfnjbbaphmmjlaa
open Go.ChangeShapes Go.WideShapes Go.ChangeAt Go.RowKit
set_option linter.unusedVariables false
set_option linter.unusedSimpArgs false
set_option maxRecDepth 20000

/-- Two rows of other elements lie in other blocks. -/
theorem own_apart {w : World} {B B' : Nat} {e e' : TypeId} {s s' : Nat} {v v' : Value} {n n' : Nat} {xs xs' : List Value} (h : w.ownsRow B e s v n xs) (h' : w.ownsRow B' e' s' v' n' xs') (hne : e ≠ e') : ∀ k, v.ownBlock = some k → ¬ v'.ownBlock = some k := by
  intro k hk hk'
  rcases h.2 with ⟨rfl, _⟩ | ⟨q, cap, cur, rfl, _, hb, _⟩
  · cases hk
  · rcases h'.2 with ⟨rfl, _⟩ | ⟨q', cap', cur', rfl, _, hb', _⟩
    · cases hk'
    · simp only [Value.ownBlock, Option.some.injEq] at hk hk'
      subst hk
      subst hk'
      rw [hb] at hb'
      simp only [Option.some.injEq, Obj.cells.injEq] at hb'
      exact hne hb'.2.1
def msRows (ms : List MsS) (ps : List (Value × Value)) : List (List Value) := List.zipWith (fun m p => [.string m.name, p.1, p.2]) ms ps
def enRows (es : List EnS) (ps : List Value) : List (List Value) := List.zipWith (fun m p => [.string m.name, p]) es ps
structure MsO (w : World) (B : Nat) (v : Value) (ms : List MsS) (ps : List (Value × Value)) : Prop where
  len : ps.length = ms.length
  own : w.ownsRow B 47 3 v ms.length (msRows ms ps).flatten
  each : ∀ (i : Nat) (m : MsS) (p : Value × Value), ms[i]? = some m → ps[i]? = some p → w.ownsRow B 49 5 p.1 m.fields.length (flRows m.fields).flatten ∧ w.ownsRow B 3 1 p.2 m.reserved.length (inRows m.reserved).flatten
  apart : ∀ (i j : Nat) (p q : Value × Value) (k : Nat), ps[i]? = some p → ps[j]? = some q → p.1.ownBlock = some k → q.1.ownBlock = some k → i = j
structure EnO (w : World) (B : Nat) (v : Value) (es : List EnS) (ps : List Value) : Prop where
  len : ps.length = es.length
  own : w.ownsRow B 52 2 v es.length (enRows es ps).flatten
  each : ∀ (i : Nat) (e : EnS) (p : Value), es[i]? = some e → ps[i]? = some p → w.ownsRow B 54 2 p e.values.length (nmRows e.values).flatten
theorem MsO.nil (w : World) (B : Nat) : MsO w B (.slice none 0 0) [] [] := ⟨rfl, World.ownsRow_nil _ _ _ _, fun i m p h => by simp at h, fun i j p q k h => by simp at h⟩
theorem EnO.nil (w : World) (B : Nat) : EnO w B (.slice none 0 0) [] [] := ⟨rfl, World.ownsRow_nil _ _ _ _, fun i m p h => by simp at h⟩
theorem MsO.kp {S : Nat → Prop} {w w1 : World} {B : Nat} {v : Value} {ms : List MsS} {ps : List (Value × Value)} (h : MsO w B v ms ps) (hk : Kp S w w1) (hs : ∀ k, B ≤ k → ¬ S k) : MsO w1 B v ms ps :=
  ⟨h.len, own_kp h.own hk hs, fun i m p hm hp => ⟨own_kp (h.each i m p hm hp).1 hk hs, own_kp (h.each i m p hm hp).2 hk hs⟩, h.apart⟩
theorem EnO.kp {S : Nat → Prop} {w w1 : World} {B : Nat} {v : Value} {ms : List EnS} {ps : List Value} (h : EnO w B v ms ps) (hk : Kp S w w1) (hs : ∀ k, B ≤ k → ¬ S k) : EnO w1 B v ms ps :=
  ⟨h.len, own_kp h.own hk hs, fun i m p hm hp => own_kp (h.each i m p hm hp) hk hs⟩
/-- Kept while another row, of another type, is written. -/
theorem MsO.beside {w w1 : World} {B B' : Nat} {v u : Value} {ms : List MsS} {ps : List (Value × Value)} {e : TypeId} {s n : Nat} {xs : List Value} (h : MsO w B v ms ps) (hu : w.ownsRow B' e s u n xs) (h1 : e ≠ 47) (h2 : e ≠ 49) (h3 : e ≠ 3) (hk : Kp (fun k => u.ownBlock = some k) w w1) : MsO w1 B v ms ps :=
  ⟨h.len, own_kpV h.own hk (fun k hk hu' => own_apart hu h.own h1 k hu' hk), fun i m p hm hp => ⟨own_kpV (h.each i m p hm hp).1 hk (fun k hk hu' => own_apart hu (h.each i m p hm hp).1 h2 k hu' hk), own_kpV (h.each i m p hm hp).2 hk (fun k hk hu' => own_apart hu (h.each i m p hm hp).2 h3 k hu' hk)⟩, h.apart⟩
theorem EnO.beside {w w1 : World} {B B' : Nat} {v u : Value} {ms : List EnS} {ps : List Value} {e : TypeId} {s n : Nat} {xs : List Value} (h : EnO w B v ms ps) (hu : w.ownsRow B' e s u n xs) (h1 : e ≠ 52) (h2 : e ≠ 54) (hk : Kp (fun k => u.ownBlock = some k) w w1) : EnO w1 B v ms ps :=
  ⟨h.len, own_kpV h.own hk (fun k hk hu' => own_apart hu h.own h1 k hu' hk), fun i m p hm hp => own_kpV (h.each i m p hm hp) hk (fun k hk hu' => own_apart hu (h.each i m p hm hp) h2 k hu' hk)⟩
theorem get_snoc {α : Type} {l : List α} {x y : α} {i : Nat} (h : (l ++ [x])[i]? = some y) : (i < l.length ∧ l[i]? = some y) ∨ (i = l.length ∧ y = x) := by
  rcases Nat.lt_or_ge i l.length with hi | hi
  · rw [List.getElem?_append_left hi] at h; exact .inl ⟨hi, h⟩
  · rw [List.getElem?_append_right hi] at h
    have : i - l.length = 0 := by
      rcases Nat.eq_zero_or_pos (i - l.length) with e | e
      · exact e
      · have : [x].length ≤ i - l.length := by simp; omega
        rw [List.getElem?_eq_none this] at h; cases h
    rw [this] at h
    simp at h
    exact .inr ⟨by omega, h.symm⟩
theorem ms_snoc {ms : List MsS} {ps : List (Value × Value)} (hl : ps.length = ms.length) (m : MsS) (p : Value × Value) : (msRows (ms ++ [m]) (ps ++ [p])).flatten = (msRows ms ps).flatten ++ [.string m.name, p.1, p.2] := by
  unfold msRows
  rw [List.zipWith_append hl.symm]
  simp
theorem en_snoc {ms : List EnS} {ps : List Value} (hl : ps.length = ms.length) (m : EnS) (p : Value) : (enRows (ms ++ [m]) (ps ++ [p])).flatten = (enRows ms ps).flatten ++ [.string m.name, p] := by
  unfold enRows
  rw [List.zipWith_append hl.symm]
  simp
/-- One more message: its rows are of new blocks. -/
theorem MsO.snoc {w w1 : World} {B H : Nat} {v v' vf vr : Value} {ms : List MsS} {ps : List (Value × Value)} {m : MsS} (h : MsO w B v ms ps) (hH : ∀ (i : Nat) (p : Value × Value) (k : Nat), ps[i]? = some p → p.1.ownBlock = some k → k < H) (hBH : B ≤ H) (hf : w.ownsRow H 49 5 vf m.fields.length (flRows m.fields).flatten) (hr : w.ownsRow H 3 1 vr m.reserved.length (inRows m.reserved).flatten)
    (ho : w1.ownsRow B 47 3 v' (ms.length + 1) ((msRows ms ps).flatten ++ [.string m.name, vf, vr])) (hk : Kp (fun k => v.ownBlock = some k) w w1) : MsO w1 B v' (ms ++ [m]) (ps ++ [(vf, vr)]) := by
  have kf : ∀ {B' : Nat} {u : Value} {n : Nat} {xs : List Value}, w.ownsRow B' 49 5 u n xs → w1.ownsRow B' 49 5 u n xs := fun hu => own_kpV hu hk (fun k hk hv => own_apart h.own hu (by decide) k hv hk)
  have kr : ∀ {B' : Nat} {u : Value} {n : Nat} {xs : List Value}, w.ownsRow B' 3 1 u n xs → w1.ownsRow B' 3 1 u n xs := fun hu => own_kpV hu hk (fun k hk hv => own_apart h.own hu (by decide) k hv hk)
  refine ⟨by simp [h.len], ?_, ?_, ?_⟩
  · rw [ms_snoc h.len, List.length_append]; exact ho
  · intro i m' p hm hp
    rcases get_snoc hm with ⟨hi, hm⟩ | ⟨hi, rfl⟩
    · rcases get_snoc hp with ⟨_, hp⟩ | ⟨hi', _⟩
      · exact ⟨kf (h.each i m' p hm hp).1, kr (h.each i m' p hm hp).2⟩
      · have := h.len; omega
    · rcases get_snoc hp with ⟨hi', _⟩ | ⟨_, rfl⟩
      · have := h.len; omega
      · exact ⟨own_base (kf hf) hBH, own_base (kr hr) hBH⟩
  · intro i j p q k hp hq hpk hqk
    rcases get_snoc hp with ⟨hi, hp⟩ | ⟨hi, rfl⟩
    · rcases get_snoc hq with ⟨hj, hq⟩ | ⟨hj, rfl⟩
      · exact h.apart i j p q k hp hq hpk hqk
      · have a1 := hH i p k hp hpk
        have a2 := (hf.lt k hqk).1
        omega
    · rcases get_snoc hq with ⟨hj, hq⟩ | ⟨hj, rfl⟩
      · have a1 := hH j q k hq hqk
        have a2 := (hf.lt k hpk).1
        omega
      · omega
theorem EnO.snoc {w w1 : World} {B H : Nat} {v v' vv : Value} {ms : List EnS} {ps : List Value} {m : EnS} (h : EnO w B v ms ps) (hBH : B ≤ H) (hf : w.ownsRow H 54 2 vv m.values.length (nmRows m.values).flatten)
    (ho : w1.ownsRow B 52 2 v' (ms.length + 1) ((enRows ms ps).flatten ++ [.string m.name, vv])) (hk : Kp (fun k => v.ownBlock = some k) w w1) : EnO w1 B v' (ms ++ [m]) (ps ++ [vv]) := by
  have kf : ∀ {B' : Nat} {u : Value} {n : Nat} {xs : List Value}, w.ownsRow B' 54 2 u n xs → w1.ownsRow B' 54 2 u n xs := fun hu => own_kpV hu hk (fun k hk hv => own_apart h.own hu (by decide) k hv hk)
  refine ⟨by simp [h.len], ?_, ?_⟩
  · rw [en_snoc h.len, List.length_append]; exact ho
  · intro i m' p hm hp
    rcases get_snoc hm with ⟨hi, hm⟩ | ⟨hi, rfl⟩
    · rcases get_snoc hp with ⟨_, hp⟩ | ⟨hi', _⟩
      · exact kf (h.each i m' p hm hp)
      · have := h.len; omega
    · rcases get_snoc hp with ⟨hi', _⟩ | ⟨_, rfl⟩
      · have := h.len; omega
      · exact own_base (kf hf) hBH
/-- Where the fields' blocks lie. -/
theorem MsO.high {w : World} {B : Nat} {v : Value} {ms : List MsS} {ps : List (Value × Value)} (h : MsO w B v ms ps) : ∀ (i : Nat) (p : Value × Value) (k : Nat), ps[i]? = some p → p.1.ownBlock = some k → k < w.heap.size := by
  intro i p k hp hk
  have hi : i < ms.length := by rw [← h.len]; exact (List.getElem?_eq_some_iff.1 hp).1
  exact ((h.each i _ p (List.getElem?_eq_getElem hi) hp).1.lt k hk).2
theorem infoM : (Try.prog.info? 47).map (fun i => (i.zero, i.size, i.bytes)) = some (some (.agg #[.string ⟨#[]⟩, .slice none 0 0, .slice none 0 0]), 3, 64) := by kernel_rfl
theorem infoE : (Try.prog.info? 52).map (fun i => (i.zero, i.size, i.bytes)) = some (some (.agg #[.string ⟨#[]⟩, .slice none 0 0]), 2, 40) := by kernel_rfl
theorem infoT : (Try.prog.info? 56).map (fun i => (i.zero, i.size, i.bytes)) = some (some (.agg #[.string ⟨#[]⟩, .string ⟨#[]⟩, .string ⟨#[]⟩]), 3, 48) := by kernel_rfl
theorem mt_snoc (acc : List MtS) (f : MtS) : (mtRows (acc ++ [f])).flatten = (mtRows acc).flatten ++ [.string f.name, .string f.inn, .string f.out] := by simp [mtRows, MtS.cells]
/-- A row's cells, by the element. -/
theorem own_at {w : World} {B e size q n cap : Nat} {rs : List (List Value)} (hl : ∀ r ∈ rs, r.length = size) (h : w.ownsRow B e size (.slice (some ⟨q, 0, none⟩) n cap) n rs.flatten) {i : Nat} {c : List Value} (hc : rs[i]? = some c) {j : Nat} {u : Value} (hu : c[j]? = some u) : w.cell? ⟨q, i * size + j, none⟩ = some u := by
  have := h.cells (g := q) rfl (i * size + j) u (flat_get rs hl i c hc j u hu)
  rw [Addr.add_lit, Nat.zero_add] at this
  exact this
theorem own_froz {w : World} {B e size q n cap : Nat} {xs : List Value} (h : w.ownsRow B e size (.slice (some ⟨q, 0, none⟩) n cap) n xs) (i : Nat) : w.frozen? ⟨q, i, none⟩ = false := by
  rcases h.2 with ⟨h, _⟩ | ⟨q', cap', cur, h1, h2, h3, _⟩
  · cases h
  · simp only [Value.slice.injEq, Option.some.injEq, Addr.mk.injEq] at h1
    obtain ⟨⟨rfl, _⟩, _⟩ := h1
    exact block_froz h3 i
theorem own_addr {w : World} {B e size n : Nat} {v : Value} {xs : List Value} (h : w.ownsRow B e size v n xs) (hn : 0 < n) : ∃ q cap, v = .slice (some ⟨q, 0, none⟩) n cap ∧ n ≤ cap ∧ cap ≤ maxLen ∧ B ≤ q ∧ q < w.heap.size := by
  rcases h.2 with ⟨_, h⟩ | ⟨q', cap', cur, h1, h2, h3, h4, h5, _⟩
  · omega
  · exact ⟨q', cap', h1, h4, h5, h2, (Array.getElem?_eq_some_iff.1 h3).1⟩
/-- A cell of a row of one's own is written. -/
theorem own_set {w : World} {B e size q n cap : Nat} {xs : List Value} (h : w.ownsRow B e size (.slice (some ⟨q, 0, none⟩) n cap) n xs) {j : Nat} (u : Value) : (w.setCell ⟨q, j, none⟩ u).ownsRow B e size (.slice (some ⟨q, 0, none⟩) n cap) n (xs.set j u) := by
  refine ⟨by rw [List.length_set]; exact h.1, ?_⟩
  rcases h.2 with ⟨h, _⟩ | ⟨q', cap', cur, h1, h2, h3, h4, h5, h6, h7⟩
  · cases h
  · simp only [Value.slice.injEq, Option.some.injEq, Addr.mk.injEq] at h1
    obtain ⟨⟨rfl, _⟩, _, rfl⟩ := h1
    refine .inr ⟨q, cap, cur.setIfInBounds j u, rfl, h2, block_set h3 j u, h4, h5, by simpa using h6, ?_⟩
    rw [Array.toList_setIfInBounds, List.take_set, h7]
theorem fl_len (fs : List FlS) : ∀ r ∈ flRows fs, r.length = 5 := by intro r hr; simp only [flRows, List.mem_map] at hr; obtain ⟨f, _, rfl⟩ := hr; rfl
theorem en_len (es : List EnS) (ps : List Value) : ∀ r ∈ enRows es ps, r.length = 2 := by
  intro r hr
  unfold enRows at hr
  rw [List.mem_iff_getElem?] at hr
  obtain ⟨i, hi⟩ := hr
  rw [List.getElem?_zipWith] at hi
  split at hi <;> simp at hi
  rw [← hi]; rfl
theorem ms_len (es : List MsS) (ps : List (Value × Value)) : ∀ r ∈ msRows es ps, r.length = 3 := by
  intro r hr
  unfold msRows at hr
  rw [List.mem_iff_getElem?] at hr
  obtain ⟨i, hi⟩ := hr
  rw [List.getElem?_zipWith] at hi
  split at hi <;> simp at hi
  rw [← hi]; rfl
theorem en_get {es : List EnS} {ps : List Value} {i : Nat} {e : EnS} {p : Value} (he : es[i]? = some e) (hp : ps[i]? = some p) : (enRows es ps)[i]? = some [.string e.name, p] := by
  unfold enRows
  rw [List.getElem?_zipWith, he, hp]
theorem ms_get {es : List MsS} {ps : List (Value × Value)} {i : Nat} {e : MsS} {p : Value × Value} (he : es[i]? = some e) (hp : ps[i]? = some p) : (msRows es ps)[i]? = some [.string e.name, p.1, p.2] := by
  unfold msRows
  rw [List.getElem?_zipWith, he, hp]
theorem fl_get {fs : List FlS} {i : Nat} {f : FlS} (h : fs[i]? = some f) : (flRows fs)[i]? = some f.cells := by simp [flRows, h]
theorem MsO.below {w w1 : World} {B : Nat} {v : Value} {ms : List MsS} {ps : List (Value × Value)} (h : MsO w B v ms ps) (hk : Below w.heap.size w w1) : MsO w1 B v ms ps :=
  ⟨h.len, own_below h.own hk, fun i m p hm hp => ⟨own_below (h.each i m p hm hp).1 hk, own_below (h.each i m p hm hp).2 hk⟩, h.apart⟩
theorem EnO.below {w w1 : World} {B : Nat} {v : Value} {ms : List EnS} {ps : List Value} (h : EnO w B v ms ps) (hk : Below w.heap.size w w1) : EnO w1 B v ms ps :=
  ⟨h.len, own_below h.own hk, fun i m p hm hp => own_below (h.each i m p hm hp) hk⟩
theorem own_le {w : World} {B : Nat} {e : TypeId} {s : Nat} {v : Value} {n : Nat} {xs : List Value} (h : w.ownsRow B e s v n xs) : n ≤ 9223372036854775807 := by
  rcases h.2 with ⟨rfl, rfl⟩ | ⟨q, cap, cur, rfl, _, _, h4, h5, _⟩
  · omega
  · unfold maxLen at h5; omega
theorem MsO.to_in {w : World} {B : Nat} {v : Value} {ms : List MsS} {ps : List (Value × Value)} (h : MsO w B v ms ps) : MsIn w v ms := by
  obtain ⟨h1, h2⟩ := RowG.own (ms_len ms ps) (by decide) h.own
  refine ⟨msRows ms ps, h1, h2.symm, fun i m hm => ?_⟩
  have hi := (List.getElem?_eq_some_iff.1 hm).1
  obtain ⟨p, hp⟩ : ∃ p, ps[i]? = some p := ⟨_, List.getElem?_eq_getElem (by rw [h.len]; exact hi)⟩
  exact ⟨p.1, p.2, ms_get hm hp, (RowG.own (fl_len m.fields) (by decide) (h.each i m p hm hp).1).1, (RowG.own (fun r hr => by simp only [inRows, List.mem_map] at hr; obtain ⟨_, _, rfl⟩ := hr; rfl) (by decide) (h.each i m p hm hp).2).1⟩
theorem EnO.to_in {w : World} {B : Nat} {v : Value} {ms : List EnS} {ps : List Value} (h : EnO w B v ms ps) : EnIn w v ms := by
  obtain ⟨h1, h2⟩ := RowG.own (en_len ms ps) (by decide) h.own
  refine ⟨enRows ms ps, h1, h2.symm, fun i m hm => ?_⟩
  have hi := (List.getElem?_eq_some_iff.1 hm).1
  obtain ⟨p, hp⟩ : ∃ p, ps[i]? = some p := ⟨_, List.getElem?_eq_getElem (by rw [h.len]; exact hi)⟩
  exact ⟨p, en_get hm hp, (RowG.own (fun r hr => by simp only [nmRows, List.mem_map] at hr; obtain ⟨_, _, rfl⟩ := hr; rfl) (by decide) (h.each i m p hm hp)).1⟩
theorem mt_in {w : World} {B : Nat} {v : Value} {ms : List MtS} (h : w.ownsRow B 56 3 v ms.length (mtRows ms).flatten) : RowG w v 3 (mtRows ms) :=
  (RowG.own (fun r hr => by simp only [mtRows, List.mem_map] at hr; obtain ⟨_, _, rfl⟩ := hr; rfl) (by decide) h).1
theorem own_type {w : World} {B : Nat} {e : TypeId} {sz : Nat} {v : Value} {n : Nat} {xs : List Value} {k : Nat} {cs : Array Value} {t : TypeId} (h : w.ownsRow B e sz v n xs) (hk : v.ownBlock = some k) (hb : Blk w k cs t) : e = t := by
  rcases h.2 with ⟨rfl, _⟩ | ⟨q, cap, cur, rfl, _, hq, _⟩
  · cases hk
  · simp only [Value.ownBlock, Option.some.injEq] at hk
    subst hk
    unfold Blk at hb
    rw [hq] at hb
    simp only [Option.some.injEq, Obj.cells.injEq] at hb
    exact hb.2.1
/-- Kept while a block of another type is written. -/
theorem own_blk {w w1 : World} {B : Nat} {e : TypeId} {sz n b : Nat} {v : Value} {xs : List Value} {cs : Array Value} {t : TypeId} (h : w.ownsRow B e sz v n xs) (hb : Blk w b cs t) (ht : e ≠ t) (hk : Kp (fun k => k = b) w w1) : w1.ownsRow B e sz v n xs :=
  own_kpV h hk (fun k hv e' => by subst e'; exact ht (own_type h hv hb))
theorem MsO.base {w : World} {B B' : Nat} {v : Value} {ms : List MsS} {ps : List (Value × Value)} (h : MsO w B v ms ps) (hb : B' ≤ B) : MsO w B' v ms ps :=
  ⟨h.len, own_base h.own hb, fun i m p hm hp => ⟨own_base (h.each i m p hm hp).1 hb, own_base (h.each i m p hm hp).2 hb⟩, h.apart⟩
theorem EnO.base {w : World} {B B' : Nat} {v : Value} {ms : List EnS} {ps : List Value} (h : EnO w B v ms ps) (hb : B' ≤ B) : EnO w B' v ms ps :=
  ⟨h.len, own_base h.own hb, fun i m p hm hp => own_base (h.each i m p hm hp) hb⟩
end Go.Proofs.Ytfnjbbaphmmjlaa

/- Rows of one's own that lie in blocks of their own, one by one. -/
namespace Go.Proofs.Ytfnjbbaphmmjlaa
open Go.ChangeShapes Go.WideShapes Go.ChangeAt Go.RowKit
set_option linter.unusedVariables false
set_option linter.unusedSimpArgs false

/-- The reserved numbers' rows are apart. -/
def ApR (ps : List (Value × Value)) : Prop := ∀ (i j : Nat) (p q : Value × Value) (k : Nat), ps[i]? = some p → ps[j]? = some q → p.2.ownBlock = some k → q.2.ownBlock = some k → i = j
/-- The values' rows are apart. -/
def ApE (ps : List Value) : Prop := ∀ (i j : Nat) (p q : Value) (k : Nat), ps[i]? = some p → ps[j]? = some q → p.ownBlock = some k → q.ownBlock = some k → i = j
theorem ApR.nil : ApR [] := fun i j p q k hp => by simp at hp
theorem ApE.nil : ApE [] := fun i j p q k hp => by simp at hp
theorem ApR.snoc {ps : List (Value × Value)} {vf vr : Value} {H : Nat} (h : ApR ps) (hH : ∀ (i : Nat) (p : Value × Value) (k : Nat), ps[i]? = some p → p.2.ownBlock = some k → k < H) (hr : ∀ k, vr.ownBlock = some k → H ≤ k) : ApR (ps ++ [(vf, vr)]) := by
  intro i j p q k hp hq hpk hqk
  rcases get_snoc hp with ⟨hi, hp⟩ | ⟨hi, rfl⟩
  · rcases get_snoc hq with ⟨hj, hq⟩ | ⟨hj, rfl⟩
    · exact h i j p q k hp hq hpk hqk
    · have a1 := hH i p k hp hpk
      have a2 := hr k hqk
      omega
  · rcases get_snoc hq with ⟨hj, hq⟩ | ⟨hj, rfl⟩
    · have a1 := hH j q k hq hqk
      have a2 := hr k hpk
      omega
    · omega
theorem ApE.snoc {ps : List Value} {vr : Value} {H : Nat} (h : ApE ps) (hH : ∀ (i : Nat) (p : Value) (k : Nat), ps[i]? = some p → p.ownBlock = some k → k < H) (hr : ∀ k, vr.ownBlock = some k → H ≤ k) : ApE (ps ++ [vr]) := by
  intro i j p q k hp hq hpk hqk
  rcases get_snoc hp with ⟨hi, hp1⟩ | ⟨hi, ep⟩
  · rcases get_snoc hq with ⟨hj, hq1⟩ | ⟨hj, eq⟩
    · exact h i j p q k hp1 hq1 hpk hqk
    · have a1 := hH i p k hp1 hpk
      rw [eq] at hqk
      have a2 := hr k hqk
      omega
  · rcases get_snoc hq with ⟨hj, hq1⟩ | ⟨hj, eq⟩
    · have a1 := hH j q k hq1 hqk
      rw [ep] at hpk
      have a2 := hr k hpk
      omega
    · omega
theorem MsO.highR {w : World} {B : Nat} {v : Value} {ms : List MsS} {ps : List (Value × Value)} (h : MsO w B v ms ps) : ∀ (i : Nat) (p : Value × Value) (k : Nat), ps[i]? = some p → p.2.ownBlock = some k → k < w.heap.size := by
  intro i p k hp hk
  have hi : i < ms.length := by rw [← h.len]; exact (List.getElem?_eq_some_iff.1 hp).1
  exact ((h.each i _ p (List.getElem?_eq_getElem hi) hp).2.lt k hk).2
theorem EnO.highE {w : World} {B : Nat} {v : Value} {ms : List EnS} {ps : List Value} (h : EnO w B v ms ps) : ∀ (i : Nat) (p : Value) (k : Nat), ps[i]? = some p → p.ownBlock = some k → k < w.heap.size := by
  intro i p k hp hk
  have hi : i < ms.length := by rw [← h.len]; exact (List.getElem?_eq_some_iff.1 hp).1
  exact ((h.each i _ p (List.getElem?_eq_getElem hi) hp).lt k hk).2
/-- A message's fields are laid anew in their row. -/
theorem MsO.putF {w w1 : World} {B : Nat} {v : Value} {ms : List MsS} {ps : List (Value × Value)} {i : Nat} {m : MsS} {p : Value × Value} {fs : List FlS} (h : MsO w B v ms ps) (hm : ms[i]? = some m) (hp : ps[i]? = some p)
    (ho : w1.ownsRow B 49 5 p.1 fs.length (flRows fs).flatten) (hk : Kp (fun b => p.1.ownBlock = some b) w w1) : MsO w1 B v (ms.set i ⟨m.name, fs, m.reserved⟩) ps := by
  have hi := (List.getElem?_eq_some_iff.1 hm).1
  have hf := (h.each i m p hm hp).1
  refine ⟨by rw [List.length_set]; exact h.len, ?_, ?_, h.apart⟩
  · have e : msRows (ms.set i ⟨m.name, fs, m.reserved⟩) ps = msRows ms ps := by
      apply List.ext_getElem?
      intro j
      unfold msRows
      rw [List.getElem?_zipWith, List.getElem?_zipWith]
      by_cases hj : i = j
      · subst hj
        rw [List.getElem?_set_self hi, hm, hp]
      · rw [List.getElem?_set_ne hj]
    rw [e, List.length_set]
    exact own_kpV h.own hk (fun b hb e => own_apart h.own hf (by decide) b hb e)
  · intro j m' p' hm' hp'
    by_cases hj : i = j
    · subst hj
      rw [List.getElem?_set_self hi] at hm'
      cases hm'
      rw [hp] at hp'
      cases hp'
      refine ⟨ho, own_kpV (h.each i m p hm hp).2 hk (fun b hb e => own_apart hf (h.each i m p hm hp).2 (by decide) b e hb)⟩
    · rw [List.getElem?_set_ne hj] at hm'
      have g := h.each j m' p' hm' hp'
      exact ⟨own_kpV g.1 hk (fun b hb e => hj (h.apart i j p p' b hp hp' e hb)), own_kpV g.2 hk (fun b hb e => own_apart hf g.2 (by decide) b e hb)⟩
theorem MsO.putR {w w1 : World} {B : Nat} {v : Value} {ms : List MsS} {ps : List (Value × Value)} {i : Nat} {m : MsS} {p : Value × Value} {rs : List Int} (h : MsO w B v ms ps) (ha : ApR ps) (hm : ms[i]? = some m) (hp : ps[i]? = some p)
    (ho : w1.ownsRow B 3 1 p.2 rs.length (inRows rs).flatten) (hk : Kp (fun b => p.2.ownBlock = some b) w w1) : MsO w1 B v (ms.set i ⟨m.name, m.fields, rs⟩) ps := by
  have hi := (List.getElem?_eq_some_iff.1 hm).1
  have hf := (h.each i m p hm hp).2
  refine ⟨by rw [List.length_set]; exact h.len, ?_, ?_, h.apart⟩
  · have e : msRows (ms.set i ⟨m.name, m.fields, rs⟩) ps = msRows ms ps := by
      apply List.ext_getElem?
      intro j
      unfold msRows
      rw [List.getElem?_zipWith, List.getElem?_zipWith]
      by_cases hj : i = j
      · subst hj
        rw [List.getElem?_set_self hi, hm, hp]
      · rw [List.getElem?_set_ne hj]
    rw [e, List.length_set]
    exact own_kpV h.own hk (fun b hb e => own_apart h.own hf (by decide) b hb e)
  · intro j m' p' hm' hp'
    by_cases hj : i = j
    · subst hj
      rw [List.getElem?_set_self hi] at hm'
      cases hm'
      rw [hp] at hp'
      cases hp'
      refine ⟨own_kpV (h.each i m p hm hp).1 hk (fun b hb e => own_apart hf (h.each i m p hm hp).1 (by decide) b e hb), ho⟩
    · rw [List.getElem?_set_ne hj] at hm'
      have g := h.each j m' p' hm' hp'
      exact ⟨own_kpV g.1 hk (fun b hb e => own_apart hf g.1 (by decide) b e hb), own_kpV g.2 hk (fun b hb e => hj (ha i j p p' b hp hp' e hb))⟩
theorem EnO.putV {w w1 : World} {B : Nat} {v : Value} {ms : List EnS} {ps : List Value} {i : Nat} {m : EnS} {p : Value} {fs : List NmS} (h : EnO w B v ms ps) (ha : ApE ps) (hm : ms[i]? = some m) (hp : ps[i]? = some p)
    (ho : w1.ownsRow B 54 2 p fs.length (nmRows fs).flatten) (hk : Kp (fun b => p.ownBlock = some b) w w1) : EnO w1 B v (ms.set i ⟨m.name, fs⟩) ps := by
  have hi := (List.getElem?_eq_some_iff.1 hm).1
  have hf := h.each i m p hm hp
  refine ⟨by rw [List.length_set]; exact h.len, ?_, ?_⟩
  · have e : enRows (ms.set i ⟨m.name, fs⟩) ps = enRows ms ps := by
      apply List.ext_getElem?
      intro j
      unfold enRows
      rw [List.getElem?_zipWith, List.getElem?_zipWith]
      by_cases hj : i = j
      · subst hj
        rw [List.getElem?_set_self hi, hm, hp]
      · rw [List.getElem?_set_ne hj]
    rw [e, List.length_set]
    exact own_kpV h.own hk (fun b hb e => own_apart h.own hf (by decide) b hb e)
  · intro j m' p' hm' hp'
    by_cases hj : i = j
    · subst hj
      rw [List.getElem?_set_self hi] at hm'
      cases hm'
      rw [hp] at hp'
      cases hp'
      exact ho
    · rw [List.getElem?_set_ne hj] at hm'
      exact own_kpV (h.each j m' p' hm' hp') hk (fun b hb e => hj (ha i j p p' b hp hp' e hb))
end Go.Proofs.Ytfnjbbaphmmjlaa

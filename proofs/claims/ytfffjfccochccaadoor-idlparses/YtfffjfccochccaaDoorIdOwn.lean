/- Messages and enumerations that a call has made: their rows, owned and apart. -/
import Derived.Test.YtfffjfccochccaaDoorIdMess
namespace Go.Proofs.YtfffjfccochccaaDoor
open Go.ChangeShapes Go.WideShapes Go.ChangeAt Go.RowKit
set_option linter.unusedVariables false
set_option linter.unusedSimpArgs false
set_option maxRecDepth 20000

def msRows (ms : List MsS) (ps : List (Value × Value)) : List (List Value) := List.zipWith (fun m p => [.string m.name, p.1, p.2]) ms ps
def enRows (es : List EnS) (ps : List Value) : List (List Value) := List.zipWith (fun m p => [.string m.name, p]) es ps
structure MsO (w : World) (B : Nat) (v : Value) (ms : List MsS) (ps : List (Value × Value)) : Prop where
  len : ps.length = ms.length
  own : w.ownsRow B 45 3 v ms.length (msRows ms ps).flatten
  each : ∀ (i : Nat) (m : MsS) (p : Value × Value), ms[i]? = some m → ps[i]? = some p → w.ownsRow B 43 5 p.1 m.fields.length (flRows m.fields).flatten ∧ w.ownsRow B 3 1 p.2 m.reserved.length (inRows m.reserved).flatten
  apart : ∀ (i j : Nat) (p q : Value × Value) (k : Nat), ps[i]? = some p → ps[j]? = some q → p.1.ownBlock = some k → q.1.ownBlock = some k → i = j
structure EnO (w : World) (B : Nat) (v : Value) (es : List EnS) (ps : List Value) : Prop where
  len : ps.length = es.length
  own : w.ownsRow B 69 2 v es.length (enRows es ps).flatten
  each : ∀ (i : Nat) (e : EnS) (p : Value), es[i]? = some e → ps[i]? = some p → w.ownsRow B 93 2 p e.values.length (nmRows e.values).flatten
theorem MsO.nil (w : World) (B : Nat) : MsO w B (.slice none 0 0) [] [] := ⟨rfl, World.ownsRow_nil _ _ _ _, fun i m p h => by simp at h, fun i j p q k h => by simp at h⟩
theorem EnO.nil (w : World) (B : Nat) : EnO w B (.slice none 0 0) [] [] := ⟨rfl, World.ownsRow_nil _ _ _ _, fun i m p h => by simp at h⟩
theorem MsO.kp {S : Nat → Prop} {w w1 : World} {B : Nat} {v : Value} {ms : List MsS} {ps : List (Value × Value)} (h : MsO w B v ms ps) (hk : Kp S w w1) (hs : ∀ k, B ≤ k → ¬ S k) : MsO w1 B v ms ps :=
  ⟨h.len, own_kp h.own hk hs, fun i m p hm hp => ⟨own_kp (h.each i m p hm hp).1 hk hs, own_kp (h.each i m p hm hp).2 hk hs⟩, h.apart⟩
theorem EnO.kp {S : Nat → Prop} {w w1 : World} {B : Nat} {v : Value} {ms : List EnS} {ps : List Value} (h : EnO w B v ms ps) (hk : Kp S w w1) (hs : ∀ k, B ≤ k → ¬ S k) : EnO w1 B v ms ps :=
  ⟨h.len, own_kp h.own hk hs, fun i m p hm hp => own_kp (h.each i m p hm hp) hk hs⟩
/-- Kept while another row, of another type, is written. -/
theorem MsO.beside {w w1 : World} {B B' : Nat} {v u : Value} {ms : List MsS} {ps : List (Value × Value)} {e : TypeId} {s n : Nat} {xs : List Value} (h : MsO w B v ms ps) (hu : w.ownsRow B' e s u n xs) (h1 : e ≠ 45) (h2 : e ≠ 43) (h3 : e ≠ 3) (hk : Kp (fun k => u.ownBlock = some k) w w1) : MsO w1 B v ms ps :=
  ⟨h.len, own_kpV h.own hk (fun k hk hu' => own_apart hu h.own h1 k hu' hk), fun i m p hm hp => ⟨own_kpV (h.each i m p hm hp).1 hk (fun k hk hu' => own_apart hu (h.each i m p hm hp).1 h2 k hu' hk), own_kpV (h.each i m p hm hp).2 hk (fun k hk hu' => own_apart hu (h.each i m p hm hp).2 h3 k hu' hk)⟩, h.apart⟩
theorem EnO.beside {w w1 : World} {B B' : Nat} {v u : Value} {ms : List EnS} {ps : List Value} {e : TypeId} {s n : Nat} {xs : List Value} (h : EnO w B v ms ps) (hu : w.ownsRow B' e s u n xs) (h1 : e ≠ 69) (h2 : e ≠ 93) (hk : Kp (fun k => u.ownBlock = some k) w w1) : EnO w1 B v ms ps :=
  ⟨h.len, own_kpV h.own hk (fun k hk hu' => own_apart hu h.own h1 k hu' hk), fun i m p hm hp => own_kpV (h.each i m p hm hp) hk (fun k hk hu' => own_apart hu (h.each i m p hm hp) h2 k hu' hk)⟩
theorem get_snoc {α : Type} {l : List α} {x y : α} {i : Nat} (h : (l ++ [x])[i]? = some y) : (i < l.length ∧ l[i]? = some y) ∨ (i = l.length ∧ y = x) := by
  rcases Nat.lt_or_ge i l.length with hi | hi
  · rw [List.getElem?_append_left hi] at h; exact .inl ⟨hi, h⟩
  · rw [List.getElem?_append_right hi] at h
    have : i - l.length = 0 := by
      rcases Nat.eq_zero_or_pos (i - l.length) with e | e
      · exact e
      · have : [x].length ≤ i - l.length := by simp; omega
        rw [List.getElem?_eq_none this] at h; cases h
    rw [this] at h
    simp at h
    exact .inr ⟨by omega, h.symm⟩
theorem ms_snoc {ms : List MsS} {ps : List (Value × Value)} (hl : ps.length = ms.length) (m : MsS) (p : Value × Value) : (msRows (ms ++ [m]) (ps ++ [p])).flatten = (msRows ms ps).flatten ++ [.string m.name, p.1, p.2] := by
  unfold msRows
  rw [List.zipWith_append hl.symm]
  simp
theorem en_snoc {ms : List EnS} {ps : List Value} (hl : ps.length = ms.length) (m : EnS) (p : Value) : (enRows (ms ++ [m]) (ps ++ [p])).flatten = (enRows ms ps).flatten ++ [.string m.name, p] := by
  unfold enRows
  rw [List.zipWith_append hl.symm]
  simp
/-- One more message: its rows are of new blocks. -/
theorem MsO.snoc {w w1 : World} {B H : Nat} {v v' vf vr : Value} {ms : List MsS} {ps : List (Value × Value)} {m : MsS} (h : MsO w B v ms ps) (hH : ∀ (i : Nat) (p : Value × Value) (k : Nat), ps[i]? = some p → p.1.ownBlock = some k → k < H) (hBH : B ≤ H) (hf : w.ownsRow H 43 5 vf m.fields.length (flRows m.fields).flatten) (hr : w.ownsRow H 3 1 vr m.reserved.length (inRows m.reserved).flatten)
    (ho : w1.ownsRow B 45 3 v' (ms.length + 1) ((msRows ms ps).flatten ++ [.string m.name, vf, vr])) (hk : Kp (fun k => v.ownBlock = some k) w w1) : MsO w1 B v' (ms ++ [m]) (ps ++ [(vf, vr)]) := by
  have kf : ∀ {B' : Nat} {u : Value} {n : Nat} {xs : List Value}, w.ownsRow B' 43 5 u n xs → w1.ownsRow B' 43 5 u n xs := fun hu => own_kpV hu hk (fun k hk hv => own_apart h.own hu (by decide) k hv hk)
  have kr : ∀ {B' : Nat} {u : Value} {n : Nat} {xs : List Value}, w.ownsRow B' 3 1 u n xs → w1.ownsRow B' 3 1 u n xs := fun hu => own_kpV hu hk (fun k hk hv => own_apart h.own hu (by decide) k hv hk)
  refine ⟨by simp [h.len], ?_, ?_, ?_⟩
  · rw [ms_snoc h.len, List.length_append]; exact ho
  · intro i m' p hm hp
    rcases get_snoc hm with ⟨hi, hm⟩ | ⟨hi, rfl⟩
    · rcases get_snoc hp with ⟨_, hp⟩ | ⟨hi', _⟩
      · exact ⟨kf (h.each i m' p hm hp).1, kr (h.each i m' p hm hp).2⟩
      · have := h.len; omega
    · rcases get_snoc hp with ⟨hi', _⟩ | ⟨_, rfl⟩
      · have := h.len; omega
      · exact ⟨own_base (kf hf) hBH, own_base (kr hr) hBH⟩
  · intro i j p q k hp hq hpk hqk
    rcases get_snoc hp with ⟨hi, hp⟩ | ⟨hi, rfl⟩
    · rcases get_snoc hq with ⟨hj, hq⟩ | ⟨hj, rfl⟩
      · exact h.apart i j p q k hp hq hpk hqk
      · have a1 := hH i p k hp hpk
        have a2 := (hf.lt k hqk).1
        omega
    · rcases get_snoc hq with ⟨hj, hq⟩ | ⟨hj, rfl⟩
      · have a1 := hH j q k hq hqk
        have a2 := (hf.lt k hpk).1
        omega
      · omega
theorem EnO.snoc {w w1 : World} {B H : Nat} {v v' vv : Value} {ms : List EnS} {ps : List Value} {m : EnS} (h : EnO w B v ms ps) (hBH : B ≤ H) (hf : w.ownsRow H 93 2 vv m.values.length (nmRows m.values).flatten)
    (ho : w1.ownsRow B 69 2 v' (ms.length + 1) ((enRows ms ps).flatten ++ [.string m.name, vv])) (hk : Kp (fun k => v.ownBlock = some k) w w1) : EnO w1 B v' (ms ++ [m]) (ps ++ [vv]) := by
  have kf : ∀ {B' : Nat} {u : Value} {n : Nat} {xs : List Value}, w.ownsRow B' 93 2 u n xs → w1.ownsRow B' 93 2 u n xs := fun hu => own_kpV hu hk (fun k hk hv => own_apart h.own hu (by decide) k hv hk)
  refine ⟨by simp [h.len], ?_, ?_⟩
  · rw [en_snoc h.len, List.length_append]; exact ho
  · intro i m' p hm hp
    rcases get_snoc hm with ⟨hi, hm⟩ | ⟨hi, rfl⟩
    · rcases get_snoc hp with ⟨_, hp⟩ | ⟨hi', _⟩
      · exact kf (h.each i m' p hm hp)
      · have := h.len; omega
    · rcases get_snoc hp with ⟨hi', _⟩ | ⟨_, rfl⟩
      · have := h.len; omega
      · exact own_base (kf hf) hBH
/-- Where the fields' blocks lie. -/
theorem MsO.high {w : World} {B : Nat} {v : Value} {ms : List MsS} {ps : List (Value × Value)} (h : MsO w B v ms ps) : ∀ (i : Nat) (p : Value × Value) (k : Nat), ps[i]? = some p → p.1.ownBlock = some k → k < w.heap.size := by
  intro i p k hp hk
  have hi : i < ms.length := by rw [← h.len]; exact (List.getElem?_eq_some_iff.1 hp).1
  exact ((h.each i _ p (List.getElem?_eq_getElem hi) hp).1.lt k hk).2
def preM (m : MsS) : MsS := ⟨m.name, m.fields.map pre7, m.reserved⟩
/-- What stands at a declaration's beginning. -/
theorem decl_msg {s : ScS} {t : ByteArray} {r : List ByteArray} {m : MsS} (ht : t.data.toList = kMessage.data.toList) (hm : Res (pMsg r) m) :
    stX (pDecl s (t :: r)) = stX (pMsg r) ∧ Res (pDecl s (t :: r)) ⟨s.name, s.msgs ++ [m], s.enums, s.methods⟩ := by
  have e : pDecl s (t :: r) = pBind (pMsg r) fun m r => (.inr (⟨s.name, s.msgs ++ [m], s.enums, s.methods⟩, r) : PR ScS) := by
    unfold pDecl
    rw [if_pos (by rw [is_cons]; exact ht)]; rfl
  rw [e]
  exact ⟨st_map _ (fun m => (⟨s.name, s.msgs ++ [m], s.enums, s.methods⟩ : ScS)), res_map (fun m => (⟨s.name, s.msgs ++ [m], s.enums, s.methods⟩ : ScS)) hm⟩
theorem decl_enum {s : ScS} {t : ByteArray} {r : List ByteArray} {m : EnS} (ht : t.data.toList = kEnum.data.toList) (hm : Res (pEnum r) m) :
    stX (pDecl s (t :: r)) = stX (pEnum r) ∧ Res (pDecl s (t :: r)) ⟨s.name, s.msgs, s.enums ++ [m], s.methods⟩ := by
  have e : pDecl s (t :: r) = pBind (pEnum r) fun m r => (.inr (⟨s.name, s.msgs, s.enums ++ [m], s.methods⟩, r) : PR ScS) := by
    unfold pDecl
    rw [if_neg (by rw [is_cons, ht]; decide +kernel), if_pos (by rw [is_cons]; exact ht)]; rfl
  rw [e]
  exact ⟨st_map _ (fun m => (⟨s.name, s.msgs, s.enums ++ [m], s.methods⟩ : ScS)), res_map (fun m => (⟨s.name, s.msgs, s.enums ++ [m], s.methods⟩ : ScS)) hm⟩
theorem decl_call {s : ScS} {t : ByteArray} {r : List ByteArray} {m : MtS} (ht : t.data.toList = kCall.data.toList) (hm : Res (pCall r) m) :
    stX (pDecl s (t :: r)) = stX (pCall r) ∧ Res (pDecl s (t :: r)) ⟨s.name, s.msgs, s.enums, s.methods ++ [m]⟩ := by
  have e : pDecl s (t :: r) = pBind (pCall r) fun m r => (.inr (⟨s.name, s.msgs, s.enums, s.methods ++ [m]⟩, r) : PR ScS) := by
    unfold pDecl
    rw [if_neg (by rw [is_cons, ht]; decide +kernel), if_neg (by rw [is_cons, ht]; decide +kernel), if_pos (by rw [is_cons]; exact ht)]; rfl
  rw [e]
  exact ⟨st_map _ (fun m => (⟨s.name, s.msgs, s.enums, s.methods ++ [m]⟩ : ScS)), res_map (fun m => (⟨s.name, s.msgs, s.enums, s.methods ++ [m]⟩ : ScS)) hm⟩
theorem one3_cases (s : ScS) (t : ByteArray) (r : List ByteArray) :
    (t.data.toList = kMessage.data.toList ∧ pOn (.inr (t :: r)) (pOne [kMessage, kEnum, kCall]) = .inr (t, r)) ∨
    (t.data.toList = kEnum.data.toList ∧ pOn (.inr (t :: r)) (pOne [kMessage, kEnum, kCall]) = .inr (t, r)) ∨
    (t.data.toList = kCall.data.toList ∧ pOn (.inr (t :: r)) (pOne [kMessage, kEnum, kCall]) = .inr (t, r)) ∨
    (pOn (.inr (t :: r)) (pOne [kMessage, kEnum, kCall]) = .inl (r.length + 1) ∧ pDecl s (t :: r) = .inl (r.length + 1)) := by
  simp only [pOn, pOne, List.any_cons, List.any_nil, Bool.or_false]
  by_cases h1 : t.data.toList = kMessage.data.toList
  · exact .inl ⟨h1, by rw [if_pos (by simp [h1])]⟩
  · by_cases h2 : t.data.toList = kEnum.data.toList
    · exact .inr (.inl ⟨h2, by rw [if_pos (by simp [h2])]⟩)
    · by_cases h3 : t.data.toList = kCall.data.toList
      · exact .inr (.inr (.inl ⟨h3, by rw [if_pos (by simp [h3])]⟩))
      · refine .inr (.inr (.inr ⟨?_, ?_⟩))
        · rw [if_neg]
          simp only [Bool.or_eq_true, beq_iff_eq]
          rintro (e | e | e)
          · exact h1 e.symm
          · exact h2 e.symm
          · exact h3 e.symm
        · unfold pDecl
          rw [if_neg (by rw [is_cons]; exact h1), if_neg (by rw [is_cons]; exact h2), if_neg (by rw [is_cons]; exact h3)]; rfl
theorem decls_step {s s' : ScS} {t : ByteArray} {r : List ByteArray} (hv : Res (pDecl s (t :: r)) s') : pDecls (t :: r).length s (t :: r) = pOn (stX (pDecl s (t :: r))) fun r => pDecls r.length s' r := by
  rw [← bind_onR hv fun s' r => pDecls r.length s' r]
  show (if (t :: r).isEmpty = true then _ else _) = _
  rw [if_neg (by simp)]
  exact bind_congr fun v r' e => decls_fuel _ _ _ (Nat.lt_succ_iff.1 (decl_lt s (t :: r) _ _ e))
theorem decl_in (s : ScS) (ts : List ByteArray) : InP (pDecl s ts) ts.length := by
  unfold pDecl
  split
  · exact fun a e => Nat.le_trans (in_bind (msg_in ts.tail) (msg_lt ts.tail).le (fun _ r => in_inr _ _ _) a e) (by simp)
  · split
    · exact fun a e => Nat.le_trans (in_bind (enum_in ts.tail) (enum_lt ts.tail).le (fun _ r => in_inr _ _ _) a e) (by simp)
    · split
      · exact fun a e => Nat.le_trans (in_bind (call_in ts.tail) (call_lt ts.tail).le (fun _ r => in_inr _ _ _) a e) (by simp)
      · intro a e; simp at e; omega
theorem text_st (σ : Sg) : pOn σ pText = pOn (stX (pOn (stX (pOn (stX (pOn σ (pMust kSchema))) pName)) (pMust kSemi))) fun r => pDecls r.length ⟨res noT (pOn (stX (pOn σ (pMust kSchema))) pName), [], [], []⟩ r := by
  cases σ with
  | inl n => rfl
  | inr r =>
    simp only [pOn, pText]
    cases pMust kSchema r with
    | inl n => rfl
    | inr x =>
      obtain ⟨_, r1⟩ := x
      simp only [pBind, stX, res]
      cases pName r1 with
      | inl n => rfl
      | inr x =>
        obtain ⟨a, r2⟩ := x
        simp only [pBind, stX, res]
        cases pMust kSemi r2 with
        | inl n => rfl
        | inr x => obtain ⟨_, r3⟩ := x; rfl
theorem infoM : (Tryd.prog.info? 45).map (fun i => (i.zero, i.size, i.bytes)) = some (some (.agg #[.string ⟨#[]⟩, .slice none 0 0, .slice none 0 0]), 3, 64) := by kernel_rfl
theorem infoE : (Tryd.prog.info? 69).map (fun i => (i.zero, i.size, i.bytes)) = some (some (.agg #[.string ⟨#[]⟩, .slice none 0 0]), 2, 40) := by kernel_rfl
theorem infoT : (Tryd.prog.info? 73).map (fun i => (i.zero, i.size, i.bytes)) = some (some (.agg #[.string ⟨#[]⟩, .string ⟨#[]⟩, .string ⟨#[]⟩]), 3, 48) := by kernel_rfl
theorem mt_snoc (acc : List MtS) (f : MtS) : (mtRows (acc ++ [f])).flatten = (mtRows acc).flatten ++ [.string f.name, .string f.inn, .string f.out] := by simp [mtRows, MtS.cells]
end Go.Proofs.YtfffjfccochccaaDoor

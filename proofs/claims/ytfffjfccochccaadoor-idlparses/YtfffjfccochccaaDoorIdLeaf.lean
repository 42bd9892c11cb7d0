/- The reader: its cells; what each of its small calls answers. -/
import Derived.Test.YtfffjfccochccaaDoorKpFrame
import Derived.Test.YtfffjfccochccaaDoorIdSx
import Derived.Test.YtfffjfccochccaaDoorRuText
import Derived.Test.YtfffjfccochccaaDoorLxRow
import Derived.BigQuiet
namespace Go.Proofs.YtfffjfccochccaaDoor
open Go.ChangeShapes Go.WideShapes Go.ChangeAt Go.RowKit
set_option linter.unusedVariables false
set_option linter.unusedSimpArgs false
set_option maxRecDepth 20000

/-- The table of the types' words, as it lies in the memory. -/
structure Glob (w : World) : Prop where
  c0 : w.cell? ⟨0, 0, none⟩ = some (.string ⟨#[105, 110, 116, 51, 50]⟩)
  c1 : w.cell? ⟨0, 1, none⟩ = some (.int .i64 1)
  c2 : w.cell? ⟨0, 2, none⟩ = some (.string ⟨#[105, 110, 116, 54, 52]⟩)
  c3 : w.cell? ⟨0, 3, none⟩ = some (.int .i64 2)
  c4 : w.cell? ⟨0, 4, none⟩ = some (.string ⟨#[98, 111, 111, 108]⟩)
  c5 : w.cell? ⟨0, 5, none⟩ = some (.int .i64 3)
  c6 : w.cell? ⟨0, 6, none⟩ = some (.string ⟨#[116, 101, 120, 116]⟩)
  c7 : w.cell? ⟨0, 7, none⟩ = some (.int .i64 4)
  c8 : w.cell? ⟨0, 8, none⟩ = some (.string ⟨#[98, 121, 116, 101, 115]⟩)
  c9 : w.cell? ⟨0, 9, none⟩ = some (.int .i64 5)
theorem Glob.kp {S : Nat → Prop} {w w' : World} (h : Glob w) (hb : Kp S w w') (hs : ¬ S 0) : Glob w' :=
  ⟨hb.cell h.c0 hs, hb.cell h.c1 hs, hb.cell h.c2 hs, hb.cell h.c3 hs, hb.cell h.c4 hs, hb.cell h.c5 hs, hb.cell h.c6 hs, hb.cell h.c7 hs, hb.cell h.c8 hs, hb.cell h.c9 hs⟩
theorem Glob.below {w w' : World} (h : Glob w) (hb : Below w.heap.size w w') : Glob w' := h.kp (S := fun _ => False) (Kp.ofBelow hb) (fun e => e)
theorem Glob.lt {w : World} (h : Glob w) : 0 < w.heap.size := World.block_lt_of_cell? _ _ h.c0

/-- A reader in block g: at this state, over these pieces. -/
structure Rd (w : World) (g : Nat) (V : Value) (ts : List Tk) (E : Nat) (σ : Sg) : Prop where
  glob : Glob w
  pos : 0 < g
  blk : w.heap[g]? = some (.cells #[V, .int .i64 ((ts.length - leftS σ : Nat) : Int), .int .i64 (E : Int), .bool (badS σ)] 53 (0, 0))
  left : leftS σ ≤ ts.length
  rest : ∀ r, σ = .inr r → r = (ts.map Tk.bytes).drop (ts.length - r.length)
  row : ∃ a cap, V = .slice a ts.length cap ∧ ts.length ≤ cap ∧ cap ≤ maxLen ∧ (ts ≠ [] → ∃ q, a = some ⟨q, 0, none⟩ ∧ q < g) ∧ HoldsT w a ts
  small : ∀ t ∈ ts, t.bytes.size ≤ 140737488351232
  few : ts.length ≤ 100000
theorem Rd.lt {w : World} {g : Nat} {V : Value} {ts : List Tk} {E : Nat} {σ : Sg} (h : Rd w g V ts E σ) : g < w.heap.size := (Array.getElem?_eq_some_iff.1 h.blk).1
theorem HoldsT.kp {S : Nat → Prop} {w w1 : World} {a : Option Addr} {rs : List Tk} (h : HoldsT w a rs) (hb : Kp S w w1) (hs : ∀ b, a = some b → ¬ S b.block) : HoldsT w1 a rs := by
  intro b hab j u hu
  have := h b hab j u hu
  have hbl : (b.add j).block = b.block := by unfold Addr.add; split <;> rfl
  exact hb.cell this (by rw [hbl]; exact hs b hab)
theorem Rd.below {w w' : World} {g : Nat} {V : Value} {ts : List Tk} {E : Nat} {σ : Sg} (h : Rd w g V ts E σ) (hb : Below w.heap.size w w') : Rd w' g V ts E σ := by
  obtain ⟨a, cap, h1, h2, h3, h4, h5⟩ := h.row
  exact ⟨h.glob.below hb, h.pos, (hb.block g h.lt).trans h.blk, h.left, h.rest, ⟨a, cap, h1, h2, h3, h4, h5.below hb⟩, h.small, h.few⟩
/-- A cell of the reader is written. -/
theorem Rd.turn {w : World} {g : Nat} {V : Value} {ts : List Tk} {E : Nat} {σ σ' : Sg} (h : Rd w g V ts E σ) (i : Nat) (u : Value)
    (hb : (#[V, .int .i64 ((ts.length - leftS σ : Nat) : Int), .int .i64 (E : Int), .bool (badS σ)] : Array Value).setIfInBounds i u = #[V, .int .i64 ((ts.length - leftS σ' : Nat) : Int), .int .i64 (E : Int), .bool (badS σ')])
    (hl : leftS σ' ≤ ts.length) (hr : ∀ r, σ' = .inr r → r = (ts.map Tk.bytes).drop (ts.length - r.length)) : Rd (w.setCell ⟨g, i, none⟩ u) g V ts E σ' := by
  obtain ⟨a, cap, h1, h2, h3, h4, h5⟩ := h.row
  have hk : Kp (fun k => k = g) w (w.setCell ⟨g, i, none⟩ u) := Kp.setCell (S := fun k => k = g) (Kp.refl _ w) (p := ⟨g, i, none⟩) (fun _ => rfl) u
  refine ⟨h.glob.kp hk (by have := h.pos; omega), h.pos, ?_, hl, hr, ⟨a, cap, h1, h2, h3, h4, ?_⟩, h.small, h.few⟩
  · rw [block_set h.blk i u, hb]
  · by_cases hne : ts = []
    · subst hne; exact HoldsT.nil
    refine h5.kp hk ?_
    intro b hb' e
    obtain ⟨q, hq, hqg⟩ := h4 hne
    rw [hb'] at hq
    cases hq
    simp only at e
    omega
/-- The reader's cells, with letters: how many are read. -/
theorem Rd.open {w : World} {g : Nat} {V : Value} {ts : List Tk} {E : Nat} {σ : Sg} (h : Rd w g V ts E σ) : ∃ n, n + leftS σ = ts.length ∧ ts.length ≤ 9223372036854775807 ∧ w.cell? ⟨g, 0, none⟩ = some V ∧ w.cell? ⟨g, 1, none⟩ = some (.int .i64 (n : Int)) ∧ w.cell? ⟨g, 2, none⟩ = some (.int .i64 (E : Int)) ∧ w.cell? ⟨g, 3, none⟩ = some (.bool (badS σ)) ∧
    w.frozen? ⟨g, 1, none⟩ = false ∧ w.frozen? ⟨g, 3, none⟩ = false := by
  obtain ⟨a, cap, h1, h2, h3, h4, h5⟩ := h.row
  have hl := h.left
  refine ⟨ts.length - leftS σ, by omega, by unfold maxLen at h3; omega, ?_, ?_, ?_, ?_, block_froz h.blk 1, block_froz h.blk 3⟩
  · rw [block_cell h.blk]; rfl
  · rw [block_cell h.blk]; rfl
  · rw [block_cell h.blk]; rfl
  · rw [block_cell h.blk]; rfl
theorem Rd.next {w : World} {g : Nat} {V : Value} {ts : List Tk} {E : Nat} {t : ByteArray} {r : List ByteArray} (h : Rd w g V ts E (.inr (t :: r))) {n : Nat} (hn : n + leftS (.inr (t :: r)) = ts.length) {u : Value} (hu : u = .int .i64 ((n + 1 : Nat) : Int)) : Rd (w.setCell ⟨g, 1, none⟩ u) g V ts E (.inr r) := by
  have hl := h.left
  have hr := h.rest _ rfl
  simp only [leftS, List.length_cons] at hl hn hr
  refine h.turn 1 u ?_ (by simp only [leftS]; omega) ?_
  · rw [hu]
    have e : ts.length - leftS (.inr r) = n + 1 := by simp only [leftS]; omega
    rw [e]; rfl
  · intro r' hr'
    simp only [Sum.inr.injEq] at hr'
    subst hr'
    have e1 : ts.length - r.length = (ts.length - (r.length + 1)) + 1 := by omega
    rw [e1, ← List.drop_drop, ← hr]
    rfl
theorem Rd.wrong {w : World} {g : Nat} {V : Value} {ts : List Tk} {E : Nat} {σ : Sg} (h : Rd w g V ts E σ) : Rd (w.setCell ⟨g, 3, none⟩ (.bool true)) g V ts E (.inl (leftS σ)) :=
  h.turn 3 _ rfl h.left (fun r hr => by cases hr)
/-- The next piece's text, in its cell. -/
theorem Rd.at {w : World} {g : Nat} {V : Value} {ts : List Tk} {E : Nat} {t : ByteArray} {r : List ByteArray} (h : Rd w g V ts E (.inr (t :: r))) {n : Nat} (hn : n + leftS (.inr (t :: r)) = ts.length) :
    ∃ q cap pos, V = .slice (some ⟨q, 0, none⟩) ts.length cap ∧ ts.length ≤ cap ∧ cap ≤ 9223372036854775807 ∧ w.cell? ⟨q, n * 3 + 1, none⟩ = some (.string t) ∧ w.cell? ⟨q, n * 3 + 2, none⟩ = some (.int .i64 ((pos : Nat) : Int)) ∧ t.size ≤ 140737488351232 ∧ (ts[n]?).map Tk.pos = some pos := by
  obtain ⟨a, cap, h1, h2, h3, h4, h5⟩ := h.row
  have hr := h.rest _ rfl
  simp only [leftS, List.length_cons] at hn hr
  have hlt : n < ts.length := by omega
  have e1 : ts.length - (r.length + 1) = n := by omega
  rw [e1] at hr
  have hne : ts ≠ [] := by intro e; subst e; simp at hlt
  obtain ⟨q, rfl, _⟩ := h4 hne
  have hg : ts[n]? = some ts[n] := List.getElem?_eq_getElem hlt
  have ht : t = (ts[n]).bytes := by
    have := congrArg (fun l => l[0]?) hr
    simp only [List.getElem?_cons_zero, List.getElem?_drop, List.getElem?_map, Nat.add_zero, hg, Option.map_some, Option.some.injEq] at this
    exact this
  obtain ⟨_, b2, b3⟩ := h5.at0 hg
  refine ⟨q, cap, (ts[n]).pos, h1, h2, by unfold maxLen at h3; omega, by rw [ht]; exact b2, b3, ?_, by rw [hg]; rfl⟩
  rw [ht]
  exact h.small _ (List.getElem_mem hlt)
/-- The slice's form. -/
theorem Rd.form {w : World} {g : Nat} {V : Value} {ts : List Tk} {E : Nat} {σ : Sg} (h : Rd w g V ts E σ) : ∃ a cap, V = .slice a ts.length cap := by
  obtain ⟨a, cap, h1, _⟩ := h.row
  exact ⟨a, cap, h1⟩
set_option maxHeartbeats 1000000 in
theorem more_any {w : World} {g : Nat} {V : Value} {ts : List Tk} {E : Nat} {σ : Sg} (h : Rd w g V ts E σ) :
    Calls Tryd.prog 31 #[.pointer (some ⟨g, 0, none⟩)] w fun e w' => e = .returned (.bool (!badS σ && decide (0 < leftS σ))) ∧ Below w.heap.size w w' := by
  obtain ⟨n, hn, hm, c0, c1, c2, c3, f1, f3⟩ := h.open
  obtain ⟨a, cap, rfl⟩ := h.form
  clear h
  generalize leftS σ = L at *
  generalize ts.length = N at *
  cases hb : badS σ with
  | true =>
    rw [hb] at c3
    go_enter Tryd.func31, Tryd.ntmps31
    go_wp2_with fail
    go_quiet (fail)
    go_wp2_with fail
    go_ret
    exact ⟨rfl, below_drewN _ (Below.refl _ _)⟩
  | false =>
    rw [hb] at c3
    go_enter Tryd.func31, Tryd.ntmps31
    go_wp2_with fail
    go_quiet (fail)
    go_wp2_with fail
    go_ret
    refine ⟨?_, below_drewN _ (Below.refl _ _)⟩
    have : decide (n < N) = decide (0 < L) := by rw [decide_eq_decide]; omega
    simp [this]
set_option maxHeartbeats 1000000 in
theorem ahead_any {w : World} {g : Nat} {V : Value} {ts : List Tk} {E : Nat} {σ : Sg} (h : Rd w g V ts E σ) :
    Calls Tryd.prog 54 #[.pointer (some ⟨g, 0, none⟩)] w fun e w' => e = .returned (.string (headS σ)) ∧ Below w.heap.size w w' := by
  cases σ with
  | inl n =>
    go_enter Tryd.func54, Tryd.ntmps54
    go_wp2_with fail
    refine (more_any h).mono ?_
    rintro e w1 ⟨rfl, hb1⟩
    have h1 := h.below hb1
    clear h
    clear h1
    simp only [badS, Bool.not_true, Bool.false_and, headS, noT]
    go_wp2_with fail
    go_ret
    exact ⟨rfl, hb1⟩
  | inr rr =>
   cases rr with
   | nil =>
    go_enter Tryd.func54, Tryd.ntmps54
    go_wp2_with fail
    refine (more_any h).mono ?_
    rintro e w1 ⟨rfl, hb1⟩
    have h1 := h.below hb1
    clear h
    clear h1
    simp only [badS, leftS, List.length_nil, Nat.lt_irrefl, decide_false, Bool.and_false, headS, noT]
    go_wp2_with fail
    go_ret
    exact ⟨rfl, hb1⟩
   | cons t r =>
    go_enter Tryd.func54, Tryd.ntmps54
    go_wp2_with fail
    refine (more_any h).mono ?_
    rintro e w1 ⟨rfl, hb1⟩
    have h1 := h.below hb1
    clear h
    obtain ⟨n, hn, hm, c0, c1, c2, c3, f1, f3⟩ := h1.open
    obtain ⟨q, cap, pos, rfl, hcap, hcap2, b2, b3, _, _⟩ := h1.at hn
    clear h1
    simp only [leftS, List.length_cons] at hn
    have hlt : n < ts.length := by omega
    simp only [badS, leftS, List.length_cons, Nat.zero_lt_succ, decide_true, Bool.not_false, Bool.and_true, headS]
    generalize ts.length = N at *
    clear hn
    go_wp2_with fail
    go_quiet (fail)
    go_wp2_with fail
    go_ret
    exact ⟨rfl, below_drewN _ hb1⟩
/-- Words that stand in a block. -/
def HoldsS (w : World) (b : Nat) (ws : List ByteArray) : Prop := ∀ j u, ws[j]? = some u → w.cell? ⟨b, j, none⟩ = some (.string u)
theorem HoldsS.below {w w1 : World} {b : Nat} {ws : List ByteArray} (h : HoldsS w b ws) (hb : Below w.heap.size w w1) : HoldsS w1 b ws := by
  intro j u hu
  have := h j u hu
  rw [hb.cell (World.block_lt_of_cell? _ _ this)]
  exact this
def anyS (ws : List ByteArray) (x : ByteArray) : Bool := ws.any (fun k => k.data.toList == x.data.toList)
theorem str_beq (x y : ByteArray) : (x.toList == y.toList) = (x.data.toList == y.data.toList) := by rw [ByteArray.toList_eq, ByteArray.toList_eq]
set_option maxHeartbeats 1000000 in
theorem sindex_any (ws : List ByteArray) (x : ByteArray) (b cap : Nat) (w : World) (hw : HoldsS w b ws) (hl : ws.length ≤ 1000) :
    Calls Tryd.prog 75 #[.slice (some ⟨b, 0, none⟩) ws.length cap, .string x] w fun e w' => ∃ k : Int, e = .returned (.int .i64 k) ∧ decide (0 ≤ k) = anyS ws x ∧ -1 ≤ k ∧ k ≤ 1000 ∧ w' = w := by
  have HW : Hid (HoldsS w b ws) := hw
  clear hw
  obtain ⟨N, hN⟩ : ∃ N, ws.length = N := ⟨_, rfl⟩
  rw [hN] at hl ⊢
  have HN : Hid (ws.length = N) := hN
  clear hN
  go_enter Tryd.func75, Tryd.ntmps75
  go_wp2_with fail
  go_loop [5, 8] (fun _ i => ∃ k : Nat, k ≤ N ∧ i = .int .i64 (k : Int) ∧ Hid (∀ j u, j < k → ws[j]? = some u → (u.data.toList == x.data.toList) = false)) (fun _ i => N - (intOf i).toNat)
  case atStart => exact ⟨0, Nat.zero_le _, rfl, fun j u hj => absurd hj (Nat.not_lt_zero _)⟩
  case round =>
    obtain ⟨k, hk, rfl, HB⟩ := hrel
    by_cases hlt : k < N
    · obtain ⟨u, hu⟩ : ∃ u, ws[k]? = some u := ⟨_, List.getElem?_eq_getElem (by rw [HN.out]; exact hlt)⟩
      have hc := HW.out k u hu
      have HU : Hid (ws[k]? = some u) := hu
      clear hu
      cases hq : (x.data.toList == u.data.toList) with
      | true =>
        have hq' : (x.toList == u.toList) = true := by rw [str_beq]; exact hq
        go_wp2_with fail
        go_ret
        refine ⟨_, rfl, ?_, by omega, by omega, rfl⟩
        have : anyS ws x = true := by
          unfold anyS
          rw [List.any_eq_true]
          refine ⟨u, List.mem_of_getElem? HU.out, ?_⟩
          rw [beq_iff_eq] at hq ⊢
          exact hq.symm
        rw [this]
        simp
      | false =>
        have hq' : (x.toList == u.toList) = false := by rw [str_beq]; exact hq
        go_wp2_with fail
        go_round
        case rel =>
          refine ⟨k + 1, by omega, rfl, ?_⟩
          intro j u' hj hu'
          by_cases e : j = k
          · subst e
            have := HU.out
            rw [hu'] at this
            cases this
            rw [beq_eq_false_iff_ne] at hq ⊢
            exact fun e => hq e.symm
          · exact HB.out j u' (by omega) hu'
        case measure => simp [intOf]; omega
    · go_wp2_with fail
      go_ret
      refine ⟨_, rfl, ?_, by omega, by omega, rfl⟩
      have : anyS ws x = false := by
        unfold anyS
        rw [List.any_eq_false]
        intro u hu
        obtain ⟨j, hj⟩ := List.getElem?_of_mem hu
        have hjl : j < k := by
          have := (List.getElem?_eq_some_iff.1 hj).1
          rw [HN.out] at this
          omega
        rw [HB.out j u hjl hj]
        simp
      rw [this]
      simp
theorem contains_any (ws : List ByteArray) (x : ByteArray) (b cap : Nat) (w : World) (hw : HoldsS w b ws) (hl : ws.length ≤ 1000) :
    Calls Tryd.prog 68 #[.slice (some ⟨b, 0, none⟩) ws.length cap, .string x] w fun e w' => e = .returned (.bool (anyS ws x)) ∧ w' = w := by
  have HI : Hid (∀ W : World, HoldsS W b ws → Calls Tryd.prog 75 #[.slice (some ⟨b, 0, none⟩) ws.length cap, .string x] W fun e w' => ∃ k : Int, e = .returned (.int .i64 k) ∧ decide (0 ≤ k) = anyS ws x ∧ -1 ≤ k ∧ k ≤ 1000 ∧ w' = W) := fun W hW => sindex_any ws x b cap W hW hl
  have HW : Hid (HoldsS w b ws) := hw
  clear hw hl
  generalize ws.length = N at *
  go_enter Tryd.func68, Tryd.ntmps68
  go_wp2_with fail
  refine (HI.out _ HW.out).mono ?_
  rintro e w1 ⟨k, rfl, hk, hk1, hk2, rfl⟩
  go_wp2_with fail
  go_ret
  exact ⟨rfl, rfl⟩
/-- What 'take' and 'one' come to. -/
theorem take_cases (ws : List ByteArray) (σ : Sg) (hne : anyS ws noT = false) :
    (∃ t r, σ = .inr (t :: r) ∧ pOn σ (pTake ws) = .inr (t, r) ∧ pOn σ (pOne ws) = .inr (t, r) ∧ anyS ws t = true ∧ (t.data.toList == []) = false) ∨
    (stX (pOn σ (pTake ws)) = σ ∧ res noT (pOn σ (pTake ws)) = noT ∧ stX (pOn σ (pOne ws)) = .inl (leftS σ) ∧ res noT (pOn σ (pOne ws)) = noT ∧ anyS ws (headS σ) = false) := by
  match σ with
  | .inl n => exact .inr ⟨rfl, rfl, rfl, rfl, hne⟩
  | .inr [] => exact .inr ⟨rfl, rfl, rfl, rfl, hne⟩
  | .inr (t :: r) =>
    simp only [pOn, pTake, pOne, headS, leftS, List.length_cons]
    by_cases h : anyS ws t = true
    · left
      refine ⟨t, r, rfl, if_pos h, if_pos h, h, ?_⟩
      rw [beq_eq_false_iff_ne]
      intro e
      have : t = noT := by rw [← ba_eq, e]; rfl
      rw [this, hne] at h
      cases h
    · right
      have h' : anyS ws t = false := by simpa using h
      unfold anyS at h
      rw [if_neg h, if_neg h]
      exact ⟨rfl, rfl, rfl, rfl, h'⟩
theorem name_cases (σ : Sg) : (∃ t r, σ = .inr (t :: r) ∧ pOn σ pName = .inr (t, r) ∧ nameK t.data.toList = true) ∨
    (stX (pOn σ pName) = .inl (leftS σ) ∧ res noT (pOn σ pName) = noT ∧ nameK (headS σ).data.toList = false) := by
  match σ with
  | .inl n => exact .inr ⟨rfl, rfl, by simp only [headS]; decide +kernel⟩
  | .inr [] => exact .inr ⟨rfl, rfl, by decide +kernel⟩
  | .inr (t :: r) =>
    simp only [pOn, pName, headS, leftS, List.length_cons]
    by_cases h : nameK t.data.toList = true
    · exact .inl ⟨t, r, rfl, if_pos h, h⟩
    · rw [if_neg h]; exact .inr ⟨rfl, rfl, by simpa using h⟩
theorem num_cases (σ : Sg) : (∃ t r, σ = .inr (t :: r) ∧ pOn σ pNum = .inr ((numA t.data.toList).1, r) ∧ (numA t.data.toList).2 = true) ∨
    (stX (pOn σ pNum) = .inl (leftS σ) ∧ res 0 (pOn σ pNum) = 0 ∧ (numA (headS σ).data.toList).2 = false) := by
  match σ with
  | .inl n => exact .inr ⟨rfl, rfl, by simp only [headS]; decide +kernel⟩
  | .inr [] => exact .inr ⟨rfl, rfl, by decide +kernel⟩
  | .inr (t :: r) =>
    simp only [pOn, pNum, headS, leftS, List.length_cons]
    by_cases h : (numA t.data.toList).2 = true
    · exact .inl ⟨t, r, rfl, if_pos h, h⟩
    · rw [if_neg h]; exact .inr ⟨rfl, rfl, by simpa using h⟩
theorem Rd.head {w : World} {g : Nat} {V : Value} {ts : List Tk} {E : Nat} {σ : Sg} (h : Rd w g V ts E σ) : (headS σ).size ≤ 140737488351232 := by
  match σ, h with
  | .inl n, h => simp only [headS, noT]; decide
  | .inr [], h => simp only [headS, noT]; decide
  | .inr (t :: r), h =>
    obtain ⟨n, hn, _⟩ := h.open
    obtain ⟨_, _, _, _, _, _, _, _, hs, _⟩ := h.at hn
    exact hs
end Go.Proofs.YtfffjfccochccaaDoor

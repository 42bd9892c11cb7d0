/- Sets in maps: what they hold, and what has, add, newName and newTag answer. -/
import Derived.Test.YtiiegphbhfiffaaKpFrame
import Derived.Test.YtiiegphbhfiffaaCkMath
import Derived.Test.YtiiegphbhfiffaaRuText
import Derived.Maps.OwnSet
import Derived.DeepKeys4
namespace Go.Proofs.Ytiiegphbhfiffaa
open Go.ChangeShapes Go.WideShapes Go.ChangeAt Go.RowKit Go.Maps
set_option linter.unusedVariables false
set_option linter.unusedSimpArgs false
set_option maxRecDepth 20000

/-- Block b is a set of at most n keys of type k: just those of the list. -/
def SetK (k : TypeId) (w : World) (b n : Nat) (L : List Value) : Prop :=
  ∃ D : DataW Unit, w.ownsMap Try.prog k (unitElem (H := Unit)) b n D ∧ ∀ v kl, keyOf Try.prog k v = some kl → (Maps.has D kl = true ↔ v ∈ L)
theorem SetK.lt {k : TypeId} {w : World} {b n : Nat} {L : List Value} (h : SetK k w b n L) : b < w.heap.size := by obtain ⟨D, h1, _⟩ := h; exact h1.lt
theorem SetK.made (k : TypeId) (w : World) : SetK k (w.alloc (.map #[] 0)) w.heap.size 0 [] :=
  ⟨.map [], World.ownsMap_made w Try.prog k unitElem, fun v kl _ => by simp [Maps.has]⟩
theorem SetK.kp {k : TypeId} {S : Nat → Prop} {w w1 : World} {b n : Nat} {L : List Value} (h : SetK k w b n L) (hk : Kp S w w1) (hs : ¬ S b) : SetK k w1 b n L := by
  have hlt := h.lt
  obtain ⟨D, ⟨es, clock, hb, r⟩, h2⟩ := h
  exact ⟨D, ⟨es, clock, (hk.block b hlt hs).trans hb, r⟩, h2⟩
theorem SetK.below {k : TypeId} {w w1 : World} {b n : Nat} {L : List Value} (h : SetK k w b n L) (hk : Below w.heap.size w w1) : SetK k w1 b n L := h.kp (S := fun _ => False) (Kp.ofBelow hk) (fun e => e)
theorem SetK.mono {k : TypeId} {w : World} {b n n' : Nat} {L : List Value} (h : SetK k w b n L) (hn : n ≤ n') : SetK k w b n' L := by
  obtain ⟨D, h1, h2⟩ := h; exact ⟨D, h1.mono hn, h2⟩
theorem SetK.put {k : TypeId} (K : Keyed Try.prog k) {w : World} {b n : Nat} {L : List Value} {D : DataW Unit} (hD : Maps.IsMap D) (h2 : ∀ v kl, keyOf Try.prog k v = some kl → (Maps.has D kl = true ↔ v ∈ L)) {v : Value} {kl : Lit} (hv : keyOf Try.prog k v = some kl) {u : DataW Unit}
    (h1 : w.ownsMap Try.prog k (unitElem (H := Unit)) b n (D.put kl u)) : SetK k w b n (L ++ [v]) := by
  refine ⟨_, h1, fun v' kl' hv' => ?_⟩
  by_cases e : kl' = kl
  · subst e
    have : v' = v := K.inj hv' hv
    subst this
    rw [Maps.has_put_same hD (K.key hv)]
    simp
  · rw [Maps.has_put_other e, h2 v' kl' hv']
    simp only [List.mem_append, List.mem_singleton]
    constructor
    · exact .inl
    · rintro (h | rfl)
      · exact h
      · rw [hv] at hv'; cases hv'; exact absurd rfl e
/-- A cell's block is no map's. -/
theorem SetK.ne {k : TypeId} {w : World} {b n : Nat} {L : List Value} (h : SetK k w b n L) {g : Nat} {p : Addr} {u : Value} (hc : w.cell? p = some u) (hg : p.block = g) : g ≠ b := by
  rintro rfl
  obtain ⟨D, ⟨es, clock, hb, _⟩, _⟩ := h
  obtain ⟨q, off, sp⟩ := p
  simp only at hg
  subst hg
  simp [World.cell?, hb] at hc
theorem zeroU (w : World) : (zeroValue 112).run Try.prog w = .ok (.agg #[]) w := by kernel_rfl
def SetS (w : World) (b n : Nat) (L : List ByteArray) : Prop := SetK 9 w b n (L.map Value.string)
def SetI (w : World) (b n : Nat) (L : List Int) : Prop := SetK 3 w b n (L.map (Value.int .i64))
def tyV (p : Int × ByteArray) : Value := .agg #[.int .i64 p.1, .string p.2]
def SetT (w : World) (b n : Nat) (L : List (Int × ByteArray)) : Prop := SetK 41 w b n (L.map tyV)
theorem lawS : Keyed Try.prog 9 := string_keyed Try.underlying9
theorem lawI : Keyed Try.prog 3 := int_keyed Try.underlying3
theorem laidOutP : laidOutB Try.prog = true := by kernel_rfl
theorem lawT : Keyed Try.prog 41 := Keyed.of_law (deep_law_laid laidOutP (m := 3) (by omega) (of_decide_eq_true (by kernel_rfl)) (by kernel_rfl) (by kernel_rfl))
/-- An integer of 64 bits. -/
def I64 (n : Int) : Prop := -9223372036854775808 ≤ n ∧ n ≤ 9223372036854775807
theorem wf64 {n : Int} (h : I64 n) : (Lit.int .i64 n).wf = true := WalkArith.wf_i64 (by obtain ⟨h1, h2⟩ := h; omega)
theorem key_str {s : ByteArray} (h : s.size ≤ 140737488351232) : keyOf Try.prog 9 (.string s) = some (.string s.data.toList) :=
  WideMaps.keyOf_string_mk (P := Try.prog) (k := 9) Try.underlying9 (s := s) (by unfold maxLen; omega)
theorem key_int {n : Int} (h : I64 n) : keyOf Try.prog 3 (.int .i64 n) = some (.int .i64 n) :=
  keyOf_int_mk (P := Try.prog) (k := 3) Try.underlying3 (wf64 h)
theorem keyTypeT : Try.prog.keyType 41 = true := by kernel_rfl
theorem cellsT : Try.prog.cellsOf 41 = 2 := by kernel_rfl
theorem cellsI : Try.prog.cellsOf 3 = 1 := by kernel_rfl
theorem cellsS : Try.prog.cellsOf 9 = 1 := by kernel_rfl
theorem lits_int {m : Nat} {k : Int} (hk : I64 k) : Try.prog.keyLits (m + 1) 3 [.int .i64 k] = some [.int .i64 k] := by
  simp [Program.keyLits, Try.underlying3, wf64 hk]
theorem lits_str {m : Nat} {s : ByteArray} (hs : s.size ≤ 140737488351232) : Try.prog.keyLits (m + 1) 9 [.string s] = some [.string s.data.toList] := by
  have : s.size ≤ maxLen := by unfold maxLen; omega
  simp [Program.keyLits, Try.underlying9, this]
theorem lits_ty {m : Nat} {k : Int} {s : ByteArray} (hk : I64 k) (hs : s.size ≤ 140737488351232) : Try.prog.keyLits (m + 2) 41 [.int .i64 k, .string s] = some [.int .i64 k, .string s.data.toList] := by
  unfold Program.keyLits
  simp only [Try.underlying41, cellsT]
  simp [cellsI, cellsS, lits_int hk, lits_str hs]
theorem key_ty {k : Int} {s : ByteArray} (hk : I64 k) (hs : s.size ≤ 140737488351232) : ∃ kl, keyOf Try.prog 41 (tyV (k, s)) = some kl := by
  obtain ⟨m, hm⟩ : ∃ m, Try.prog.types.size + 1 = m + 2 := ⟨Try.prog.types.size - 1, by have : 0 < Try.prog.types.size := of_decide_eq_true (by kernel_rfl); omega⟩
  have hf : (tyV (k, s)).formed Try.prog 41 = true := by simp [tyV, Value.formed, Try.underlying41, cellsT]
  unfold keyOf
  rw [hm, show (tyV (k, s)).cells.toList = [.int .i64 k, .string s] from rfl, lits_ty hk hs, keyTypeT, hf]
  simp only [Try.underlying41]
  exact ⟨_, rfl⟩
theorem mem_str {s : ByteArray} {L : List ByteArray} : Value.string s ∈ L.map Value.string ↔ s ∈ L := by
  simp only [List.mem_map, Value.string.injEq, exists_eq_right]
theorem mem_int {s : Int} {L : List Int} : Value.int .i64 s ∈ L.map (Value.int .i64) ↔ s ∈ L := by
  simp only [List.mem_map, Value.int.injEq, true_and, exists_eq_right]
theorem mem_ty {s : Int × ByteArray} {L : List (Int × ByteArray)} : tyV s ∈ L.map tyV ↔ s ∈ L := by
  simp only [List.mem_map, tyV, Value.agg.injEq, Array.mk.injEq, List.cons.injEq, Value.int.injEq, Value.string.injEq, true_and, and_true]
  constructor
  · rintro ⟨⟨a, b⟩, h1, h2, h3⟩; obtain ⟨c, d⟩ := s; simp only at h2 h3; subst h2 h3; exact h1
  · intro h; exact ⟨s, h, rfl, rfl⟩
theorem SetS.has {w : World} {b n : Nat} {L : List ByteArray} {D : DataW Unit} (h2 : ∀ v kl, keyOf Try.prog 9 v = some kl → (Maps.has D kl = true ↔ v ∈ L.map Value.string)) {s : ByteArray} (hs : s.size ≤ 140737488351232) : Maps.has D (.string s.data.toList) = memB s L := by
  rw [Bool.eq_iff_iff, h2 _ _ (key_str hs), mem_str, memB_iff]
theorem SetI.has {w : World} {b n : Nat} {L : List Int} {D : DataW Unit} (h2 : ∀ v kl, keyOf Try.prog 3 v = some kl → (Maps.has D kl = true ↔ v ∈ L.map (Value.int .i64))) {s : Int} (hs : I64 s) : Maps.has D (.int .i64 s) = memI s L := by
  rw [Bool.eq_iff_iff, h2 _ _ (key_int hs), mem_int]
  simp [memI]
set_option maxHeartbeats 1000000 in
theorem has_str {w : World} {b n : Nat} {L : List ByteArray} (h : SetS w b n L) {s : ByteArray} (hs : s.size ≤ 140737488351232) :
    Calls Try.prog 81 #[.map (some b), .string s] w fun e w' => e = .returned (.bool (memB s L)) ∧ Below w.heap.size w w' := by
  obtain ⟨D, hown, h2⟩ := h
  have HH : Hid (Maps.has D (.string s.data.toList) = memB s L) := SetS.has (w := w) (b := b) (n := n) h2 hs
  have hkey := key_str hs
  clear h2
  go_enter Try.func81, Try.ntmps81
  go_wp2_with (first
    | (at_lookup; refine wpList_lookup_own_unit _ rfl _ _ 100 rfl 9 112 lawS Try.underlying100 (zeroU _) b n D rfl hown _ _ rfl hkey ?_)
    | fail)
  go_ret
  exact ⟨ret_bool HH.out, ((Below.refl _ _).alloc (Nat.le_refl _) _)⟩
set_option maxHeartbeats 1000000 in
theorem has_int {w : World} {b n : Nat} {L : List Int} (h : SetI w b n L) {s : Int} (hs : I64 s) :
    Calls Try.prog 82 #[.map (some b), .int .i64 s] w fun e w' => e = .returned (.bool (memI s L)) ∧ Below w.heap.size w w' := by
  obtain ⟨D, hown, h2⟩ := h
  have HH : Hid (Maps.has D (.int .i64 s) = memI s L) := SetI.has (w := w) (b := b) (n := n) h2 hs
  have hkey := key_int hs
  clear h2
  go_enter Try.func82, Try.ntmps82
  go_wp2_with (first
    | (at_lookup; refine wpList_lookup_own_unit _ rfl _ _ 126 rfl 3 112 lawI Try.underlying126 (zeroU _) b n D rfl hown _ _ rfl hkey ?_)
    | fail)
  go_ret
  exact ⟨ret_bool HH.out, ((Below.refl _ _).alloc (Nat.le_refl _) _)⟩
def memT (p : Int × ByteArray) (L : List (Int × ByteArray)) : Bool := L.any fun q => decide (p = q)
theorem memT_iff {p : Int × ByteArray} {L : List (Int × ByteArray)} : memT p L = true ↔ p ∈ L := by simp [memT]
set_option maxHeartbeats 1000000 in
theorem has_ty {w : World} {b n : Nat} {L : List (Int × ByteArray)} (h : SetT w b n L) {k : Int} {s : ByteArray} (hk : I64 k) (hs : s.size ≤ 140737488351232) :
    Calls Try.prog 59 #[.map (some b), .agg #[.int .i64 k, .string s]] w fun e w' => e = .returned (.bool (memT (k, s) L)) ∧ Below w.heap.size w w' := by
  obtain ⟨D, hown, h2⟩ := h
  obtain ⟨kl, hkey⟩ := key_ty hk hs
  have HH : Hid (Maps.has D kl = memT (k, s) L) := by
    show _ = _
    rw [Bool.eq_iff_iff, h2 _ _ hkey, mem_ty, memT_iff]
  unfold tyV at hkey
  simp only at hkey
  clear h2
  go_enter Try.func59, Try.ntmps59
  go_wp2_with (first
    | (at_lookup; refine wpList_lookup_own_unit _ rfl _ _ 97 rfl 41 112 lawT Try.underlying97 (zeroU _) b n D rfl (hown.alloc _) _ _ rfl hkey ?_)
    | fail)
  go_ret
  exact ⟨ret_bool HH.out, ((Below.refl _ _).alloc (Nat.le_refl _) _).alloc (by simp) _⟩
set_option maxHeartbeats 1000000 in
theorem add_str {w : World} {b n : Nat} {L : List ByteArray} (h : SetS w b n L) {s : ByteArray} (hs : s.size ≤ 140737488351232) (hn : n < 1000000) :
    Calls Try.prog 71 #[.map (some b), .string s] w fun e w' => e = .returned (.bool (!memB s L)) ∧ (memB s L = false → SetS w' b (n + 1) (L ++ [s])) ∧ Kp (fun k => k = b) w w' := by
  have HS : Hid (SetS w b n L) := h
  clear h
  have hkey := key_str hs
  cases hm : memB s L
  · go_enter Try.func71, Try.ntmps71
    go_wp2_with fail
    refine (has_str HS.out hs).mono ?_
    rintro e w1 ⟨rfl, hb1⟩
    rw [hm]
    obtain ⟨D, hown, h2⟩ := HS.out.below hb1
    have H2 : Hid _ := h2
    clear h2
    go_wp2_with (first
      | (at_mapUpdate; refine wpList_mapUpdate_own _ rfl _ _ _ 100 rfl 9 112 lawS Try.underlying100 (unitElem (H := Unit)) b n _ rfl hown (by unfold maxLen; omega) _ _ _ rfl rfl hkey _ [] unitElem_mk ?_; intro w2 hown1 hgrow1)
      | fail)
    go_ret
    refine ⟨rfl, fun _ => ?_, (Kp.ofBelow hb1).grown hgrow1 (fun k hk _ => by cases hk; rfl)⟩
    have := SetK.put lawS hown.isMap H2.out hkey hown1
    unfold SetS
    rw [List.map_append]
    exact this
  · go_enter Try.func71, Try.ntmps71
    go_wp2_with fail
    refine (has_str HS.out hs).mono ?_
    rintro e w1 ⟨rfl, hb1⟩
    rw [hm]
    go_wp2_with fail
    go_ret
    exact ⟨rfl, (fun e => by cases e), Kp.ofBelow hb1⟩
set_option maxHeartbeats 1000000 in
theorem add_int {w : World} {b n : Nat} {L : List Int} (h : SetI w b n L) {s : Int} (hs : I64 s) (hn : n < 1000000) :
    Calls Try.prog 72 #[.map (some b), .int .i64 s] w fun e w' => e = .returned (.bool (!memI s L)) ∧ (memI s L = false → SetI w' b (n + 1) (L ++ [s])) ∧ Kp (fun k => k = b) w w' := by
  have HS : Hid (SetI w b n L) := h
  clear h
  have hkey := key_int hs
  cases hm : memI s L
  · go_enter Try.func72, Try.ntmps72
    go_wp2_with fail
    refine (has_int HS.out hs).mono ?_
    rintro e w1 ⟨rfl, hb1⟩
    rw [hm]
    obtain ⟨D, hown, h2⟩ := HS.out.below hb1
    have H2 : Hid _ := h2
    clear h2
    go_wp2_with (first
      | (at_mapUpdate; refine wpList_mapUpdate_own _ rfl _ _ _ 126 rfl 3 112 lawI Try.underlying126 (unitElem (H := Unit)) b n _ rfl hown (by unfold maxLen; omega) _ _ _ rfl rfl hkey _ [] unitElem_mk ?_; intro w2 hown1 hgrow1)
      | fail)
    go_ret
    refine ⟨rfl, fun _ => ?_, (Kp.ofBelow hb1).grown hgrow1 (fun k hk _ => by cases hk; rfl)⟩
    have := SetK.put lawI hown.isMap H2.out hkey hown1
    unfold SetI
    rw [List.map_append]
    exact this
  · go_enter Try.func72, Try.ntmps72
    go_wp2_with fail
    refine (has_int HS.out hs).mono ?_
    rintro e w1 ⟨rfl, hb1⟩
    rw [hm]
    go_wp2_with fail
    go_ret
    exact ⟨rfl, (fun e => by cases e), Kp.ofBelow hb1⟩
set_option maxHeartbeats 1000000 in
theorem newname_any {w : World} {b n : Nat} {L : List ByteArray} (h : SetS w b n L) {s : ByteArray} (hs : s.size ≤ 140737488351232) (hn : n < 1000000) :
    Calls Try.prog 53 #[.map (some b), .string s] w fun e w' => e = .returned (.bool (freshB s L)) ∧ (freshB s L = true → SetS w' b (n + 1) (L ++ [s])) ∧ Kp (fun k => k = b) w w' := by
  have HS : Hid (SetS w b n L) := h
  clear h
  cases hm : nameB s
  · have HF : Hid (false = freshB s L) := by show _ = _; unfold freshB; rw [hm]; rfl
    go_enter Try.func53, Try.ntmps53
    go_wp2_with fail
    refine (name_any s _ hs).mono ?_
    rintro e w1 ⟨rfl, hb1⟩
    rw [hm]
    go_wp2_with fail
    go_ret
    exact ⟨ret_bool HF.out, (fun e => by rw [← HF.out] at e; cases e), Kp.ofBelow hb1⟩
  · have HF : Hid ((!memB s L) = freshB s L) := by show _ = _; unfold freshB; rw [hm]; rfl
    go_enter Try.func53, Try.ntmps53
    go_wp2_with fail
    refine (name_any s _ hs).mono ?_
    rintro e w1 ⟨rfl, hb1⟩
    rw [hm]
    go_wp2_with fail
    refine (add_str (SetK.below HS.out hb1) hs hn).mono ?_
    rintro e w2 ⟨rfl, h2, hk2⟩
    have H2 : Hid _ := h2
    clear h2
    go_wp2_with fail
    go_ret
    exact ⟨ret_bool HF.out, (fun e => H2.out (by rw [← HF.out] at e; simpa using e)), (Kp.ofBelow hb1).trans hk2⟩
set_option maxHeartbeats 1000000 in
theorem newtag_any {w : World} {b n : Nat} {L : List Int} (h : SetI w b n L) {s : Int} (hs : I64 s) (hn : n < 1000000) :
    Calls Try.prog 54 #[.map (some b), .int .i64 s] w fun e w' => e = .returned (.bool (tagB s L)) ∧ (tagB s L = true → SetI w' b (n + 1) (L ++ [s])) ∧ Kp (fun k => k = b) w w' := by
  have HS : Hid (SetI w b n L) := h
  clear h
  by_cases h1 : 1 ≤ s
  · by_cases h5 : s ≤ 500
    · have HF : Hid ((!memI s L) = tagB s L) := by show _ = _; unfold tagB tagR; rw [decide_eq_true (And.intro h1 h5)]; rfl
      go_enter Try.func54, Try.ntmps54
      go_wp2_with fail
      refine (add_int HS.out hs hn).mono ?_
      rintro e w2 ⟨rfl, h2, hk2⟩
      have H2 : Hid _ := h2
      clear h2
      go_wp2_with fail
      go_ret
      exact ⟨ret_bool HF.out, (fun e => H2.out (by rw [← HF.out] at e; simpa using e)), hk2⟩
    · have hd : decide (s ≤ 500) = false := by simpa using h5
      have HF : Hid (false = tagB s L) := by show _ = _; unfold tagB tagR; rw [decide_eq_false (fun e => h5 e.2)]; rfl
      go_enter Try.func54, Try.ntmps54
      go_wp2_with fail
      go_ret
      exact ⟨ret_bool HF.out, (fun e => by rw [← HF.out] at e; cases e), Kp.refl _ _⟩
  · have hd : decide (1 ≤ s) = false := by simpa using h1
    have HF : Hid (false = tagB s L) := by show _ = _; unfold tagB tagR; rw [decide_eq_false (fun e => h1 e.1)]; rfl
    go_enter Try.func54, Try.ntmps54
    go_wp2_with fail
    go_ret
    exact ⟨ret_bool HF.out, (fun e => by rw [← HF.out] at e; cases e), Kp.refl _ _⟩
end Go.Proofs.Ytiiegphbhfiffaa

/- Sets in maps: what they hold, and what has, add, newName and newTag answer. -/
import Derived.Maps.OwnSet
import Derived.DeepKeys4
import Derived.OrdersHeld
import Derived.Deep.RegionHeld3
import Derived.WalkKit
import Derived.Test.YtfnjbbaphmmjlaaGreatPkA
import Derived.Test.YtfnjbbaphmmjlaaGreatPkC
import Derived.Test.YtfnjbbaphmmjlaaGreatPkB
namespace Go.Proofs.YtfnjbbaphmmjlaaGreat
open Go.ChangeShapes Go.WideShapes Go.ChangeAt Go.RowKit Go.Maps
set_option linter.unusedVariables false
set_option linter.unusedSimpArgs false
set_option maxRecDepth 20000

/-- Block b is a set of at most n keys of type k: just those of the list. -/
def SetK (k : TypeId) (w : World) (b n : Nat) (L : List Value) : Prop :=
  ∃ D : DataW Unit, w.ownsMap Tryz.prog k (unitElem (H := Unit)) b n D ∧ ∀ v kl, keyOf Tryz.prog k v = some kl → (Maps.has D kl = true ↔ v ∈ L)
theorem SetK.lt {k : TypeId} {w : World} {b n : Nat} {L : List Value} (h : SetK k w b n L) : b < w.heap.size := by obtain ⟨D, h1, _⟩ := h; exact h1.lt
theorem SetK.made (k : TypeId) (w : World) : SetK k (w.alloc (.map #[] 0)) w.heap.size 0 [] :=
  ⟨.map [], World.ownsMap_made w Tryz.prog k unitElem, fun v kl _ => by simp [Maps.has]⟩
theorem SetK.kp {k : TypeId} {S : Nat → Prop} {w w1 : World} {b n : Nat} {L : List Value} (h : SetK k w b n L) (hk : Kp S w w1) (hs : ¬ S b) : SetK k w1 b n L := by
  have hlt := h.lt
  obtain ⟨D, ⟨es, clock, hb, r⟩, h2⟩ := h
  exact ⟨D, ⟨es, clock, (hk.block b hlt hs).trans hb, r⟩, h2⟩
theorem SetK.below {k : TypeId} {w w1 : World} {b n : Nat} {L : List Value} (h : SetK k w b n L) (hk : Below w.heap.size w w1) : SetK k w1 b n L := h.kp (S := fun _ => False) (Kp.ofBelow hk) (fun e => e)
theorem SetK.mono {k : TypeId} {w : World} {b n n' : Nat} {L : List Value} (h : SetK k w b n L) (hn : n ≤ n') : SetK k w b n' L := by
  obtain ⟨D, h1, h2⟩ := h; exact ⟨D, h1.mono hn, h2⟩
theorem SetK.put {k : TypeId} (K : Keyed Tryz.prog k) {w : World} {b n : Nat} {L : List Value} {D : DataW Unit} (hD : Maps.IsMap D) (h2 : ∀ v kl, keyOf Tryz.prog k v = some kl → (Maps.has D kl = true ↔ v ∈ L)) {v : Value} {kl : Lit} (hv : keyOf Tryz.prog k v = some kl) {u : DataW Unit}
    (h1 : w.ownsMap Tryz.prog k (unitElem (H := Unit)) b n (D.put kl u)) : SetK k w b n (L ++ [v]) := by
  refine ⟨_, h1, fun v' kl' hv' => ?_⟩
  by_cases e : kl' = kl
  · subst e
    have : v' = v := K.inj hv' hv
    subst this
    rw [Maps.has_put_same hD (K.key hv)]
    simp
  · rw [Maps.has_put_other e, h2 v' kl' hv']
    simp only [List.mem_append, List.mem_singleton]
    constructor
    · exact .inl
    · rintro (h | rfl)
      · exact h
      · rw [hv] at hv'; cases hv'; exact absurd rfl e
/-- A cell's block is no map's. -/
theorem SetK.ne {k : TypeId} {w : World} {b n : Nat} {L : List Value} (h : SetK k w b n L) {g : Nat} {p : Addr} {u : Value} (hc : w.cell? p = some u) (hg : p.block = g) : g ≠ b := by
  rintro rfl
  obtain ⟨D, ⟨es, clock, hb, _⟩, _⟩ := h
  obtain ⟨q, off, sp⟩ := p
  simp only at hg
  subst hg
  simp [World.cell?, hb] at hc
theorem zeroU (w : World) : (zeroValue 120).run Tryz.prog w = .ok (.agg #[]) w := by kernel_rfl
def SetS (w : World) (b n : Nat) (L : List ByteArray) : Prop := SetK 9 w b n (L.map Value.string)
def SetI (w : World) (b n : Nat) (L : List Int) : Prop := SetK 3 w b n (L.map (Value.int .i64))
def tyV (p : Int × ByteArray) : Value := .agg #[.int .i64 p.1, .string p.2]
def SetT (w : World) (b n : Nat) (L : List (Int × ByteArray)) : Prop := SetK 32 w b n (L.map tyV)
theorem lawS : Keyed Tryz.prog 9 := string_keyed Tryz.underlying9
theorem lawI : Keyed Tryz.prog 3 := int_keyed Tryz.underlying3
theorem laidOutP : laidOutB Tryz.prog = true := by kernel_rfl
theorem lawT : Keyed Tryz.prog 32 := Keyed.of_law (deep_law_laid laidOutP (m := 3) (by omega) (of_decide_eq_true (by kernel_rfl)) (by kernel_rfl) (by kernel_rfl))
/-- An integer of 64 bits. -/
def I64 (n : Int) : Prop := -9223372036854775808 ≤ n ∧ n ≤ 9223372036854775807
theorem wf64 {n : Int} (h : I64 n) : (Lit.int .i64 n).wf = true := WalkArith.wf_i64 (by obtain ⟨h1, h2⟩ := h; omega)
theorem key_str {s : ByteArray} (h : s.size ≤ 140737488351232) : keyOf Tryz.prog 9 (.string s) = some (.string s.data.toList) :=
  WideMaps.keyOf_string_mk (P := Tryz.prog) (k := 9) Tryz.underlying9 (s := s) (by unfold maxLen; omega)
theorem key_int {n : Int} (h : I64 n) : keyOf Tryz.prog 3 (.int .i64 n) = some (.int .i64 n) :=
  keyOf_int_mk (P := Tryz.prog) (k := 3) Tryz.underlying3 (wf64 h)
theorem keyTypeT : Tryz.prog.keyType 32 = true := by kernel_rfl
theorem cellsT : Tryz.prog.cellsOf 32 = 2 := by kernel_rfl
theorem cellsI : Tryz.prog.cellsOf 3 = 1 := by kernel_rfl
theorem cellsS : Tryz.prog.cellsOf 9 = 1 := by kernel_rfl
theorem lits_int {m : Nat} {k : Int} (hk : I64 k) : Tryz.prog.keyLits (m + 1) 3 [.int .i64 k] = some [.int .i64 k] := by
  simp [Program.keyLits, Tryz.underlying3, wf64 hk]
theorem lits_str {m : Nat} {s : ByteArray} (hs : s.size ≤ 140737488351232) : Tryz.prog.keyLits (m + 1) 9 [.string s] = some [.string s.data.toList] := by
  have : s.size ≤ maxLen := by unfold maxLen; omega
  simp [Program.keyLits, Tryz.underlying9, this]
theorem lits_ty {m : Nat} {k : Int} {s : ByteArray} (hk : I64 k) (hs : s.size ≤ 140737488351232) : Tryz.prog.keyLits (m + 2) 32 [.int .i64 k, .string s] = some [.int .i64 k, .string s.data.toList] := by
  unfold Program.keyLits
  simp only [Tryz.underlying32, cellsT]
  simp [cellsI, cellsS, lits_int hk, lits_str hs]
theorem key_ty {k : Int} {s : ByteArray} (hk : I64 k) (hs : s.size ≤ 140737488351232) : ∃ kl, keyOf Tryz.prog 32 (tyV (k, s)) = some kl := by
  obtain ⟨m, hm⟩ : ∃ m, Tryz.prog.types.size + 1 = m + 2 := ⟨Tryz.prog.types.size - 1, by have : 0 < Tryz.prog.types.size := of_decide_eq_true (by kernel_rfl); omega⟩
  have hf : (tyV (k, s)).formed Tryz.prog 32 = true := by simp [tyV, Value.formed, Tryz.underlying32, cellsT]
  unfold keyOf
  rw [hm, show (tyV (k, s)).cells.toList = [.int .i64 k, .string s] from rfl, lits_ty hk hs, keyTypeT, hf]
  simp only [Tryz.underlying32]
  exact ⟨_, rfl⟩
theorem mem_str {s : ByteArray} {L : List ByteArray} : Value.string s ∈ L.map Value.string ↔ s ∈ L := by
  simp only [List.mem_map, Value.string.injEq, exists_eq_right]
theorem mem_int {s : Int} {L : List Int} : Value.int .i64 s ∈ L.map (Value.int .i64) ↔ s ∈ L := by
  simp only [List.mem_map, Value.int.injEq, true_and, exists_eq_right]
theorem mem_ty {s : Int × ByteArray} {L : List (Int × ByteArray)} : tyV s ∈ L.map tyV ↔ s ∈ L := by
  simp only [List.mem_map, tyV, Value.agg.injEq, Array.mk.injEq, List.cons.injEq, Value.int.injEq, Value.string.injEq, true_and, and_true]
  constructor
  · rintro ⟨⟨a, b⟩, h1, h2, h3⟩; obtain ⟨c, d⟩ := s; simp only at h2 h3; subst h2 h3; exact h1
  · intro h; exact ⟨s, h, rfl, rfl⟩
theorem SetS.has {w : World} {b n : Nat} {L : List ByteArray} {D : DataW Unit} (h2 : ∀ v kl, keyOf Tryz.prog 9 v = some kl → (Maps.has D kl = true ↔ v ∈ L.map Value.string)) {s : ByteArray} (hs : s.size ≤ 140737488351232) : Maps.has D (.string s.data.toList) = memB s L := by
  rw [Bool.eq_iff_iff, h2 _ _ (key_str hs), mem_str, memB_iff]
theorem SetI.has {w : World} {b n : Nat} {L : List Int} {D : DataW Unit} (h2 : ∀ v kl, keyOf Tryz.prog 3 v = some kl → (Maps.has D kl = true ↔ v ∈ L.map (Value.int .i64))) {s : Int} (hs : I64 s) : Maps.has D (.int .i64 s) = memI s L := by
  rw [Bool.eq_iff_iff, h2 _ _ (key_int hs), mem_int]
  simp [memI]
set_option maxHeartbeats 1000000 in
theorem has_str {w : World} {b n : Nat} {L : List ByteArray} (h : SetS w b n L) {s : ByteArray} (hs : s.size ≤ 140737488351232) :
    Calls Tryz.prog 123 #[.map (some b), .string s] w fun e w' => e = .returned (.bool (memB s L)) ∧ Below w.heap.size w w' := by
  obtain ⟨D, hown, h2⟩ := h
  have HH : Hid (Maps.has D (.string s.data.toList) = memB s L) := SetS.has (w := w) (b := b) (n := n) h2 hs
  have hkey := key_str hs
  clear h2
  go_enter Tryz.func123, Tryz.ntmps123
  go_wp2_with (first
    | (at_lookup; refine wpList_lookup_own_unit _ rfl _ _ 101 rfl 9 120 lawS Tryz.underlying101 (zeroU _) b n D rfl hown _ _ rfl hkey ?_)
    | fail)
  go_ret
  exact ⟨ret_bool HH.out, ((Below.refl _ _).alloc (Nat.le_refl _) _)⟩
set_option maxHeartbeats 1000000 in
theorem has_int {w : World} {b n : Nat} {L : List Int} (h : SetI w b n L) {s : Int} (hs : I64 s) :
    Calls Tryz.prog 124 #[.map (some b), .int .i64 s] w fun e w' => e = .returned (.bool (memI s L)) ∧ Below w.heap.size w w' := by
  obtain ⟨D, hown, h2⟩ := h
  have HH : Hid (Maps.has D (.int .i64 s) = memI s L) := SetI.has (w := w) (b := b) (n := n) h2 hs
  have hkey := key_int hs
  clear h2
  go_enter Tryz.func124, Tryz.ntmps124
  go_wp2_with (first
    | (at_lookup; refine wpList_lookup_own_unit _ rfl _ _ 144 rfl 3 120 lawI Tryz.underlying144 (zeroU _) b n D rfl hown _ _ rfl hkey ?_)
    | fail)
  go_ret
  exact ⟨ret_bool HH.out, ((Below.refl _ _).alloc (Nat.le_refl _) _)⟩
def memT (p : Int × ByteArray) (L : List (Int × ByteArray)) : Bool := L.any fun q => decide (p = q)
theorem memT_iff {p : Int × ByteArray} {L : List (Int × ByteArray)} : memT p L = true ↔ p ∈ L := by simp [memT]
set_option maxHeartbeats 1000000 in
theorem has_ty {w : World} {b n : Nat} {L : List (Int × ByteArray)} (h : SetT w b n L) {k : Int} {s : ByteArray} (hk : I64 k) (hs : s.size ≤ 140737488351232) :
    Calls Tryz.prog 92 #[.map (some b), .agg #[.int .i64 k, .string s]] w fun e w' => e = .returned (.bool (memT (k, s) L)) ∧ Below w.heap.size w w' := by
  obtain ⟨D, hown, h2⟩ := h
  obtain ⟨kl, hkey⟩ := key_ty hk hs
  have HH : Hid (Maps.has D kl = memT (k, s) L) := by
    show _ = _
    rw [Bool.eq_iff_iff, h2 _ _ hkey, mem_ty, memT_iff]
  unfold tyV at hkey
  simp only at hkey
  clear h2
  go_enter Tryz.func92, Tryz.ntmps92
  go_wp2_with (first
    | (at_lookup; refine wpList_lookup_own_unit _ rfl _ _ 98 rfl 32 120 lawT Tryz.underlying98 (zeroU _) b n D rfl (hown.alloc _) _ _ rfl hkey ?_)
    | fail)
  go_ret
  exact ⟨ret_bool HH.out, ((Below.refl _ _).alloc (Nat.le_refl _) _).alloc (by simp) _⟩
set_option maxHeartbeats 1000000 in
theorem add_str {w : World} {b n : Nat} {L : List ByteArray} (h : SetS w b n L) {s : ByteArray} (hs : s.size ≤ 140737488351232) (hn : n < 1000000) :
    Calls Tryz.prog 111 #[.map (some b), .string s] w fun e w' => e = .returned (.bool (!memB s L)) ∧ (memB s L = false → SetS w' b (n + 1) (L ++ [s])) ∧ Kp (fun k => k = b) w w' := by
  have HS : Hid (SetS w b n L) := h
  clear h
  have hkey := key_str hs
  cases hm : memB s L
  · go_enter Tryz.func111, Tryz.ntmps111
    go_wp2_with fail
    refine (has_str HS.out hs).mono ?_
    rintro e w1 ⟨rfl, hb1⟩
    rw [hm]
    obtain ⟨D, hown, h2⟩ := HS.out.below hb1
    have H2 : Hid _ := h2
    clear h2
    go_wp2_with (first
      | (at_mapUpdate; refine wpList_mapUpdate_own _ rfl _ _ _ 101 rfl 9 120 lawS Tryz.underlying101 (unitElem (H := Unit)) b n _ rfl hown (by unfold maxLen; omega) _ _ _ rfl rfl hkey _ [] unitElem_mk ?_; intro w2 hown1 hgrow1)
      | fail)
    go_ret
    refine ⟨rfl, fun _ => ?_, (Kp.ofBelow hb1).grown hgrow1 (fun k hk _ => by cases hk; rfl)⟩
    have := SetK.put lawS hown.isMap H2.out hkey hown1
    unfold SetS
    rw [List.map_append]
    exact this
  · go_enter Tryz.func111, Tryz.ntmps111
    go_wp2_with fail
    refine (has_str HS.out hs).mono ?_
    rintro e w1 ⟨rfl, hb1⟩
    rw [hm]
    go_wp2_with fail
    go_ret
    exact ⟨rfl, (fun e => by cases e), Kp.ofBelow hb1⟩
set_option maxHeartbeats 1000000 in
theorem add_int {w : World} {b n : Nat} {L : List Int} (h : SetI w b n L) {s : Int} (hs : I64 s) (hn : n < 1000000) :
    Calls Tryz.prog 112 #[.map (some b), .int .i64 s] w fun e w' => e = .returned (.bool (!memI s L)) ∧ (memI s L = false → SetI w' b (n + 1) (L ++ [s])) ∧ Kp (fun k => k = b) w w' := by
  have HS : Hid (SetI w b n L) := h
  clear h
  have hkey := key_int hs
  cases hm : memI s L
  · go_enter Tryz.func112, Tryz.ntmps112
    go_wp2_with fail
    refine (has_int HS.out hs).mono ?_
    rintro e w1 ⟨rfl, hb1⟩
    rw [hm]
    obtain ⟨D, hown, h2⟩ := HS.out.below hb1
    have H2 : Hid _ := h2
    clear h2
    go_wp2_with (first
      | (at_mapUpdate; refine wpList_mapUpdate_own _ rfl _ _ _ 144 rfl 3 120 lawI Tryz.underlying144 (unitElem (H := Unit)) b n _ rfl hown (by unfold maxLen; omega) _ _ _ rfl rfl hkey _ [] unitElem_mk ?_; intro w2 hown1 hgrow1)
      | fail)
    go_ret
    refine ⟨rfl, fun _ => ?_, (Kp.ofBelow hb1).grown hgrow1 (fun k hk _ => by cases hk; rfl)⟩
    have := SetK.put lawI hown.isMap H2.out hkey hown1
    unfold SetI
    rw [List.map_append]
    exact this
  · go_enter Tryz.func112, Tryz.ntmps112
    go_wp2_with fail
    refine (has_int HS.out hs).mono ?_
    rintro e w1 ⟨rfl, hb1⟩
    rw [hm]
    go_wp2_with fail
    go_ret
    exact ⟨rfl, (fun e => by cases e), Kp.ofBelow hb1⟩
set_option maxHeartbeats 1000000 in
theorem newname_any {w : World} {b n : Nat} {L : List ByteArray} (h : SetS w b n L) {s : ByteArray} (hs : s.size ≤ 140737488351232) (hn : n < 1000000) :
    Calls Tryz.prog 86 #[.map (some b), .string s] w fun e w' => e = .returned (.bool (freshB s L)) ∧ (freshB s L = true → SetS w' b (n + 1) (L ++ [s])) ∧ Kp (fun k => k = b) w w' := by
  have HS : Hid (SetS w b n L) := h
  clear h
  cases hm : nameB s
  · have HF : Hid (false = freshB s L) := by show _ = _; unfold freshB; rw [hm]; rfl
    go_enter Tryz.func86, Tryz.ntmps86
    go_wp2_with fail
    refine (name_any s _ hs).mono ?_
    rintro e w1 ⟨rfl, hb1⟩
    rw [hm]
    go_wp2_with fail
    go_ret
    exact ⟨ret_bool HF.out, (fun e => by rw [← HF.out] at e; cases e), Kp.ofBelow hb1⟩
  · have HF : Hid ((!memB s L) = freshB s L) := by show _ = _; unfold freshB; rw [hm]; rfl
    go_enter Tryz.func86, Tryz.ntmps86
    go_wp2_with fail
    refine (name_any s _ hs).mono ?_
    rintro e w1 ⟨rfl, hb1⟩
    rw [hm]
    go_wp2_with fail
    refine (add_str (SetK.below HS.out hb1) hs hn).mono ?_
    rintro e w2 ⟨rfl, h2, hk2⟩
    have H2 : Hid _ := h2
    clear h2
    go_wp2_with fail
    go_ret
    exact ⟨ret_bool HF.out, (fun e => H2.out (by rw [← HF.out] at e; simpa using e)), (Kp.ofBelow hb1).trans hk2⟩
set_option maxHeartbeats 1000000 in
theorem newtag_any {w : World} {b n : Nat} {L : List Int} (h : SetI w b n L) {s : Int} (hs : I64 s) (hn : n < 1000000) :
    Calls Tryz.prog 87 #[.map (some b), .int .i64 s] w fun e w' => e = .returned (.bool (tagB s L)) ∧ (tagB s L = true → SetI w' b (n + 1) (L ++ [s])) ∧ Kp (fun k => k = b) w w' := by
  have HS : Hid (SetI w b n L) := h
  clear h
  by_cases h1 : 1 ≤ s
  · by_cases h5 : s ≤ 500
    · have HF : Hid ((!memI s L) = tagB s L) := by show _ = _; unfold tagB tagR; rw [decide_eq_true (And.intro h1 h5)]; rfl
      go_enter Tryz.func87, Tryz.ntmps87
      go_wp2_with fail
      refine (add_int HS.out hs hn).mono ?_
      rintro e w2 ⟨rfl, h2, hk2⟩
      have H2 : Hid _ := h2
      clear h2
      go_wp2_with fail
      go_ret
      exact ⟨ret_bool HF.out, (fun e => H2.out (by rw [← HF.out] at e; simpa using e)), hk2⟩
    · have hd : decide (s ≤ 500) = false := by simpa using h5
      have HF : Hid (false = tagB s L) := by show _ = _; unfold tagB tagR; rw [decide_eq_false (fun e => h5 e.2)]; rfl
      go_enter Tryz.func87, Tryz.ntmps87
      go_wp2_with fail
      go_ret
      exact ⟨ret_bool HF.out, (fun e => by rw [← HF.out] at e; cases e), Kp.refl _ _⟩
  · have hd : decide (1 ≤ s) = false := by simpa using h1
    have HF : Hid (false = tagB s L) := by show _ = _; unfold tagB tagR; rw [decide_eq_false (fun e => h1 e.1)]; rfl
    go_enter Tryz.func87, Tryz.ntmps87
    go_wp2_with fail
    go_ret
    exact ⟨ret_bool HF.out, (fun e => by rw [← HF.out] at e; cases e), Kp.refl _ _⟩
end Go.Proofs.YtfnjbbaphmmjlaaGreat

/- Rows and blocks beside a set that is written; what the small calls answer. -/
namespace Go.Proofs.YtfnjbbaphmmjlaaGreat
open Go.ChangeShapes Go.WideShapes Go.ChangeAt Go.RowKit Go.Maps
set_option linter.unusedVariables false
set_option linter.unusedSimpArgs false
set_option maxRecDepth 20000

theorem RowG.kpM {S : Nat → Prop} {w w1 : World} {v : Value} {size : Nat} {rs : List (List Value)} (h : RowG w v size rs) (hk : Kp S w w1) (hs : ∀ p u, w.cell? p = some u → ¬ S p.block) : RowG w1 v size rs := by
  obtain ⟨a, cap, h1, h2, h3, h0, h4⟩ := h.form
  refine ⟨a, cap, h1, h2, h3, h0, fun hne => ?_⟩
  obtain ⟨g, off, h5, h6⟩ := h4 hne
  exact ⟨g, off, h5, fun i c u j hc hu => hk.cell (h6 i c u j hc hu) (hs _ _ (h6 i c u j hc hu))⟩
theorem SetK.no {k : TypeId} {w : World} {b n : Nat} {L : List Value} (h : SetK k w b n L) : ∀ p u, w.cell? p = some u → ¬ p.block = b := fun p u hc => h.ne hc rfl
theorem Kp.new {S : Nat → Prop} {w wr w1 : World} {b : Nat} (h : Kp S w wr) (h1 : Kp (fun k => k = b) wr w1) (hb : w.heap.size ≤ b) : Kp S w w1 := h.trans2 h1 (fun i hi e => by omega)
/-- What came in fits. -/
def FlW (f : FlS) : Prop := f.name.size ≤ 140737488351232 ∧ f.tname.size ≤ 140737488351232 ∧ I64 f.tag ∧ I64 f.label ∧ I64 f.kind
def NmW (f : NmS) : Prop := f.name.size ≤ 140737488351232 ∧ I64 f.n
def MtW (f : MtS) : Prop := f.name.size ≤ 140737488351232 ∧ f.inn.size ≤ 140737488351232 ∧ f.out.size ≤ 140737488351232
def MsW (m : MsS) : Prop := m.name.size ≤ 140737488351232 ∧ (∀ f ∈ m.fields, FlW f) ∧ ∀ n ∈ m.reserved, I64 n
def EnW (m : EnS) : Prop := m.name.size ≤ 140737488351232 ∧ ∀ f ∈ m.values, NmW f
structure ScW (s : ScS) : Prop where
  name : s.name.size ≤ 140737488351232
  msgs : ∀ m ∈ s.msgs, MsW m
  enums : ∀ m ∈ s.enums, EnW m
  meths : ∀ m ∈ s.methods, MtW m
set_option maxHeartbeats 1000000 in
theorem islabel_any (n : Int) (w : World) : Calls Tryz.prog 113 #[.int .i64 n] w fun e w' => e = .returned (.bool (labB n)) ∧ w' = w := by
  by_cases h1 : n = 1
  · subst h1
    go_enter Tryz.func113, Tryz.ntmps113
    go_wp2_with fail
    go_ret
    exact ⟨rfl, rfl⟩
  · by_cases h2 : n = 2
    · subst h2
      go_enter Tryz.func113, Tryz.ntmps113
      go_wp2_with fail
      go_ret
      exact ⟨rfl, rfl⟩
    · by_cases h3 : n = 3
      · subst h3
        go_enter Tryz.func113, Tryz.ntmps113
        go_wp2_with fail
        go_ret
        exact ⟨rfl, rfl⟩
      · have HF : Hid (false = labB n) := by show _ = _; unfold labB; rw [decide_eq_false (by omega)]
        have e1 : (n == 1) = false := by simpa using h1
        have e2 : (n == 2) = false := by simpa using h2
        have e3 : (n == 3) = false := by simpa using h3
        go_enter Tryz.func113, Tryz.ntmps113
        go_wp2_with fail
        go_ret
        exact ⟨ret_bool HF.out, rfl⟩
set_option maxHeartbeats 1000000 in
theorem msgtype_any (s : ByteArray) (w : World) : Calls Tryz.prog 85 #[.string s] w fun e w' => e = .returned (.agg #[.int .i64 7, .string s]) ∧ Below w.heap.size w w' := by
  go_enter Tryz.func85, Tryz.ntmps85
  go_wp2_with fail
  refine bodyPost_ret (v := .agg #[.int .i64 7, .string s]) (by simp [results, Tryz.results85, go_sem]) rfl ⟨rfl, ?_⟩
  exact (Below.refl _ _).alloc (Nat.le_refl _) _
set_option maxHeartbeats 1000000 in
theorem iszero_any (s : ByteArray) (n : Int) (w : World) : Calls Tryz.prog 90 #[.agg #[.string s, .int .i64 n]] w fun e w' => e = .returned (.bool (decide (n = 0))) ∧ Below w.heap.size w w' := by
  have HE : Hid ((n == 0) = decide (n = 0)) := rfl
  go_enter Tryz.func90, Tryz.ntmps90
  go_wp2_with fail
  go_ret
  exact ⟨ret_bool HE.out, (Below.refl _ _).alloc (Nat.le_refl _) _⟩
end Go.Proofs.YtfnjbbaphmmjlaaGreat

/- What finders answer: zero things, values, results. -/
namespace Go.Proofs.YtfnjbbaphmmjlaaGreat
open Go.ChangeShapes Go.WideShapes Go.ChangeAt Go.RowKit Go.Maps
set_option linter.unusedVariables false
set_option linter.unusedSimpArgs false
set_option maxRecDepth 20000

def zeroM : MsS := ⟨⟨#[]⟩, [], []⟩
def zeroN : EnS := ⟨⟨#[]⟩, []⟩
def zeroT : MtS := ⟨⟨#[]⟩, ⟨#[]⟩, ⟨#[]⟩⟩
def zeroF : FlS := ⟨⟨#[]⟩, 0, 0, 0, ⟨#[]⟩⟩
def mtV (m : MtS) : Value := .agg #[.string m.name, .string m.inn, .string m.out]
def flV (m : FlS) : Value := .agg #[.string m.name, .int .i64 m.tag, .int .i64 m.label, .int .i64 m.kind, .string m.tname]
theorem ret_two {a b c d : Value} (h1 : a = c) (h2 : b = d) : Ending.returned (.tuple #[a, b]) = .returned (.tuple #[c, d]) := by rw [h1, h2]
theorem bytes_ne {a b : ByteArray} (h : ¬ a = b) : (a.toList == b.toList) = false := by
  rw [ByteArray.toList_eq, ByteArray.toList_eq, beq_bytes]; exact decide_eq_false h
theorem bytes_same (a : ByteArray) : (a.toList == a.toList) = true := by simp
end Go.Proofs.YtfnjbbaphmmjlaaGreat

/- What Field answers. -/
namespace Go.Proofs.YtfnjbbaphmmjlaaGreat
open Go.ChangeShapes Go.WideShapes Go.ChangeAt Go.RowKit Go.Maps
set_option linter.unusedVariables false
set_option linter.unusedSimpArgs false
set_option maxRecDepth 20000

set_option maxHeartbeats 2000000 in
theorem cfield_any {w : World} {snm : ByteArray} {nm : Int} {am : Option Addr} {M cm : Nat} {vt : Value} {ts : List FlS} (hr : RowG w vt 5 (flRows ts)) :
    Calls Tryz.prog 80 #[.agg #[.string snm, vt, .slice am M cm], .int .i64 nm] w fun e w' => e = .returned (.tuple #[flV ((ts.find? fun m => decide (m.tag = nm)).getD zeroF), .bool (ts.find? fun m => decide (m.tag = nm)).isSome]) ∧ Below w.heap.size w w' := by
  obtain ⟨a, c, rfl, q1, q2⟩ := hr.form2
  have hN : (flRows ts).length = ts.length := by simp [flRows]
  rw [hN] at hr q1 ⊢
  clear hN
  obtain ⟨N, hN⟩ : ∃ N, ts.length = N := ⟨_, rfl⟩
  rw [hN] at hr q1 ⊢
  have HN : Hid (ts.length = N) := hN
  have HR : Hid (RowG w (.slice a N c) 5 (flRows ts)) := hr
  clear hN hr
  obtain ⟨A, hA⟩ : ∃ A, (ts.find? fun m => decide (m.tag = nm)) = A := ⟨_, rfl⟩
  rw [hA]
  have HA : Hid (A = ((ts.drop 0).find? fun m => decide (m.tag = nm))) := hA.symm
  clear hA
  have BX0 : Blk ((w.alloc (.cells #[.string snm, .slice a N c, .slice am M cm] 50)).alloc (.cells #[.string ⟨#[]⟩, .int .i64 0, .int .i64 0, .int .i64 0, .string ⟨#[]⟩] 54)) w.heap.size #[.string snm, .slice a N c, .slice am M cm] 50 := (Blk.new w _ _).below ((Below.refl _ _).alloc (Nat.le_refl _) _)
  have BR0 : Blk ((w.alloc (.cells #[.string snm, .slice a N c, .slice am M cm] 50)).alloc (.cells #[.string ⟨#[]⟩, .int .i64 0, .int .i64 0, .int .i64 0, .string ⟨#[]⟩] 54)) (w.heap.size + 1) #[.string ⟨#[]⟩, .int .i64 0, .int .i64 0, .int .i64 0, .string ⟨#[]⟩] 54 := by
    have := Blk.new (w.alloc (.cells #[.string snm, .slice a N c, .slice am M cm] 50)) #[.string ⟨#[]⟩, .int .i64 0, .int .i64 0, .int .i64 0, .string ⟨#[]⟩] 54
    rwa [show (w.alloc (.cells #[.string snm, .slice a N c, .slice am M cm] 50)).heap.size = w.heap.size + 1 by simp] at this
  have hb0 : Below w.heap.size w ((w.alloc (.cells #[.string snm, .slice a N c, .slice am M cm] 50)).alloc (.cells #[.string ⟨#[]⟩, .int .i64 0, .int .i64 0, .int .i64 0, .string ⟨#[]⟩] 54)) := ((Below.refl _ _).alloc (Nat.le_refl _) _).alloc (by simp) _
  go_enter Tryz.func80, Tryz.ntmps80
  go_wp2_with fail
  go_loopw [11] (fun iv wr => ∃ k : Nat, iv = .int .i64 (k : Int) ∧ k ≤ N ∧ Hid (A = ((ts.drop k).find? fun m => decide (m.tag = nm))) ∧ Below w.heap.size w wr ∧ Blk wr (w.heap.size + 1) #[.string ⟨#[]⟩, .int .i64 0, .int .i64 0, .int .i64 0, .string ⟨#[]⟩] 54) (fun iv _ => N - (intOf iv).toNat)
  case atStart => exact ⟨0, rfl, by omega, HA, hb0, BR0⟩
  case round =>
    obtain ⟨k, rfl, hk, HAk, hbel, BR⟩ := hrel
    clear BX0 BR0 hb0
    have hlt2 : w.heap.size + 1 < wr.heap.size := BR.lt
    have r0 := (BR.cell 0).trans rfl
    have z0 := BR.froz 0
    have r1 := (BR.cell 1).trans rfl
    have z1 := BR.froz 1
    have r2 := (BR.cell 2).trans rfl
    have z2 := BR.froz 2
    have r3 := (BR.cell 3).trans rfl
    have z3 := BR.froz 3
    have r4 := (BR.cell 4).trans rfl
    have z4 := BR.froz 4
    by_cases hlt : k < N
    · obtain ⟨f, hf⟩ : ∃ n, ts[k]? = some n := ⟨_, List.getElem?_eq_getElem (by rw [HN.out]; exact hlt)⟩
      have hrr : (flRows ts)[k]? = some f.cells := by simp [flRows, hf]
      obtain ⟨g, off, rfl, c1⟩ := (HR.out.below hbel).get hrr
      obtain ⟨f0, f1, f2, f3, f4⟩ := f
      have HA2 : Hid (A = if decide (f1 = nm) = true then some ⟨f0, f1, f2, f3, f4⟩ else ((ts.drop (k + 1)).find? fun m => decide (m.tag = nm))) := by
        show _ = _
        rw [HAk.out, drop_at hf, List.find?_cons]
        cases decide (f1 = nm) <;> rfl
      have p0 := c1 0 _ rfl
      have p1 := c1 1 _ rfl
      have p2 := c1 2 _ rfl
      have p3 := c1 3 _ rfl
      have p4 := c1 4 _ rfl
      simp only [Nat.add_zero] at p0 p1 p2 p3 p4
      clear c1 hrr hf HAk
      by_cases he : f1 = nm
      · subst he
        go_wp2_with fail
        refine bodyPost_ret (results_two rfl _ _ _ ⟨w.heap.size + 1, 0, none⟩ (.agg #[.string f0, .int .i64 f1, .int .i64 f2, .int .i64 f3, .string f4]) (by go_simp) (by go_simp)) rfl ?_
        exact ⟨ret_two (by rw [HA2.out, if_pos (by simp)]; rfl) (by rw [HA2.out, if_pos (by simp)]; rfl), (Below.alloc (Below.setCell (Below.setCell (Below.setCell (Below.setCell (Below.setCell hbel (by simp) _) (by simp) _) (by simp) _) (by simp) _) (by simp) _) (by simp; omega) _)⟩
      · have hq : (f1 == nm) = false := by simpa using he
        have HA3 : Hid (A = ((ts.drop (k + 1)).find? fun m => decide (m.tag = nm))) := by show _ = _; rw [HA2.out, if_neg (by simpa using he)]
        have hb2 : Below w.heap.size w (wr.alloc (.cells #[.string f0, .int .i64 f1, .int .i64 f2, .int .i64 f3, .string f4] 54)) := hbel.alloc (by omega) _
        have BR2 : Blk (wr.alloc (.cells #[.string f0, .int .i64 f1, .int .i64 f2, .int .i64 f3, .string f4] 54)) (w.heap.size + 1) #[.string ⟨#[]⟩, .int .i64 0, .int .i64 0, .int .i64 0, .string ⟨#[]⟩] 54 := BR.below ((Below.refl _ _).alloc (Nat.le_refl _) _)
        go_wp2_with fail
        go_roundw
        case rel => exact ⟨k + 1, by go_num, by omega, HA3, hb2, BR2⟩
        case measure => simp [intOf]; omega
    · have HA2 : Hid (A = none) := by show _ = _; rw [HAk.out, drop_end (by rw [HN.out]; omega)]; rfl
      go_wp2_with fail
      refine bodyPost_ret (results_two rfl _ _ _ ⟨w.heap.size + 1, 0, none⟩ (.agg #[.string ⟨#[]⟩, .int .i64 0, .int .i64 0, .int .i64 0, .string ⟨#[]⟩]) (by go_simp) (by go_simp)) rfl ?_
      exact ⟨ret_two (by rw [HA2.out]; rfl) (by rw [HA2.out]; rfl), (Below.setCell (Below.setCell (Below.setCell (Below.setCell (Below.setCell hbel (by simp) _) (by simp) _) (by simp) _) (by simp) _) (by simp) _)⟩
end Go.Proofs.YtfnjbbaphmmjlaaGreat

/- A region that draws its order, walked by hand: operations taken first under a condition on the world that may be made stronger on the way. -/
namespace Go.Proofs.YtfnjbbaphmmjlaaGreat
set_option linter.unusedVariables false
set_option linter.unusedSimpArgs false

theorem rg_weaken {P : Program} {md : Region.Mode} {ops : Array Oper} {Q : Exit → Act → World → Prop} {S S' : World → Prop} (hS : ∀ w, S' w → S w) :
    ∀ (fuel : Nat) (listed : Array Bool) (a : Act) (w : World), wpAnyH P md ops Q S' fuel listed a w → wpAnyH P md ops Q S fuel listed a w
  | 0, _, _, _, h => h
  | fuel + 1, _, _, _, h => ⟨h.1, fun i hi => wpOp_mono (fun a' w' h' => ⟨hS _ h'.1, rg_weaken hS fuel _ a' w' h'.2⟩) (h.2 i hi)⟩

theorem rg_take {P : Program} {md : Region.Mode} {ops : Array Oper} {Q : Exit → Act → World → Prop} {S : World → Prop} {oi : Oper} {fuel : Nat} {listed listed' : Array Bool} {a : Act} {w : World} (i d : Nat) (v : Value) (tmps' : Array Value) (hi : ops[i]? = some oi) (hd : oi.dst = some d)
    (hs : Region.noSelect ops = true) (hf : Region.free md ops listed i = true) (hr : (Region.ready md ops listed).contains i = true)
    (hQ : ∀ c a w, Q (.panic c) (a.put oi.dst v) w → Q (.panic c) a w) (hwt : Region.wanted oi (yielded ops a.tmps) = true) (hy : ∀ w, S w → (execOp a.eval oi).run P w = .ok (.value v) w) (hS : S w)
    (hl : listed.setIfInBounds i true = listed') (ht : a.tmps.setIfInBounds d v = tmps')
    (h : wpAnyH P md ops Q S fuel listed' { a with tmps := tmps' } w) : wpAnyH P md ops Q S (fuel + 1) listed a w := by
  subst hl ht
  refine wpAnyH_take hi hs hf hr hQ (.inl ⟨hwt, hy⟩) hS ?_
  rw [hd]
  exact h

theorem rg_call {P : Program} {md : Region.Mode} {ops : Array Oper} {Q : Exit → Act → World → Prop} {S : World → Prop} {oi : Oper} {fuel : Nat} {listed listed' : Array Bool} {a : Act} {w : World} (i d f : Nat) (vals : Array Value) (hi : ops[i]? = some oi) (hd : oi.dst = some d)
    (hr : Region.ready md ops listed = [i]) (hwt : Region.wanted oi (yielded ops a.tmps) = true) (hl : listed.setIfInBounds i true = listed') (hx : ∀ w, (execOp a.eval oi).run P w = .ok (.enter f vals) w)
    (h : Calls P f vals w fun e w' => ∃ v, e = .returned v ∧ S w' ∧ wpAnyH P md ops Q S fuel listed' { a with tmps := a.tmps.setIfInBounds d v } w') : wpAnyH P md ops Q S (fuel + 1) listed a w := by
  subst hl
  refine wpAnyH_ready (rs := [i]) hr (by simp) (AllReadyH.cons hi (fun K hK => ?_) AllReadyH.nil)
  rw [if_pos hwt]
  unfold Oper.wp
  rw [hx]
  refine Calls.mono h ?_
  rintro e w' ⟨v, rfl, hS, h'⟩
  refine hK.out _ _ hS (fun _ => ?_)
  rw [hd]
  exact h'

/-- One operation alone is ready, and is carried out: it may turn the world. -/
theorem rg_run {P : Program} {md : Region.Mode} {ops : Array Oper} {Q : Exit → Act → World → Prop} {S : World → Prop} {oi : Oper} {fuel : Nat} {listed listed' : Array Bool} {a : Act} {w : World} (i d : Nat) (v : Value) (w' : World) (hi : ops[i]? = some oi) (hd : oi.dst = some d)
    (hr : Region.ready md ops listed = [i]) (hwt : Region.wanted oi (yielded ops a.tmps) = true) (hl : listed.setIfInBounds i true = listed') (hx : (execOp a.eval oi).run P w = .ok (.value v) w') (hS : S w')
    (h : wpAnyH P md ops Q S fuel listed' { a with tmps := a.tmps.setIfInBounds d v } w') : wpAnyH P md ops Q S (fuel + 1) listed a w := by
  subst hl
  refine wpAnyH_ready (rs := [i]) hr (by simp) (AllReadyH.cons hi (fun K hK => ?_) AllReadyH.nil)
  rw [if_pos hwt]
  unfold Oper.wp
  rw [hx]
  refine hK.out _ _ hS (fun _ => ?_)
  rw [hd]
  exact h

/-- What an append does, as the operation of a region. -/
theorem append_run {P : Program} {a : Act} {w w' : World} {o : Oper} {s x : Operand} {t u : TypeId} {v y v' : Value} (ho : o.op = .call { callee := .builtin .append, args := #[s, x], argTypes := #[t, u] }) (hs : a.eval s = v) (hx : a.eval x = y)
    (hr : (Builtin.append_ #[t, u] o.type #[v, y]).run P w = .ok v' w') : (execOp a.eval o).run P w = .ok (.value v') w' := by
  unfold execOp
  simp only [ho, resolve, invoke, builtin, Sem.run_bind, Sem.run_pure, Result.andThen_ok, List.map_toArray, List.map_cons, List.map_nil, hs, hx, hr]
end Go.Proofs.YtfnjbbaphmmjlaaGreat

/- A region that draws its order in which a load, a call and a new block come before an append: all its orders come to one. -/
namespace Go.Proofs.YtfnjbbaphmmjlaaGreat
set_option linter.unusedVariables false
set_option linter.unusedSimpArgs false

theorem set_comm2 {α : Type} (a : Array α) {i j : Nat} (h : i ≠ j) (x y : α) : (a.setIfInBounds i x).setIfInBounds j y = (a.setIfInBounds j y).setIfInBounds i x := by
  apply Array.ext_getElem?
  intro k
  simp only [Array.getElem?_setIfInBounds, Array.size_setIfInBounds]
  by_cases h1 : i = k
  · subst h1
    by_cases h2 : j = i
    · exact absurd h2.symm h
    · simp [h2]
  · by_cases h2 : j = k <;> simp [h1, h2]

theorem rg_lcb {P : Program} {md : Region.Mode} {ops : Array Oper} {Q : Exit → Act → World → Prop} {fuel : Nat} {listed : Array Bool} {a : Act} {w : World} (i j k di dj dk : Nat) {oi oj ok : Oper} (vi : Value) (f : Nat) (vals : Array Value) (LD : World → Prop)
    (hi : ops[i]? = some oi) (hj : ops[j]? = some oj) (hk : ops[k]? = some ok) (hdi : oi.dst = some di) (hdj : oj.dst = some dj) (hdk : ok.dst = some dk)
    (hr0 : Region.ready md ops listed = [i, j]) (hri : Region.ready md ops (listed.setIfInBounds i true) = [j]) (hrj : Region.ready md ops (listed.setIfInBounds j true) = [i, k])
    (hrij : Region.ready md ops ((listed.setIfInBounds i true).setIfInBounds j true) = [k]) (hrjk : Region.ready md ops ((listed.setIfInBounds j true).setIfInBounds k true) = [i])
    (hwi : ∀ t, Region.wanted oi t = true) (hwj : ∀ t, Region.wanted oj t = true) (hwk : ∀ t, Region.wanted ok t = true) (hij : i ≠ j) (hik : i ≠ k) (dij : di ≠ dj) (dik : di ≠ dk)
    (hx0 : (execOp a.eval oi).run P w = .ok (.value vi) w) (hx1 : ∀ v W, LD W → (execOp ({ a with tmps := a.tmps.setIfInBounds dj v } : Act).eval oi).run P W = .ok (.value vi) W)
    (hx2 : ∀ v s W, LD W → (execOp ({ a with tmps := (a.tmps.setIfInBounds dj v).setIfInBounds dk s } : Act).eval oi).run P W = .ok (.value vi) W)
    (hxj0 : (execOp a.eval oj).run P w = .ok (.enter f vals) w) (hxj1 : ∀ W, (execOp ({ a with tmps := a.tmps.setIfInBounds di vi } : Act).eval oj).run P W = .ok (.enter f vals) W)
    (h : Calls P f vals w fun e w' => ∃ v, e = .returned v ∧ LD w' ∧ ∃ s w'', LD w'' ∧ (execOp ({ a with tmps := a.tmps.setIfInBounds dj v } : Act).eval ok).run P w' = .ok (.value s) w'' ∧
      (execOp ({ a with tmps := (a.tmps.setIfInBounds di vi).setIfInBounds dj v } : Act).eval ok).run P w' = .ok (.value s) w'' ∧
      wpAnyH P md ops Q (fun _ => True) fuel (((listed.setIfInBounds i true).setIfInBounds j true).setIfInBounds k true) { a with tmps := ((a.tmps.setIfInBounds di vi).setIfInBounds dj v).setIfInBounds dk s } w'') :
    wpAnyH P md ops Q (fun _ => True) (fuel + 3) listed a w := by
  refine wpAnyH_ready (rs := [i, j]) hr0 (by simp) (AllReadyH.cons hi (fun K hK => ?_) (AllReadyH.cons hj (fun K hK => ?_) AllReadyH.nil))
  · rw [if_pos (hwi _)]
    unfold Oper.wp
    rw [hx0]
    refine hK.out _ _ trivial (fun _ => ?_)
    rw [hdi]
    refine rg_call j dj f vals hj hdj hri (hwj _) rfl (fun W => ?_) ?_
    · exact hxj1 W
    · refine h.mono ?_
      rintro e w' ⟨v, rfl, l1, s, w'', l2, b1, b2, h3⟩
      refine ⟨v, rfl, trivial, ?_⟩
      exact rg_run k dk s w'' hk hdk hrij (hwk _) rfl b2 trivial h3
  · rw [if_pos (hwj _)]
    unfold Oper.wp
    rw [hxj0]
    refine Calls.mono h ?_
    rintro e w' ⟨v, rfl, l1, s, w'', l2, b1, b2, h3⟩
    refine hK.out _ _ trivial (fun _ => ?_)
    rw [hdj]
    refine wpAnyH_ready (rs := [i, k]) hrj (by simp) (AllReadyH.cons hi (fun K hK => ?_) (AllReadyH.cons hk (fun K hK => ?_) AllReadyH.nil))
    · rw [if_pos (hwi _)]
      unfold Oper.wp
      have hh : (execOp (Act.put a (some dj) v).eval oi).run P w' = .ok (.value vi) w' := hx1 v w' l1
      rw [hh]
      refine hK.out _ _ trivial (fun _ => ?_)
      rw [hdi, set_comm2 listed (Ne.symm hij)]
      show wpAnyH P md ops Q _ _ _ ({ a with tmps := (a.tmps.setIfInBounds dj v).setIfInBounds di vi } : Act) w'
      rw [set_comm2 a.tmps (Ne.symm dij)]
      exact rg_run k dk s w'' hk hdk hrij (hwk _) rfl b2 trivial h3
    · rw [if_pos (hwk _)]
      unfold Oper.wp
      have hh : (execOp (Act.put a (some dj) v).eval ok).run P w' = .ok (.value s) w'' := b1
      rw [hh]
      refine hK.out _ _ trivial (fun _ => ?_)
      rw [hdk]
      refine rg_run i di vi w'' hi hdi hrjk (hwi _) rfl (hx2 v s w'' l2) trivial ?_
      rw [set_comm2 _ (Ne.symm hik), set_comm2 listed (Ne.symm hij)]
      show wpAnyH P md ops Q _ _ _ ({ a with tmps := ((a.tmps.setIfInBounds dj v).setIfInBounds dk s).setIfInBounds di vi } : Act) w''
      rw [set_comm2 _ (Ne.symm dik), set_comm2 a.tmps (Ne.symm dij)]
      exact h3
/-- One operation alone is ready, and is carried out: a store. -/
theorem rg_store {P : Program} {md : Region.Mode} {ops : Array Oper} {Q : Exit → Act → World → Prop} {S : World → Prop} {oi : Oper} {fuel : Nat} {listed listed' : Array Bool} {a : Act} {w : World} (i : Nat) (w' : World) (hi : ops[i]? = some oi) (hd : oi.dst = none)
    (hr : Region.ready md ops listed = [i]) (hwt : Region.wanted oi (yielded ops a.tmps) = true) (hl : listed.setIfInBounds i true = listed') (hx : (execOp a.eval oi).run P w = .ok .skip w') (hS : S w')
    (h : wpAnyH P md ops Q S fuel listed' a w') : wpAnyH P md ops Q S (fuel + 1) listed a w := by
  subst hl
  refine wpAnyH_ready (rs := [i]) hr (by simp) (AllReadyH.cons hi (fun K hK => ?_) AllReadyH.nil)
  rw [if_pos hwt]
  unfold Oper.wp
  rw [hx]
  refine hK.out _ _ hS (fun _ => ?_)
  rw [hd]
  exact h
/-- A call and another operation are ready: each may come first. -/
theorem rg_pair {P : Program} {md : Region.Mode} {ops : Array Oper} {Q : Exit → Act → World → Prop} {fuel : Nat} {listed : Array Bool} {a : Act} {w : World} (i j di dj f : Nat) (vals : Array Value) {oi oj : Oper} (v : Value) (w1 : World)
    (hi : ops[i]? = some oi) (hj : ops[j]? = some oj) (hdi : oi.dst = some di) (hdj : oj.dst = some dj) (hr : Region.ready md ops listed = [i, j]) (hwi : ∀ t, Region.wanted oi t = true) (hwj : ∀ t, Region.wanted oj t = true)
    (hxi : (execOp a.eval oi).run P w = .ok (.enter f vals) w) (hxj : (execOp a.eval oj).run P w = .ok (.value v) w1)
    (h1 : Calls P f vals w fun e w' => ∃ u, e = .returned u ∧ wpAnyH P md ops Q (fun _ => True) fuel (listed.setIfInBounds i true) { a with tmps := a.tmps.setIfInBounds di u } w')
    (h2 : wpAnyH P md ops Q (fun _ => True) fuel (listed.setIfInBounds j true) { a with tmps := a.tmps.setIfInBounds dj v } w1) : wpAnyH P md ops Q (fun _ => True) (fuel + 1) listed a w := by
  refine wpAnyH_ready (rs := [i, j]) hr (by simp) (AllReadyH.cons hi (fun K hK => ?_) (AllReadyH.cons hj (fun K hK => ?_) AllReadyH.nil))
  · rw [if_pos (hwi _)]
    unfold Oper.wp
    rw [hxi]
    refine Calls.mono h1 ?_
    rintro e w' ⟨u, rfl, h⟩
    refine hK.out _ _ trivial (fun _ => ?_)
    rw [hdi]
    exact h
  · rw [if_pos (hwj _)]
    unfold Oper.wp
    rw [hxj]
    refine hK.out _ _ trivial (fun _ => ?_)
    rw [hdj]
    exact h2
end Go.Proofs.YtfnjbbaphmmjlaaGreat

/- A region that draws its order in which two loads and a call of the first's value come ahead of all else: its orders come to one. -/
namespace Go.Proofs.YtfnjbbaphmmjlaaGreat
set_option linter.unusedVariables false
set_option linter.unusedSimpArgs false

theorem rg_llc {P : Program} {md : Region.Mode} {ops : Array Oper} {Q : Exit → Act → World → Prop} {fuel : Nat} {listed : Array Bool} {a : Act} {w : World} (i1 i4 j d1 d4 dj : Nat) {o1 o4 oj : Oper} (v1 v4 : Value) (f : Nat) (vals : Array Value) (LD : World → Prop)
    (h1 : ops[i1]? = some o1) (h4 : ops[i4]? = some o4) (hj : ops[j]? = some oj) (hd1 : o1.dst = some d1) (hd4 : o4.dst = some d4) (hdj : oj.dst = some dj)
    (hr0 : Region.ready md ops listed = [i1, i4]) (hr1 : Region.ready md ops (listed.setIfInBounds i1 true) = [j, i4]) (hr4 : Region.ready md ops (listed.setIfInBounds i4 true) = [i1])
    (hr14 : Region.ready md ops ((listed.setIfInBounds i1 true).setIfInBounds i4 true) = [j]) (hr1j : Region.ready md ops ((listed.setIfInBounds i1 true).setIfInBounds j true) = [i4])
    (hw1 : ∀ t, Region.wanted o1 t = true) (hw4 : ∀ t, Region.wanted o4 t = true) (hwj : ∀ t, Region.wanted oj t = true) (h14 : i1 ≠ i4) (hj4 : j ≠ i4) (d14 : d1 ≠ d4) (dj4 : dj ≠ d4)
    (hx1 : (execOp a.eval o1).run P w = .ok (.value v1) w) (hx1' : (execOp ({ a with tmps := a.tmps.setIfInBounds d4 v4 } : Act).eval o1).run P w = .ok (.value v1) w)
    (hx4 : (execOp a.eval o4).run P w = .ok (.value v4) w) (hx41 : (execOp ({ a with tmps := a.tmps.setIfInBounds d1 v1 } : Act).eval o4).run P w = .ok (.value v4) w)
    (hx4j : ∀ v W, LD W → (execOp ({ a with tmps := (a.tmps.setIfInBounds d1 v1).setIfInBounds dj v } : Act).eval o4).run P W = .ok (.value v4) W)
    (hxj : ∀ W, (execOp ({ a with tmps := a.tmps.setIfInBounds d1 v1 } : Act).eval oj).run P W = .ok (.enter f vals) W) (hxj' : ∀ W, (execOp ({ a with tmps := (a.tmps.setIfInBounds d1 v1).setIfInBounds d4 v4 } : Act).eval oj).run P W = .ok (.enter f vals) W)
    (h : Calls P f vals w fun e w' => ∃ v, e = .returned v ∧ LD w' ∧ wpAnyH P md ops Q (fun _ => True) fuel (((listed.setIfInBounds i1 true).setIfInBounds i4 true).setIfInBounds j true) { a with tmps := ((a.tmps.setIfInBounds d1 v1).setIfInBounds d4 v4).setIfInBounds dj v } w') :
    wpAnyH P md ops Q (fun _ => True) (fuel + 3) listed a w := by
  have main : wpAnyH P md ops Q (fun _ => True) (fuel + 1) ((listed.setIfInBounds i1 true).setIfInBounds i4 true) { a with tmps := (a.tmps.setIfInBounds d1 v1).setIfInBounds d4 v4 } w := by
    refine rg_call j dj f vals hj hdj hr14 (hwj _) rfl (fun W => hxj' W) ?_
    refine h.mono ?_
    rintro e w' ⟨v, rfl, _, h3⟩
    exact ⟨v, rfl, trivial, h3⟩
  refine wpAnyH_ready (rs := [i1, i4]) hr0 (by simp) (AllReadyH.cons h1 (fun K hK => ?_) (AllReadyH.cons h4 (fun K hK => ?_) AllReadyH.nil))
  · rw [if_pos (hw1 _)]
    unfold Oper.wp
    rw [hx1]
    refine hK.out _ _ trivial (fun _ => ?_)
    rw [hd1]
    refine wpAnyH_ready (rs := [j, i4]) hr1 (by simp) (AllReadyH.cons hj (fun K hK => ?_) (AllReadyH.cons h4 (fun K hK => ?_) AllReadyH.nil))
    · rw [if_pos (hwj _)]
      unfold Oper.wp
      have hh : (execOp (Act.put a (some d1) v1).eval oj).run P w = .ok (.enter f vals) w := hxj w
      rw [hh]
      refine Calls.mono h ?_
      rintro e w' ⟨v, rfl, l1, h3⟩
      refine hK.out _ _ trivial (fun _ => ?_)
      rw [hdj]
      refine rg_run i4 d4 v4 w' h4 hd4 hr1j (hw4 _) rfl ?_ trivial ?_
      · exact hx4j v w' l1
      · rw [set_comm2 _ hj4]
        show wpAnyH P md ops Q _ _ _ ({ a with tmps := ((a.tmps.setIfInBounds d1 v1).setIfInBounds dj v).setIfInBounds d4 v4 } : Act) w'
        rw [set_comm2 _ dj4]
        exact h3
    · rw [if_pos (hw4 _)]
      unfold Oper.wp
      have hh : (execOp (Act.put a (some d1) v1).eval o4).run P w = .ok (.value v4) w := hx41
      rw [hh]
      refine hK.out _ _ trivial (fun _ => ?_)
      rw [hd4]
      exact main
  · rw [if_pos (hw4 _)]
    unfold Oper.wp
    rw [hx4]
    refine hK.out _ _ trivial (fun _ => ?_)
    rw [hd4]
    refine rg_run i1 d1 v1 w h1 hd1 hr4 (hw1 _) rfl ?_ trivial ?_
    · exact hx1'
    · rw [set_comm2 listed (Ne.symm h14)]
      show wpAnyH P md ops Q _ _ _ ({ a with tmps := (a.tmps.setIfInBounds d4 v4).setIfInBounds d1 v1 } : Act) w
      rw [set_comm2 a.tmps (Ne.symm d14)]
      exact main
end Go.Proofs.YtfnjbbaphmmjlaaGreat

/- A region that draws its order, walked by hand: a load may be taken first, though its cell is written in the region, if the writing operation waits for it: what the load leans on need hold only till then. -/
namespace Go.Proofs.YtfnjbbaphmmjlaaGreat
set_option linter.unusedVariables false
set_option linter.unusedSimpArgs false

/-- Whatever order is picked from here on; T holds behind every operation as long as number m has not come up. -/
def wpAnyM (P : Program) (md : Region.Mode) (ops : Array Oper) (Q : Exit → Act → World → Prop) (T : World → Prop) (m : Nat) : Nat → Array Bool → Act → World → Prop
  | 0, listed, a, w => Region.ready md ops listed = [] ∧ Q .normal a w
  | fuel + 1, listed, a, w => (Region.ready md ops listed = [] → Q .normal a w) ∧
    ∀ i ∈ Region.ready md ops listed, wpOp P ops Q i (fun a' w' => ((listed.setIfInBounds i true).getD m true = false → T w') ∧ wpAnyM P md ops Q T m fuel (listed.setIfInBounds i true) a' w') a w
section
variable {P : Program} {md : Region.Mode} {ops : Array Oper} {Q : Exit → Act → World → Prop} {T : World → Prop} {m : Nat}
theorem M_any : ∀ (fuel : Nat) (listed : Array Bool) (a : Act) (w : World), wpAnyM P md ops Q T m fuel listed a w → wpAny P md ops Q fuel listed a w
  | 0, _, _, _, h => h
  | fuel + 1, _, _, _, h => ⟨h.1, fun i hi => wpOp_mono (fun a' w' h' => M_any fuel _ a' w' h'.2) (h.2 i hi)⟩
theorem M_done {listed : Array Bool} {a : Act} {w : World} (hr : Region.ready md ops listed = []) (h : Q .normal a w) : ∀ fuel, wpAnyM P md ops Q T m fuel listed a w
  | 0 => ⟨hr, h⟩
  | _ + 1 => ⟨fun _ => h, by rw [hr]; simp⟩
theorem M_region {id : Nat} {a : Act} {w : World} (hm : P.follows .mixedOrders = true) (h : wpAnyM P .any ops Q T m ops.size (Array.replicate ops.size false) a w.drew) : (Code.region id ops true).wp P Q a w :=
  wp_region_any hm (M_any _ _ _ _ h)
theorem M_first {i : Nat} {oi : Oper} {v : Value} (hi : ops[i]? = some oi) (hsel : ∀ (j : Nat) (o : Oper) cs b, ops[j]? = some o → o.op ≠ .select cs b)
    (hQ : ∀ c a w, Q (.panic c) (a.put oi.dst v) w → Q (.panic c) a w) (hmi : ∀ om, ops[m]? = some om → ∃ e ∈ om.after, Region.binds md e = true ∧ e.on = i) :
    ∀ (fuel : Nat) (listed : Array Bool) (a : Act) (w : World), listed.getD m true = false →
      (∀ j oj, ops[j]? = some oj → j ≠ i → listed.getD j true = false → (∀ e ∈ oj.after, Region.binds md e = true → e.on ≠ i) → oi.apart ops oj = true) →
      i ∈ Region.ready md ops listed → YieldsIf P ops T oi v a → T w →
      wpAnyM P md ops Q T m fuel (listed.setIfInBounds i true) (a.put oi.dst v) w → wpAnyM P md ops Q T m (fuel + 1) listed a w := by
  intro fuel
  induction fuel with
  | zero =>
    intro listed a w hlm _ hr hy hT H
    refine ⟨fun h => (by rw [h] at hr; cases hr), fun j hj => ?_⟩
    by_cases hji : j = i
    · subst hji; exact hy.wpOp hi hT ⟨fun _ => hT, H⟩
    · have h0 := ready_mono hj hji
      rw [H.1] at h0
      cases h0
  | succ fuel ih =>
    intro listed a w hlm hfree hr hy hT H
    refine ⟨fun h => (by rw [h] at hr; cases hr), fun j hj => ?_⟩
    by_cases hji : j = i
    · subst hji; exact hy.wpOp hi hT ⟨fun _ => hT, H⟩
    · have hH := H.2 j (ready_mono hj hji)
      obtain ⟨hjun, oj, hoj, hall⟩ := mem_ready.1 hj
      have hjm : j ≠ m := by
        intro e
        subst e
        obtain ⟨e, he, hb, hon⟩ := hmi oj hoj
        have hx := hall e he hb
        have h0 := (mem_ready.1 hr).1
        rw [hon] at hx
        rcases Nat.lt_or_ge i listed.size with h' | h'
        · simp [h'] at h0 hx; rw [h0] at hx; cases hx
        · simp [Array.getElem?_eq_none h'] at hx
      have hnot : ∀ e ∈ oj.after, Region.binds md e = true → e.on ≠ i := fun e he hb heq => by
        have hx := hall e he hb
        have h0 := (mem_ready.1 hr).1
        rw [heq] at hx
        rcases Nat.lt_or_ge i listed.size with h' | h'
        · simp [h'] at h0 hx; rw [h0] at hx; cases hx
        · simp [Array.getElem?_eq_none h'] at hx
      have h2 := wpOp_putIf hoj (hfree j oj hoj hji hjun hnot) (fun cs b => hsel i oi cs b hi) (fun cs b => hsel j oj cs b hoj) hQ hy hH
      have hlj : (listed.setIfInBounds j true).getD m true = false := by rw [getD_set_ne true hjm]; exact hlm
      have him : i ≠ m := by
        intro e
        subst e
        obtain ⟨e, he, hb, hon⟩ := hmi oi hi
        obtain ⟨h0, oi', hoi', hall'⟩ := mem_ready.1 hr
        rw [hi] at hoi'
        cases hoi'
        have hx := hall' e he hb
        rw [hon] at hx
        rcases Nat.lt_or_ge i listed.size with h' | h'
        · simp [h'] at h0 hx; rw [h0] at hx; cases hx
        · simp [Array.getElem?_eq_none h'] at hx
      have hlij : ((listed.setIfInBounds i true).setIfInBounds j true).getD m true = false := by rw [getD_set_ne true hjm, getD_set_ne true him]; exact hlm
      have hfree' : ∀ k ok, ops[k]? = some ok → k ≠ i → (listed.setIfInBounds j true).getD k true = false → (∀ e ∈ ok.after, Region.binds md e = true → e.on ≠ i) → oi.apart ops ok = true := fun k ok hk hki hun hno => by
        refine hfree k ok hk hki ?_ hno
        by_cases hjk : j = k
        · subst hjk; exact hjun
        · rw [getD_set_ne true hjk] at hun; exact hun
      refine wpOp_mono (fun a' w' h3 => ⟨fun _ => h3.2.1 hlij, ih (listed.setIfInBounds j true) a' w' hlj hfree' (ready_mono hr (Ne.symm hji)) h3.1 (h3.2.1 hlij) ?_⟩) h2
      rw [Array.setIfInBounds_comm _ _ hji]
      exact h3.2.2
/-- Take number i first. -/
theorem M_take {oi : Oper} {fuel : Nat} {listed listed' : Array Bool} {a : Act} {w : World} (i d : Nat) (v : Value) (tmps' : Array Value) (hi : ops[i]? = some oi) (hd : oi.dst = some d)
    (hs : Region.noSelect ops = true) (hf : Region.free md ops listed i = true) (hr : (Region.ready md ops listed).contains i = true) (hmi : ((ops[m]?).any fun om => om.after.any fun e => Region.binds md e && e.on == i) = true) (hlm : listed.getD m true = false)
    (hQ : ∀ c a w, Q (.panic c) (a.put oi.dst v) w → Q (.panic c) a w) (hwt : Region.wanted oi (yielded ops a.tmps) = true) (hy : ∀ w, T w → (execOp a.eval oi).run P w = .ok (.value v) w) (hT : T w)
    (hl : listed.setIfInBounds i true = listed') (ht : a.tmps.setIfInBounds d v = tmps')
    (h : wpAnyM P md ops Q T m fuel listed' { a with tmps := tmps' } w) : wpAnyM P md ops Q T m (fuel + 1) listed a w := by
  subst hl ht
  refine M_first hi (Region.noSelect_spec hs) hQ ?_ fuel listed a w hlm (Region.free_spec hi hf) (by simpa using hr) (.inl ⟨hwt, hy⟩) hT ?_
  · intro om hom
    rw [hom] at hmi
    simp only [Option.any_some, Array.any_eq_true] at hmi
    obtain ⟨k, hk, hb⟩ := hmi
    simp only [Bool.and_eq_true, beq_iff_eq] at hb
    exact ⟨_, Array.getElem_mem hk, hb.1, hb.2⟩
  · rw [hd]
    exact h
/-- One operation alone is ready: it is carried out. -/
theorem M_run {oi : Oper} {fuel : Nat} {listed listed' : Array Bool} {a : Act} {w : World} (i d : Nat) (v : Value) (w' : World) (hi : ops[i]? = some oi) (hd : oi.dst = some d)
    (hr : Region.ready md ops listed = [i]) (hwt : Region.wanted oi (yielded ops a.tmps) = true) (hl : listed.setIfInBounds i true = listed') (hx : (execOp a.eval oi).run P w = .ok (.value v) w') (hT : T w')
    (h : wpAnyM P md ops Q T m fuel listed' { a with tmps := a.tmps.setIfInBounds d v } w') : wpAnyM P md ops Q T m (fuel + 1) listed a w := by
  subst hl
  refine ⟨fun h0 => (by rw [hr] at h0; cases h0), fun j hj => ?_⟩
  rw [hr, List.mem_singleton] at hj
  subst hj
  unfold wpOp
  simp only [hi]
  rw [if_pos hwt]
  refine .inl ?_
  unfold Oper.wp
  rw [hx, Oper.upon_value, hd]
  exact ⟨fun _ => hT, h⟩
theorem M_store {oi : Oper} {fuel : Nat} {listed listed' : Array Bool} {a : Act} {w : World} (i : Nat) (w' : World) (hi : ops[i]? = some oi) (hd : oi.dst = none)
    (hr : Region.ready md ops listed = [i]) (hwt : Region.wanted oi (yielded ops a.tmps) = true) (hl : listed.setIfInBounds i true = listed') (hx : (execOp a.eval oi).run P w = .ok .skip w') (hm : listed'.getD m true = true)
    (h : wpAnyM P md ops Q T m fuel listed' a w') : wpAnyM P md ops Q T m (fuel + 1) listed a w := by
  subst hl
  refine ⟨fun h0 => (by rw [hr] at h0; cases h0), fun j hj => ?_⟩
  rw [hr, List.mem_singleton] at hj
  subst hj
  unfold wpOp
  simp only [hi]
  rw [if_pos hwt]
  refine .inl ?_
  unfold Oper.wp
  rw [hx, Oper.upon_skip, hd]
  exact ⟨fun h0 => (by rw [hm] at h0; cases h0), h⟩
/-- One call alone is ready. -/
theorem M_call {oi : Oper} {fuel : Nat} {listed listed' : Array Bool} {a : Act} {w : World} (i d f : Nat) (vals : Array Value) (hi : ops[i]? = some oi) (hd : oi.dst = some d)
    (hr : Region.ready md ops listed = [i]) (hwt : Region.wanted oi (yielded ops a.tmps) = true) (hl : listed.setIfInBounds i true = listed') (hx : ∀ w, (execOp a.eval oi).run P w = .ok (.enter f vals) w)
    (h : Calls P f vals w fun e w' => ∃ v, e = .returned v ∧ T w' ∧ wpAnyM P md ops Q T m fuel listed' { a with tmps := a.tmps.setIfInBounds d v } w') : wpAnyM P md ops Q T m (fuel + 1) listed a w := by
  subst hl
  refine ⟨fun h0 => (by rw [hr] at h0; cases h0), fun j hj => ?_⟩
  rw [hr, List.mem_singleton] at hj
  subst hj
  unfold wpOp
  simp only [hi]
  rw [if_pos hwt]
  refine .inl ?_
  unfold Oper.wp
  rw [hx]
  refine Calls.mono h ?_
  rintro e w' ⟨v, rfl, hT, h'⟩
  rw [hd]
  exact ⟨fun _ => hT, h'⟩
/-- Two operations that make memory are ready: each may come first; the outcome is said by C. -/
theorem M_two {o1 o2 : Oper} {fuel : Nat} {listed : Array Bool} {a : Act} {w : World} (i j d1 d2 : Nat) (C : Value → Value → World → Prop) (h1 : ops[i]? = some o1) (h2 : ops[j]? = some o2) (hd1 : o1.dst = some d1) (hd2 : o2.dst = some d2) (hij : i ≠ j) (hdd : d1 ≠ d2)
    (hr : Region.ready md ops listed = [i, j]) (hr1 : Region.ready md ops (listed.setIfInBounds i true) = [j]) (hr2 : Region.ready md ops (listed.setIfInBounds j true) = [i])
    (hw1 : ∀ t, Region.wanted o1 t = true) (hw2 : ∀ t, Region.wanted o2 t = true)
    (hA : o1.wp P a w (fun a' w' => ∃ u, a' = a.put (some d1) u ∧ T w' ∧ o2.wp P a' w' (fun a'' w'' => ∃ v, a'' = a'.put (some d2) v ∧ T w'' ∧ C u v w'') Q) Q)
    (hB : o2.wp P a w (fun a' w' => ∃ v, a' = a.put (some d2) v ∧ T w' ∧ o1.wp P a' w' (fun a'' w'' => ∃ u, a'' = a'.put (some d1) u ∧ T w'' ∧ C u v w'') Q) Q)
    (h : ∀ u v w', T w' → C u v w' → wpAnyM P md ops Q T m fuel ((listed.setIfInBounds i true).setIfInBounds j true) { a with tmps := (a.tmps.setIfInBounds d1 u).setIfInBounds d2 v } w') : wpAnyM P md ops Q T m (fuel + 2) listed a w := by
  refine ⟨fun h0 => (by rw [hr] at h0; cases h0), fun k hk => ?_⟩
  rw [hr] at hk
  simp only [List.mem_cons, List.not_mem_nil, or_false] at hk
  rcases hk with rfl | rfl
  · unfold wpOp
    simp only [h1]
    rw [if_pos (hw1 _)]
    refine .inl (Oper.wp_mono (fun a' w' h3 => ?_) hA)
    obtain ⟨u, rfl, t1, h4⟩ := h3
    refine ⟨fun _ => t1, ⟨fun h0 => (by rw [hr1] at h0; cases h0), fun k hk => ?_⟩⟩
    rw [hr1, List.mem_singleton] at hk
    subst hk
    unfold wpOp
    simp only [h2]
    rw [if_pos (hw2 _)]
    refine .inl (Oper.wp_mono (fun a' w' h5 => ?_) h4)
    obtain ⟨v, rfl, t2, h6⟩ := h5
    exact ⟨fun _ => t2, h u v _ t2 h6⟩
  · unfold wpOp
    simp only [h2]
    rw [if_pos (hw2 _)]
    refine .inl (Oper.wp_mono (fun a' w' h3 => ?_) hB)
    obtain ⟨v, rfl, t1, h4⟩ := h3
    refine ⟨fun _ => t1, ⟨fun h0 => (by rw [hr2] at h0; cases h0), fun k hk => ?_⟩⟩
    rw [hr2, List.mem_singleton] at hk
    subst hk
    unfold wpOp
    simp only [h1]
    rw [if_pos (hw1 _)]
    refine .inl (Oper.wp_mono (fun a' w' h5 => ?_) h4)
    obtain ⟨u, rfl, t2, h6⟩ := h5
    refine ⟨fun _ => t2, ?_⟩
    have := h u v _ t2 h6
    rw [Array.setIfInBounds_comm _ _ hij, set_comm2 _ hdd] at this
    exact this
/-- An append and a new block are ready, and a value is built of what the append gives: each of the two may come first; the outcome is said by C. -/
theorem M_aa {o1 o2 ok : Oper} {fuel : Nat} {listed : Array Bool} {a : Act} {w : World} (i j k d1 d2 dk : Nat) (z : World → Value) (N : World → World) (f : Value → Value) (U : Value → Prop) (C : Value → Value → World → Prop)
    (h1 : ops[i]? = some o1) (h2 : ops[j]? = some o2) (hk : ops[k]? = some ok) (hd1 : o1.dst = some d1) (hd2 : o2.dst = some d2) (hdk : ok.dst = some dk) (hij : i ≠ j) (hjk : j ≠ k) (d12 : d1 ≠ d2) (d2k : d2 ≠ dk)
    (hr : Region.ready md ops listed = [i, j]) (hri : (Region.ready md ops (listed.setIfInBounds i true)).contains k = true) (hrik : Region.ready md ops ((listed.setIfInBounds i true).setIfInBounds k true) = [j])
    (hrj : Region.ready md ops (listed.setIfInBounds j true) = [i]) (hrji : Region.ready md ops ((listed.setIfInBounds j true).setIfInBounds i true) = [k])
    (hw1 : ∀ t, Region.wanted o1 t = true) (hw2 : ∀ t, Region.wanted o2 t = true) (hwk : ∀ t, Region.wanted ok t = true)
    (hs : Region.noSelect ops = true) (hfk : Region.free md ops (listed.setIfInBounds i true) k = true) (hmk : ((ops[m]?).any fun om => om.after.any fun e => Region.binds md e && e.on == k) = true) (hlm : (listed.setIfInBounds i true).getD m true = false)
    (hQ : ∀ v c a w, Q (.panic c) (a.put ok.dst v) w → Q (.panic c) a w)
    (hx2 : ∀ (a' : Act) w', (execOp a'.eval o2).run P w' = .ok (.value (z w')) (N w'))
    (hA : ∃ u w1, (execOp a.eval o1).run P w = .ok (.value u) w1 ∧ U u ∧ T w1 ∧ T (N w1) ∧ C u (z w1) (N w1))
    (hB : T (N w) ∧ ∃ u w1, (execOp (a.put (some d2) (z w)).eval o1).run P (N w) = .ok (.value u) w1 ∧ U u ∧ T w1 ∧ C u (z w) w1)
    (hxk : ∀ u w', U u → (execOp (a.put (some d1) u).eval ok).run P w' = .ok (.value (f u)) w') (hxk' : ∀ u v w', U u → (execOp ((a.put (some d2) v).put (some d1) u).eval ok).run P w' = .ok (.value (f u)) w')
    (h : ∀ u v w', U u → T w' → C u v w' → wpAnyM P md ops Q T m fuel (((listed.setIfInBounds i true).setIfInBounds k true).setIfInBounds j true) { a with tmps := ((a.tmps.setIfInBounds d1 u).setIfInBounds dk (f u)).setIfInBounds d2 v } w') : wpAnyM P md ops Q T m (fuel + 3) listed a w := by
  refine ⟨fun h0 => (by rw [hr] at h0; cases h0), fun q hq => ?_⟩
  rw [hr] at hq
  simp only [List.mem_cons, List.not_mem_nil, or_false] at hq
  rcases hq with rfl | rfl
  · obtain ⟨u, w1, e1, uu, t1, t2, c1⟩ := hA
    unfold wpOp
    simp only [h1]
    rw [if_pos (hw1 _)]
    refine .inl ?_
    unfold Oper.wp
    rw [e1, Oper.upon_value, hd1]
    refine ⟨fun _ => t1, ?_⟩
    refine M_take k dk (f u) _ hk hdk hs hfk hri hmk hlm (fun c a w => hQ _ c a w) (hwk _) (fun w' _ => hxk u w' uu) t1 rfl rfl ?_
    exact M_run j d2 (z w1) (N w1) h2 hd2 hrik (hw2 _) rfl (hx2 _ w1) t2 (h u (z w1) (N w1) uu t2 c1)
  · obtain ⟨t0, u, w1, e1, uu, t1, c1⟩ := hB
    unfold wpOp
    simp only [h2]
    rw [if_pos (hw2 _)]
    refine .inl ?_
    unfold Oper.wp
    rw [hx2, Oper.upon_value, hd2]
    refine ⟨fun _ => t0, ?_⟩
    refine M_run i d1 u w1 h1 hd1 hrj (hw1 _) rfl e1 t1 ?_
    refine M_run k dk (f u) w1 hk hdk hrji (hwk _) rfl (hxk' u (z w) w1 uu) t1 ?_
    have hh := h u (z w) w1 uu t1 c1
    rw [Array.setIfInBounds_comm (xs := listed.setIfInBounds i true) _ _ (Ne.symm hjk), Array.setIfInBounds_comm (xs := listed) _ _ hij, set_comm2 (a.tmps.setIfInBounds d1 u) (Ne.symm d2k), set_comm2 a.tmps d12] at hh
    exact hh
end
end Go.Proofs.YtfnjbbaphmmjlaaGreat

/- VintMany answers true at every list. -/
import Derived.Test.YtppdaohmddbhdaaVnIn
namespace Go.Proofs.Ytppdaohmddbhdaa
open Go.ChangeShapes Go.WideShapes Go.ChangeAt Go.RowKit
set_option linter.unusedVariables false
set_option maxRecDepth 20000

/-- The numbers' bytes, one behind the other. -/
def cat (vs : List Nat) : List Nat := (vs.map digs).flatten
theorem cat_snoc (vs : List Nat) (k : Nat) (h : k < vs.length) : cat (vs.take (k + 1)) = cat (vs.take k) ++ digs (vs.getD k 0) := by
  have e : vs.take (k + 1) = vs.take k ++ [vs.getD k 0] := by
    rw [List.take_succ_eq_append_getElem h, List.getD_eq_getElem?_getD, List.getElem?_eq_getElem h, Option.getD_some]
  rw [e]
  unfold cat
  rw [List.map_append, List.flatten_append]
  simp
theorem cat_split (vs : List Nat) (k : Nat) (h : k < vs.length) : cat vs = cat (vs.take k) ++ digs (vs.getD k 0) ++ cat (vs.drop (k + 1)) := by
  rw [← cat_snoc vs k h]
  unfold cat
  rw [← List.flatten_append, ← List.map_append, List.take_append_drop]
theorem cat_lt (vs : List Nat) : ∀ n ∈ cat vs, n < 256 := by
  intro n hn
  simp only [cat, List.mem_flatten, List.mem_map] at hn
  obtain ⟨l, ⟨v, _, rfl⟩, hn⟩ := hn
  exact digs_lt v n hn
theorem cat_len (vs : List Nat) (hv : ∀ v ∈ vs, v < 18446744073709551616) : (cat vs).length ≤ 10 * vs.length := by
  induction vs with
  | nil => simp [cat]
  | cons v vs ih =>
    have h1 := (digs_len64 v (hv v (by simp))).2
    have h2 := ih (fun x hx => hv x (by simp [hx]))
    simp only [cat, List.map_cons, List.flatten_cons, List.length_append, List.length_cons] at h2 ⊢
    omega
theorem getR_end (ns : List Nat) : getR ns ((ns.length : Nat) : Int) = (0, 0, 2) := by
  rw [getR_in (Nat.le_refl _), List.drop_of_length_le (Nat.le_refl _)]; rfl

/-- What is known of the first k numbers' bytes. -/
structure CatAt (vs : List Nat) (k : Nat) (c : Nat) : Prop where
  len : (cat (vs.take k)).length = c
  le : c ≤ 10 * k

theorem catAt_zero (vs : List Nat) : CatAt vs 0 0 := ⟨by simp [cat], by omega⟩
theorem catAt_le (vs : List Nat) (hv : ∀ v ∈ vs, v < 18446744073709551616) (k : Nat) (hk : k ≤ vs.length) : CatAt vs k (cat (vs.take k)).length := by
  refine ⟨rfl, ?_⟩
  have := cat_len (vs.take k) (fun v h => hv v (List.mem_of_mem_take h))
  simp only [List.length_take] at this
  omega

set_option maxHeartbeats 2000000 in
theorem many_short (b off n cap : Nat) (vs : List Nat) (w : World) (hl : n ≤ 200) (hlc : n ≤ cap) (hm : cap ≤ maxLen) (hvn : vs.length = n) (hb : b < w.heap.size)
    (hcell : ∀ i, i < n → w.cell? ⟨b, off + i, none⟩ = some (.int .u64 ((vs.getD i 0 : Nat) : Int))) (hv : ∀ v ∈ vs, v < 18446744073709551616) :
    Calls Try.prog 8 #[.slice (some ⟨b, off, none⟩) n cap] w fun e w' => e = .returned (.bool true) ∧ Below w.heap.size w w' := by
  have HC : Hid (∀ i, i < n → w.cell? ⟨b, off + i, none⟩ = some (.int .u64 ((vs.getD i 0 : Nat) : Int))) := hcell
  have HV : Hid (∀ v ∈ vs, v < 18446744073709551616) := hv
  have HN : Hid (vs.length = n) := hvn
  have hd200 : decide (200 < ((n : Nat) : Int)) = false := by simp; omega
  unfold maxLen at hm
  clear hcell hv hvn
  go_enter Try.func8, Try.ntmps8
  go_wp2_with fail
  go_loopw [3, 4] (fun bv iv wr => ∃ k : Nat, k ≤ n ∧ iv = .int .i64 (k : Int) ∧ Hid (wr.ownsRow w.heap.size 5 1 bv (cat (vs.take k)).length (byteCells (cat (vs.take k)))) ∧ Below w.heap.size w wr)
    (fun _ iv _ => n - (intOf iv).toNat)
  case atStart => exact ⟨0, Nat.zero_le _, rfl, World.ownsRow_nil _ _ _ _, Below.refl _ _⟩
  case round =>
    obtain ⟨k, hk, rfl, HO, hbel⟩ := hrel
    have hws := hbel.size
    have hat := (catAt_le vs HV.out k (by rw [HN.out]; exact hk)).le
    by_cases hlt : k < n
    · have hc : wr.cell? ⟨b, off + k, none⟩ = some (.int .u64 ((vs.getD k 0 : Nat) : Int)) := by rw [hbel.cell (by exact hb)]; exact HC.out k hlt
      have HS : Hid (cat (vs.take k) ++ digs (vs.getD k 0) = cat (vs.take (k + 1))) := (cat_snoc vs k (by rw [HN.out]; exact hlt)).symm
      have hvk : vs.getD k 0 < 18446744073709551616 := by
        have hk' : k < vs.length := by rw [HN.out]; exact hlt
        rw [List.getD_eq_getElem?_getD, List.getElem?_eq_getElem hk', Option.getD_some]
        exact HV.out _ (List.getElem_mem hk')
      generalize vs.getD k 0 = x at *
      generalize cat (vs.take k) = cs at *
      obtain ⟨a1, cap1, rfl, _, h1, h14, h15, h16⟩ := own_open HO.out
      have HP : Hid (Calls Try.prog 9 #[.slice a1 cs.length cap1, .int .u64 (x : Int)] wr fun e w' => ∃ r, e = .returned r ∧ w'.ownsRow wr.heap.size 5 1 r (cs ++ digs x).length (byteCells (cs ++ digs x)) ∧ Below wr.heap.size wr w') :=
        put_any a1 cs cap1 x wr (fun h => by rcases h1 with h1 | ⟨g, h1, _⟩; · exact h1.2
                                             rw [h1] at h; cases h) h14 h15 (by omega) h16 hvk
      clear h1 h16 HO
      go_wp2_with fail
      refine HP.out.mono ?_
      rintro e w1 ⟨r, rfl, ho, hb1⟩
      have HO1 : Hid (w1.ownsRow w.heap.size 5 1 r (cat (vs.take (k + 1))).length (byteCells (cat (vs.take (k + 1))))) := by rw [← HS.out]; exact own_mono ho hws
      have hb1' : Below w.heap.size w w1 := hbel.trans (hb1.mono hws)
      clear ho hb1 HP
      go_wp2_with fail
      go_roundw
      case rel => exact ⟨k + 1, by omega, by go_num, HO1, hb1'⟩
      case measure => simp [intOf]; omega
    · have e : vs.take k = vs := List.take_of_length_le (by rw [HN.out]; omega)
      have HE := HO.out
      rw [e] at HE
      clear e
      have hcl : (cat vs).length ≤ 2000 := by have := cat_len vs HV.out; rw [HN.out] at this; omega
      clear HO hat
      obtain ⟨a1, cap1, rfl, _, h1, h14, h15, h16⟩ := own_open HE
      have HG : Hid (∀ z : Int, Calls Try.prog 16 #[.slice a1 (cat vs).length cap1, .int .i64 z] wr fun e w' => e = .returned (getV (getR (cat vs) z)) ∧ w' = wr) := fun z =>
        get_any a1 (cat vs) cap1 z wr (by rcases h1 with h1 | ⟨g, h1, _⟩; · exact .inl h1
                                          exact .inr ⟨g, 0, h1⟩) h14 h15 (by omega) h16 (cat_lt vs)
      have HEND : Hid (getR (cat vs) (((cat vs).length : Nat) : Int) = (0, 0, 2)) := getR_end (cat vs)
      have HSTEP : Hid (∀ j, j < n → getR (cat vs) (((cat (vs.take j)).length : Nat) : Int) = (vs.getD j 0, (cat (vs.take (j + 1))).length, 0) ∧ (cat (vs.take j)).length < (cat (vs.take (j + 1))).length) := fun j hj => by
        have hj' : j < vs.length := by rw [HN.out]; exact hj
        have hvj : vs.getD j 0 < 18446744073709551616 := by
          rw [List.getD_eq_getElem?_getD, List.getElem?_eq_getElem hj', Option.getD_some]
          exact HV.out _ (List.getElem_mem hj')
        refine ⟨?_, ?_⟩
        · rw [cat_split vs j hj', getR_put _ _ _ hvj, cat_snoc vs j hj', List.length_append]
        · rw [cat_snoc vs j hj', List.length_append]
          have := (digs_len64 _ hvj).1
          omega
      have HTOP : Hid (cat (vs.take n) = cat vs) := by show _ = _; rw [List.take_of_length_le (by rw [HN.out]; exact Nat.le_refl _)]
      have HLE : Hid (∀ j, j ≤ n → (cat (vs.take j)).length ≤ 10 * j) := fun j hj => (catAt_le vs HV.out j (by rw [HN.out]; exact hj)).le
      obtain ⟨T, hT⟩ : ∃ T, (cat vs).length = T := ⟨_, rfl⟩
      have HT : Hid ((cat vs).length = T) := hT
      rw [hT] at h14 hcl HG HEND ⊢
      clear h1 h16 HE hT
      go_wp2_with fail
      go_loop [5, 6] (fun av iv => ∃ j c : Nat, j ≤ n ∧ iv = .int .i64 (j : Int) ∧ av = .int .i64 (c : Int) ∧ Hid ((cat (vs.take j)).length = c)) (fun _ iv => n - (intOf iv).toNat)
      case atStart => exact ⟨0, 0, Nat.zero_le _, rfl, rfl, rfl⟩
      case round =>
        obtain ⟨j, c, hj, rfl, rfl, HCJ⟩ := hrel
        have hc10 : c ≤ 10 * j := by have := HLE.out j hj; rw [HCJ.out] at this; exact this
        by_cases hjl : j < n
        · have hcj : wr.cell? ⟨b, off + j, none⟩ = some (.int .u64 ((vs.getD j 0 : Nat) : Int)) := by rw [hbel.cell (by exact hb)]; exact HC.out j hjl
          obtain ⟨s1, s2⟩ := HSTEP.out j hjl
          obtain ⟨d, hd⟩ : ∃ d, (cat (vs.take (j + 1))).length = d := ⟨_, rfl⟩
          have HD : Hid ((cat (vs.take (j + 1))).length = d) := hd
          rw [hd, HCJ.out] at s1 s2
          have hd10 : d ≤ 10 * (j + 1) := by have := HLE.out (j + 1) (by omega); rw [hd] at this; exact this
          generalize vs.getD j 0 = x at *
          have S1 : Hid (getR (cat vs) (c : Int) = (x, d, 0)) := s1
          clear s1 hd
          go_wp2_with fail
          refine (HG.out _).mono ?_
          rintro e w1 ⟨rfl, rfl⟩
          rw [S1.out]
          simp only [getV]
          go_wp2_with fail
          go_round
          case rel => exact ⟨j + 1, d, by omega, by go_num, rfl, HD⟩
          case measure => simp [intOf]; omega
        · obtain rfl : j = n := by omega
          have hcT : c = T := by have := HCJ.out; rw [HTOP.out, HT.out] at this; exact this.symm
          subst hcT
          go_wp2_with fail
          refine (HG.out _).mono ?_
          rintro e w1 ⟨rfl, rfl⟩
          rw [HEND.out]
          simp only [getV]
          go_wp2_with fail
          refine (awake_any _).mono ?_
          rintro e w7 ⟨rfl, hb7⟩
          go_wp2_with fail
          go_ret
          exact ⟨rfl, hbel.trans (hb7.mono hws)⟩

set_option maxHeartbeats 2000000 in
theorem many_long (b off len cap : Nat) (vs : List Nat) (w : World) (hl : 200 < len) (hlc : len ≤ cap) (hm : cap ≤ maxLen) (hvn : vs.length = 200) (hb : b < w.heap.size)
    (hcell : ∀ i, i < 200 → w.cell? ⟨b, off + i, none⟩ = some (.int .u64 ((vs.getD i 0 : Nat) : Int))) (hv : ∀ v ∈ vs, v < 18446744073709551616) :
    Calls Try.prog 8 #[.slice (some ⟨b, off, none⟩) len cap] w fun e w' => e = .returned (.bool true) ∧ Below w.heap.size w w' := by
  have HC : Hid (∀ i, i < 200 → w.cell? ⟨b, off + i, none⟩ = some (.int .u64 ((vs.getD i 0 : Nat) : Int))) := hcell
  have HV : Hid (∀ v ∈ vs, v < 18446744073709551616) := hv
  have HN : Hid (vs.length = 200) := hvn
  have hd200 : decide (200 < ((len : Nat) : Int)) = true := by simp; omega
  unfold maxLen at hm
  clear hcell hv hvn
  go_enter Try.func8, Try.ntmps8
  go_wp2_with fail
  go_loopw [3, 4] (fun bv iv wr => ∃ k : Nat, k ≤ 200 ∧ iv = .int .i64 (k : Int) ∧ Hid (wr.ownsRow w.heap.size 5 1 bv (cat (vs.take k)).length (byteCells (cat (vs.take k)))) ∧ Below w.heap.size w wr)
    (fun _ iv _ => 200 - (intOf iv).toNat)
  case atStart => exact ⟨0, Nat.zero_le _, rfl, World.ownsRow_nil _ _ _ _, Below.refl _ _⟩
  case round =>
    obtain ⟨k, hk, rfl, HO, hbel⟩ := hrel
    have hws := hbel.size
    have hat := (catAt_le vs HV.out k (by rw [HN.out]; exact hk)).le
    by_cases hlt : k < 200
    · have hc : wr.cell? ⟨b, off + k, none⟩ = some (.int .u64 ((vs.getD k 0 : Nat) : Int)) := by rw [hbel.cell (by exact hb)]; exact HC.out k hlt
      have HS : Hid (cat (vs.take k) ++ digs (vs.getD k 0) = cat (vs.take (k + 1))) := (cat_snoc vs k (by rw [HN.out]; exact hlt)).symm
      have hvk : vs.getD k 0 < 18446744073709551616 := by
        have hk' : k < vs.length := by rw [HN.out]; exact hlt
        rw [List.getD_eq_getElem?_getD, List.getElem?_eq_getElem hk', Option.getD_some]
        exact HV.out _ (List.getElem_mem hk')
      generalize vs.getD k 0 = x at *
      generalize cat (vs.take k) = cs at *
      obtain ⟨a1, cap1, rfl, _, h1, h14, h15, h16⟩ := own_open HO.out
      have HP : Hid (Calls Try.prog 9 #[.slice a1 cs.length cap1, .int .u64 (x : Int)] wr fun e w' => ∃ r, e = .returned r ∧ w'.ownsRow wr.heap.size 5 1 r (cs ++ digs x).length (byteCells (cs ++ digs x)) ∧ Below wr.heap.size wr w') :=
        put_any a1 cs cap1 x wr (fun h => by rcases h1 with h1 | ⟨g, h1, _⟩; · exact h1.2
                                             rw [h1] at h; cases h) h14 h15 (by omega) h16 hvk
      clear h1 h16 HO
      go_wp2_with fail
      refine HP.out.mono ?_
      rintro e w1 ⟨r, rfl, ho, hb1⟩
      have HO1 : Hid (w1.ownsRow w.heap.size 5 1 r (cat (vs.take (k + 1))).length (byteCells (cat (vs.take (k + 1))))) := by rw [← HS.out]; exact own_mono ho hws
      have hb1' : Below w.heap.size w w1 := hbel.trans (hb1.mono hws)
      clear ho hb1 HP
      go_wp2_with fail
      go_roundw
      case rel => exact ⟨k + 1, by omega, by go_num, HO1, hb1'⟩
      case measure => simp [intOf]; omega
    · have e : vs.take k = vs := List.take_of_length_le (by rw [HN.out]; omega)
      have HE := HO.out
      rw [e] at HE
      clear e
      have hcl : (cat vs).length ≤ 2000 := by have := cat_len vs HV.out; rw [HN.out] at this; omega
      clear HO hat
      obtain ⟨a1, cap1, rfl, _, h1, h14, h15, h16⟩ := own_open HE
      have HG : Hid (∀ z : Int, Calls Try.prog 16 #[.slice a1 (cat vs).length cap1, .int .i64 z] wr fun e w' => e = .returned (getV (getR (cat vs) z)) ∧ w' = wr) := fun z =>
        get_any a1 (cat vs) cap1 z wr (by rcases h1 with h1 | ⟨g, h1, _⟩; · exact .inl h1
                                          exact .inr ⟨g, 0, h1⟩) h14 h15 (by omega) h16 (cat_lt vs)
      have HEND : Hid (getR (cat vs) (((cat vs).length : Nat) : Int) = (0, 0, 2)) := getR_end (cat vs)
      have HSTEP : Hid (∀ j, j < 200 → getR (cat vs) (((cat (vs.take j)).length : Nat) : Int) = (vs.getD j 0, (cat (vs.take (j + 1))).length, 0) ∧ (cat (vs.take j)).length < (cat (vs.take (j + 1))).length) := fun j hj => by
        have hj' : j < vs.length := by rw [HN.out]; exact hj
        have hvj : vs.getD j 0 < 18446744073709551616 := by
          rw [List.getD_eq_getElem?_getD, List.getElem?_eq_getElem hj', Option.getD_some]
          exact HV.out _ (List.getElem_mem hj')
        refine ⟨?_, ?_⟩
        · rw [cat_split vs j hj', getR_put _ _ _ hvj, cat_snoc vs j hj', List.length_append]
        · rw [cat_snoc vs j hj', List.length_append]
          have := (digs_len64 _ hvj).1
          omega
      have HTOP : Hid (cat (vs.take 200) = cat vs) := by show _ = _; rw [List.take_of_length_le (by rw [HN.out]; exact Nat.le_refl _)]
      have HLE : Hid (∀ j, j ≤ 200 → (cat (vs.take j)).length ≤ 10 * j) := fun j hj => (catAt_le vs HV.out j (by rw [HN.out]; exact hj)).le
      obtain ⟨T, hT⟩ : ∃ T, (cat vs).length = T := ⟨_, rfl⟩
      have HT : Hid ((cat vs).length = T) := hT
      rw [hT] at h14 hcl HG HEND ⊢
      clear h1 h16 HE hT
      go_wp2_with fail
      go_loop [5, 6] (fun av iv => ∃ j c : Nat, j ≤ 200 ∧ iv = .int .i64 (j : Int) ∧ av = .int .i64 (c : Int) ∧ Hid ((cat (vs.take j)).length = c)) (fun _ iv => 200 - (intOf iv).toNat)
      case atStart => exact ⟨0, 0, Nat.zero_le _, rfl, rfl, rfl⟩
      case round =>
        obtain ⟨j, c, hj, rfl, rfl, HCJ⟩ := hrel
        have hc10 : c ≤ 10 * j := by have := HLE.out j hj; rw [HCJ.out] at this; exact this
        by_cases hjl : j < 200
        · have hcj : wr.cell? ⟨b, off + j, none⟩ = some (.int .u64 ((vs.getD j 0 : Nat) : Int)) := by rw [hbel.cell (by exact hb)]; exact HC.out j hjl
          obtain ⟨s1, s2⟩ := HSTEP.out j hjl
          obtain ⟨d, hd⟩ : ∃ d, (cat (vs.take (j + 1))).length = d := ⟨_, rfl⟩
          have HD : Hid ((cat (vs.take (j + 1))).length = d) := hd
          rw [hd, HCJ.out] at s1 s2
          have hd10 : d ≤ 10 * (j + 1) := by have := HLE.out (j + 1) (by omega); rw [hd] at this; exact this
          generalize vs.getD j 0 = x at *
          have S1 : Hid (getR (cat vs) (c : Int) = (x, d, 0)) := s1
          clear s1 hd
          go_wp2_with fail
          refine (HG.out _).mono ?_
          rintro e w1 ⟨rfl, rfl⟩
          rw [S1.out]
          simp only [getV]
          go_wp2_with fail
          go_round
          case rel => exact ⟨j + 1, d, by omega, by go_num, rfl, HD⟩
          case measure => simp [intOf]; omega
        · obtain rfl : j = 200 := by omega
          have hcT : c = T := by have := HCJ.out; rw [HTOP.out, HT.out] at this; exact this.symm
          subst hcT
          go_wp2_with fail
          refine (HG.out _).mono ?_
          rintro e w1 ⟨rfl, rfl⟩
          rw [HEND.out]
          simp only [getV]
          go_wp2_with fail
          refine (awake_any _).mono ?_
          rintro e w7 ⟨rfl, hb7⟩
          go_wp2_with fail
          go_ret
          exact ⟨rfl, hbel.trans (hb7.mono hws)⟩

set_option maxHeartbeats 2000000 in
theorem many_empty (a : Option Addr) (cap : Nat) (w : World) :
    Calls Try.prog 8 #[.slice a 0 cap] w fun e w' => e = .returned (.bool true) ∧ Below w.heap.size w w' := by
  go_enter Try.func8, Try.ntmps8
  go_wp2_with fail
  go_loop [3, 4] (fun bv iv => bv = .slice none 0 0 ∧ iv = .int .i64 0) (fun _ _ => 0)
  case atStart => exact ⟨rfl, rfl⟩
  case round =>
    obtain ⟨rfl, rfl⟩ := hrel
    go_wp2_with fail
    go_loop [5, 6] (fun av iv => av = .int .i64 0 ∧ iv = .int .i64 0) (fun _ _ => 0)
    case atStart => exact ⟨rfl, rfl⟩
    case round =>
      obtain ⟨rfl, rfl⟩ := hrel
      go_wp2_with fail
      refine (get_full none 0 _ (fun _ => rfl) (by decide)).mono ?_
      rintro e w1 ⟨rfl, rfl⟩
      simp only [getV]
      go_wp2_with fail
      refine (awake_any _).mono ?_
      rintro e w7 ⟨rfl, hb7⟩
      go_wp2_with fail
      go_ret
      exact ⟨rfl, hb7⟩

theorem vintMany_walk (a : Option Addr) (len cap : Nat) (zs : List Int) (w : World) (h : IsRow .u64 w a len cap zs) (hb : cap * Try.prog.bytesOf 23 ≤ 140737488351232) :
    Calls Try.prog 8 #[.slice a len cap] w fun e w' => e = .returned (.bool true) ∧ Below w.heap.size w w' := by
  by_cases h1 : len = 0
  · subst h1; exact many_empty a cap w
  · rcases h with ⟨_, h, _⟩ | ⟨x, rfl, hl, hm, hz, hc, hw⟩
    · exact absurd h h1
    · obtain ⟨b, off, rfl, hcell⟩ := ints_at hc (by omega)
      have hblk : b < w.heap.size := World.block_lt_of_cell? _ _ (hcell 0 (by omega))
      have key : ∀ n, n ≤ len → (((zs.take n).map Int.toNat).length = n) ∧ (∀ i, i < n → w.cell? ⟨b, off + i, none⟩ = some (.int .u64 ((((zs.take n).map Int.toNat).getD i 0 : Nat) : Int))) ∧ ∀ v ∈ (zs.take n).map Int.toNat, v < 18446744073709551616 := by
        intro n hn
        refine ⟨by simp; omega, ?_, ?_⟩
        · intro i hi
          have hiz : i < zs.length := by omega
          obtain ⟨w1, w2⟩ := bounds_u64 (hw (zs[i]) (List.getElem_mem hiz))
          rw [hcell i hiz]
          simp [List.getD_eq_getElem?_getD, hi, hiz]
          omega
        · intro v hv
          simp only [List.mem_map] at hv
          obtain ⟨z, hz', rfl⟩ := hv
          obtain ⟨w1, w2⟩ := bounds_u64 (hw z (List.mem_of_mem_take hz'))
          omega
      by_cases h200 : len ≤ 200
      · obtain ⟨k1, k2, k3⟩ := key len (Nat.le_refl _)
        exact many_short b off len cap _ w h200 hl hm k1 hblk k2 k3
      · obtain ⟨k1, k2, k3⟩ := key 200 (by omega)
        exact many_long b off len cap _ w (by omega) hl hm k1 hblk k2 k3
end Go.Proofs.Ytppdaohmddbhdaa

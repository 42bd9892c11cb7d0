/- What PutAll answers: all fields' bytes. -/
import Derived.Test.YtfbekeebllcdbaaWrLeaf
import Derived.Test.YtfbekeebllcdbaaRwRow
namespace Go.Proofs.Ytfbekeebllcdbaa
open Go.ChangeShapes Go.WideShapes Go.ChangeAt Go.RowKit
set_option linter.unusedVariables false
set_option linter.unusedSimpArgs false
set_option maxRecDepth 20000

theorem all_take_snoc {rs : List Fd} {i : Nat} {r : Fd} (h : rs[i]? = some r) : rs.take (i + 1) = rs.take i ++ [r] := by
  rw [List.take_add_one, h]; rfl
theorem all_bad {rs : List Fd} {i : Nat} {r : Fd} (h : rs[i]? = some r) (hr : okF r = false) : rs.all okF = false := by
  rw [List.all_eq_false]
  exact ⟨r, List.mem_of_getElem? h, by simp [hr]⟩
theorem flat_take_le (rs : List Fd) (i : Nat) : (flatN (rs.take i)).length ≤ (flatN rs).length := by
  conv => rhs; rw [← List.take_append_drop i rs, flatN_app, List.length_append]
  omega

set_option maxHeartbeats 2000000 in
theorem wputall_any (a : Option Addr) (rs : List Fd) (N cap : Nat) (w : World) (hN : rs.length = N) (hadr : rs = [] ∨ ∃ g off, a = some ⟨g, off, none⟩) (hc : N ≤ cap) (hm : cap ≤ maxLen) (hl : N ≤ 1000000) (hh : HoldsR w a rs) (h64 : ∀ r ∈ rs, Is64 r.n) :
    Calls Try.prog 14 #[.slice a N cap] w fun e w' => ∃ v, e = .returned (.tuple #[v, .int .i64 ((putL rs).2 : Int)]) ∧ w'.ownsRow w.heap.size 5 1 v (putL rs).1.length (byteCells (putL rs).1) ∧ Below w.heap.size w w' := by
  have HN : Hid (rs.length = N) := hN
  have HA : Hid (rs = [] ∨ ∃ g off, a = some ⟨g, off, none⟩) := hadr
  have HH : Hid (HoldsR w a rs) := hh
  have H64 : Hid (∀ r ∈ rs, Is64 r.n) := h64
  obtain ⟨R, hR⟩ : ∃ R, putL rs = R := ⟨_, rfl⟩
  rw [hR]
  have HR : Hid (putL rs = R) := hR
  unfold maxLen at hm
  clear hN hadr hh h64 hR
  go_enter Try.func14, Try.ntmps14
  go_wp2_with fail
  go_loopw [11] (fun iv wr => ∃ i : Nat, iv = .int .i64 (i : Int) ∧ i ≤ N ∧ Hid ((rs.take i).all okF = true) ∧ Below w.heap.size w wr) (fun iv _ => N - (intOf iv).toNat)
  case atStart => exact ⟨0, rfl, by omega, (by rfl : ((rs.take 0).all okF = true)), Below.refl _ _⟩
  case round =>
    obtain ⟨i, rfl, hi, HT, hbel⟩ := hrel
    have hws := hbel.size
    by_cases hlt : i < N
    · have hr : rs[i]? = some (rs[i]'(by rw [HN.out]; exact hlt)) := List.getElem?_eq_getElem _
      generalize rs[i]'(by rw [HN.out]; exact hlt) = r at hr
      rcases HA.out with h0 | ⟨g, off, rfl⟩
      · exact absurd hlt (by have := HN.out; rw [h0] at this; simp at this; omega)
      obtain ⟨p0, p1, p2, p3⟩ := (HH.out.below hbel).at hr
      have HK : Hid (rs[i]? = some r) := hr
      obtain ⟨ok, hok⟩ : ∃ b, okF r = b := ⟨_, rfl⟩
      have HOK : Hid (okF r = ok) := hok
      have HCK : Hid (∀ W, Calls Try.prog 17 #[.agg #[.int .i64 r.tag, .int .i64 r.wire, .int .i64 r.n, .string r.b]] W fun e w' => e = .returned (.bool ok) ∧ Below W.heap.size W w') := fun W => by rw [← hok]; exact check_any r W
      clear hr hok
      generalize r.tag = t at p0 HCK
      generalize r.wire = k at p1 HCK
      generalize r.n = n at p2 HCK
      generalize r.b = b at p3 HCK
      go_wp2_with fail
      refine (HCK.out _).mono ?_
      rintro e w1 ⟨rfl, hb1⟩
      have hb1' : Below w.heap.size w w1 := (hbel.alloc hws _).trans (hb1.mono (by simp; omega))
      clear hb1 p0 p1 p2 p3 HCK hbel
      cases ok with
      | true =>
        have HT2 : Hid ((rs.take (i + 1)).all okF = true) := by
          show _ = _
          rw [all_take_snoc HK.out, List.all_append, HT.out, List.all_cons, HOK.out, List.all_nil]
          rfl
        clear HT HK HOK
        go_wp2_with fail
        go_roundw
        case rel => exact ⟨i + 1, by go_num, by omega, HT2, hb1'⟩
        case measure => simp [intOf]; omega
      | false =>
        obtain rfl : R = ([], 1) := by rw [← HR.out]; exact putL_bad (all_bad HK.out HOK.out)
        clear HT HK HOK HR
        go_wp2_with fail
        go_ret2
        exact ⟨_, rfl, World.ownsRow_nil _ _ _ _, hb1'⟩
    · obtain rfl : i = N := by omega
      have HALL : Hid (rs.all okF = true) := by
        have := HT.out
        rw [List.take_of_length_le (by rw [HN.out]; exact Nat.le_refl _)] at this
        exact this
      clear HT
      go_wp2_with fail
      go_loopw [6, 21] (fun out iv wr' => ∃ i' : Nat, iv = .int .i64 (i' : Int) ∧ i' ≤ i ∧ Hid ((flatN (rs.take i')).length ≤ 4096) ∧ Hid (wr'.ownsRow w.heap.size 5 1 out (flatN (rs.take i')).length (byteCells (flatN (rs.take i')))) ∧ Below w.heap.size w wr') (fun _ iv _ => i - (intOf iv).toNat)
      case atStart => exact ⟨0, rfl, by omega, (by rw [List.take_zero, flatN_nil]; decide : (flatN (rs.take 0)).length ≤ 4096), by rw [List.take_zero, flatN_nil]; exact World.ownsRow_nil _ _ _ _, hbel⟩
      case round =>
        obtain ⟨j, rfl, hj, HL, HO, hbel2⟩ := hrel
        have hws2 := hbel2.size
        by_cases hlt2 : j < i
        · have hr : rs[j]? = some (rs[j]'(by rw [HN.out]; exact hlt2)) := List.getElem?_eq_getElem _
          generalize rs[j]'(by rw [HN.out]; exact hlt2) = r at hr
          rcases HA.out with h0 | ⟨g, off, rfl⟩
          · exact absurd hlt2 (by have := HN.out; rw [h0] at this; simp at this; omega)
          obtain ⟨p0, p1, p2, p3⟩ := (HH.out.below hbel2).at hr
          have hmem : r ∈ rs := List.mem_of_getElem? hr
          have hrok : okF r = true := List.all_eq_true.1 HALL.out r hmem
          have hr64 := H64.out r hmem
          have hfl := (fieldN_len hrok hr64).2
          have HFD : Hid (∀ W, Calls Try.prog 27 #[.agg #[.int .i64 r.tag, .int .i64 r.wire, .int .i64 r.n, .string r.b]] W fun e w' => ∃ v, e = .returned v ∧ w'.ownsRow W.heap.size 5 1 v (fieldN r).length (byteCells (fieldN r)) ∧ Below W.heap.size W w') := fun W => field_any r W hrok hr64
          have HF1 : Hid (flatN (rs.take (j + 1)) = flatN (rs.take j) ++ fieldN r) := by
            show _ = _
            rw [all_take_snoc hr, flatN_app, flatN_cons, flatN_nil, List.append_nil]
          clear hr hmem hrok hr64
          generalize r.tag = t at p0 HFD
          generalize r.wire = k at p1 HFD
          generalize r.n = n at p2 HFD
          generalize r.b = b at p3 HFD
          generalize fieldN r = fs at *
          have HLF : Hid (fs.length ≤ 4116) := hfl
          clear hfl
          obtain ⟨F, hF⟩ : ∃ F, flatN (rs.take j) = F := ⟨_, rfl⟩
          rw [hF] at HL HO HF1
          clear hF
          go_wp2_with fail
          refine (HFD.out _).mono ?_
          rintro e w1 ⟨v1, rfl, ho1, hb1⟩
          have hb1' : Below w.heap.size w w1 := (hbel2.alloc hws2 _).trans (hb1.mono (by simp; omega))
          have HO1 := own_belowH HO ((below_one _ _).trans (hb1.mono (by simp)))
          obtain ⟨a2, cap2, rfl, -, h21, h22, h23, h24⟩ := own_open ho1
          have HH2 : Hid (Holds w1 a2 fs) := h24
          have HA2 : Hid (a2 = none → fs = [] ∧ cap2 = 0) := by
            rcases h21 with h | ⟨g', h, _⟩
            · exact fun _ => ⟨h.2.1, h.2.2⟩
            · exact fun e => by rw [h] at e; cases e
          clear HO ho1 hb1 h21 h22 h23 h24 p0 p1 p2 p3 HFD hbel2
          obtain ⟨M, hM⟩ : ∃ M, fs.length = M := ⟨_, rfl⟩
          rw [hM]
          have HM : Hid (M = fs.length) := hM.symm
          clear hM
          go_wp2_with (first
            | (at_builtin; refine wpList_join rfl _ _ rfl w.heap.size _ _ F rfl HO1.out a2 fs M cap2 rfl HM.out HA2.out HH2.out ?c1 ?c2 ?_)
            | fail)
          case c1 => have := HL.out; have := HLF.out; omega
          case c2 => exact hb1'.size
          intro v3 w3 ho3 hg3
          have hb3 : Below w.heap.size w w3 := hb1'.grown hg3 hb1'.size (fun k hk => (HO1.out.lt k hk).1)
          obtain ⟨a3, cap3, rfl, -, h31, h32, h33, h34⟩ := own_open ho3
          have e0 : F.length + fs.length = (flatN (rs.take (j + 1))).length := by rw [HF1.out, List.length_append]
          rw [← HF1.out] at ho3 ⊢
          rw [e0] at ho3
          clear e0
          have HO3 : Hid (w3.ownsRow w.heap.size 5 1 (.slice a3 (flatN (rs.take (j + 1))).length cap3) (flatN (rs.take (j + 1))).length (byteCells (flatN (rs.take (j + 1))))) := ho3
          clear ho3 hg3 h31 h32 h33 h34 HO1 HH2 HA2 HM HL HLF HF1 hb1'
          by_cases hbig : 4096 < (flatN (rs.take (j + 1))).length
          · obtain rfl : R = ([], 4) := by rw [← HR.out]; exact putL_big HALL.out (Nat.lt_of_lt_of_le hbig (flat_take_le rs _))
            clear HR HO3
            generalize (flatN (rs.take (j + 1))).length = L at *
            go_wp2_with fail
            go_ret2
            exact ⟨_, rfl, World.ownsRow_nil _ _ _ _, hb3⟩
          · have HL3 : Hid ((flatN (rs.take (j + 1))).length ≤ 4096) := by show _ ≤ _; omega
            obtain ⟨L, hLL⟩ : ∃ L, (flatN (rs.take (j + 1))).length = L := ⟨_, rfl⟩
            have hbig' : ¬ 4096 < L := by omega
            rw [hLL]
            have HLL : Hid ((flatN (rs.take (j + 1))).length = L) := hLL
            clear hbig hLL
            go_wp2_with fail
            go_roundw
            case rel => exact ⟨j + 1, by go_num, by omega, HL3, by rw [← HLL.out]; exact HO3, hb3⟩
            case measure => simp [intOf]; omega
        · obtain rfl : j = i := by omega
          have hF : flatN (rs.take j) = flatN rs := by rw [List.take_of_length_le (by rw [HN.out]; exact Nat.le_refl _)]
          rw [hF] at HL HO
          obtain rfl : R = (flatN rs, 0) := by rw [← HR.out]; exact putL_ok HALL.out HL.out
          clear HR hF
          go_wp2_with fail
          go_ret2
          exact ⟨_, rfl, HO.out, hbel2⟩
end Go.Proofs.Ytfbekeebllcdbaa

/- WireCuts answers true at any list and every place. -/
import Derived.Test.YtfbekeebllcdbaaWrOwn
import Derived.Test.YtfbekeebllcdbaaWrBack
import Derived.Test.YtfbekeebllcdbaaWrPut
import Derived.Test.YtfbekeebllcdbaaRwRaws
import Derived.Test.YtfbekeebllcdbaaRwSame
import Derived.Test.YtfbekeebllcdbaaRwOpen
import Derived.Test.YtfbekeebllcdbaaLwPlace
namespace Go.Proofs.Ytfbekeebllcdbaa
open Go.ChangeShapes Go.WideShapes Go.ChangeAt Go.RowKit
set_option linter.unusedVariables false
set_option linter.unusedSimpArgs false
set_option maxRecDepth 20000

theorem putL_zero {rs : List Fd} {X : List Nat} (h : putL rs = (X, 0)) : rs.all okF = true ∧ (flatN rs).length ≤ 4096 ∧ X = flatN rs := by
  unfold putL at h
  split at h <;> rename_i h1
  · split at h <;> rename_i h2
    · exact ⟨h1, h2, (Prod.mk.inj h).1.symm⟩
    · simp at h
  · simp at h
theorem Holds.cut {w : World} {a : Option Addr} {ns : List Nat} {k : Nat} (h : Holds w a ns) : Holds w a (ns.take k) := by
  have : Holds w a (ns.take k ++ ns.drop k) := by rw [List.take_append_drop]; exact h
  exact this.take
theorem HoldsR.cut {w : World} {a : Option Addr} {rs : List Fd} (h : HoldsR w a rs) (k : Nat) : HoldsR w a (rs.take k) := by
  have : HoldsR w a (rs.take k ++ rs.drop k) := by rw [List.take_append_drop]; exact h
  exact this.take

set_option maxHeartbeats 1000000 in
theorem wireCuts_walk (a : Option Addr) (N c : Nat) (rs : List Fd) (at' : Int) (w : World) (ha : CameR w a N c rs) (hat : (Lit.int .i64 at').wf = true) :
    Calls Try.prog 7 #[.slice a N c, .int .i64 at'] w fun e w' => e = .returned (.bool true) ∧ Below w.heap.size w w' := by
  obtain ⟨hat1, hat2⟩ := bounds_i64 hat
  clear hat
  have HA : Hid (CameR w a N c rs) := ha
  have hNc := ha.le
  have hcm := ha.max
  unfold maxLen at hcm
  have S1 : Hid (∀ W, Below w.heap.size w W → Calls Try.prog 9 #[.slice a N c] W fun e w' => e = .returned (.bool (smallB rs)) ∧ w' = W) := fun W hW => small_any a rs N c W ha.len ha.adr ha.le ha.max (ha.holds.below hW)
  clear ha
  cases hs1 : smallB rs with
  | false =>
    rw [hs1] at S1
    go_enter Try.func7, Try.ntmps7
    go_wp2_with fail
    refine (S1.out _ (Below.refl _ _)).mono ?_
    rintro e w1 ⟨rfl, rfl⟩
    clear S1
    go_wp2_with fail
    refine (wawake_any _).mono ?_
    rintro e w5 ⟨rfl, hb5⟩
    go_wp2_with fail
    go_ret
    exact ⟨rfl, hb5⟩
  | true =>
  rw [hs1] at S1
  have hN : N ≤ 60 := by rw [← HA.out.len]; exact small_len hs1
  obtain ⟨X, hX⟩ : ∃ X, putL rs = X := ⟨_, rfl⟩
  have HX : Hid (putL rs = X) := hX
  have P1 : Hid (∀ B W r n, W.ownsRow B 24 4 r n (rawCells rs) → Calls Try.prog 14 #[r] W fun e w' => ∃ v, e = .returned (.tuple #[v, .int .i64 (X.2 : Int)]) ∧ w'.ownsRow W.heap.size 5 1 v X.1.length (byteCells X.1) ∧ Below W.heap.size W w') := fun B W r n ho => by
    rw [← hX]; exact putall_own ho (by rw [HA.out.len]; omega) HA.out.n64
  clear hX hs1
  go_enter Try.func7, Try.ntmps7
  go_wp2_with fail
  refine (S1.out _ (Below.refl _ _)).mono ?_
  rintro e w ⟨rfl, rfl⟩
  clear S1
  go_wp2_with fail
  refine (raws_any a rs N c w HA.out.len (by omega) HA.out.nil HA.out.holds).mono ?_
  rintro e w1 ⟨r1, rfl, ho1, hb1⟩
  have C1 : Hid (Calls Try.prog 14 #[r1] w1 fun e w' => ∃ v, e = .returned (.tuple #[v, .int .i64 (X.2 : Int)]) ∧ w'.ownsRow w1.heap.size 5 1 v X.1.length (byteCells X.1) ∧ Below w1.heap.size w1 w') := P1.out _ _ _ _ ho1
  clear ho1 P1
  go_wp2_with fail
  refine C1.out.mono ?_
  rintro e wb ⟨x, rfl, ho2, hb2⟩
  have hbb2 : Below w.heap.size w wb := hb1.trans (hb2.mono hb1.size)
  clear C1 hb1 hb2
  by_cases hx0 : X.2 = 0
  · obtain ⟨X, e0⟩ := X
    simp only at hx0 ho2 HX
    subst hx0
    obtain ⟨hok, hlen, rfl⟩ := putL_zero HX.out
    have HOK : Hid (rs.all okF = true) := hok
    have HLE : Hid ((flatN rs).length ≤ 4096) := hlen
    have HBW : Hid (Below w.heap.size w wb) := hbb2
    obtain ⟨ax, cx, rfl, -, hax, hcx, hcxm, hxh⟩ := own_open ho2
    have HCM : Hid (cx ≤ maxLen) := hcxm
    have HXH : Hid (Holds wb ax (flatN rs)) := hxh
    obtain ⟨L, hL⟩ : ∃ L, (flatN rs).length = L := ⟨_, rfl⟩
    have HFL : Hid ((flatN rs).length = L) := hL
    rw [hL] at hlen hcx ⊢
    unfold maxLen at hcxm
    clear HX ho2 hxh hbb2 hok hL
    go_wp2_with fail
    refine (place_any at' _ _ hat1 hat2 (by omega) (by omega)).mono ?_
    rintro e w2 ⟨k, rfl, hk, rfl⟩
    have hkL : k ≤ L := by omega
    clear hk hat1 hat2
    by_cases hrs : rs = []
    · subst hrs
      obtain rfl : N = 0 := by have := HA.out.len; simpa using this.symm
      obtain rfl : L = 0 := by have := HFL.out; simpa [flatN] using this.symm
      obtain rfl : k = 0 := by omega
      have hgl : getL [] = ([], 0) := by rw [getL, if_neg (by simp), getA_end (by simp)]
      have C2 : Hid (Calls Try.prog 18 #[.slice ax 0 cx] w2 fun e w' => ∃ aa cc, e = .returned (.tuple #[.slice aa 0 cc, .int .i64 0]) ∧ cc ≤ maxLen ∧ Below w2.heap.size w2 w') := by
        have := wget_any ax [] 0 cx w2 rfl Holds.nil (by simp) (Nat.zero_le _) HCM.out (.inl rfl)
        rw [hgl] at this
        refine this.mono ?_
        rintro e w' ⟨v, rfl, ho, hb⟩
        obtain ⟨a3, cap3, rfl, -, -, -, h33, -⟩ := own_openR ho
        exact ⟨a3, cap3, rfl, h33, hb⟩
      have C3 : Hid (∀ aa cc W, cc ≤ maxLen → Calls Try.prog 21 #[.slice aa 0 cc, .slice a 0 c] W fun e w' => e = .returned (.bool true) ∧ Below W.heap.size W w') := fun aa cc W h => same_any aa a [] 0 cc c W rfl (.inl rfl) (.inl rfl) (Nat.zero_le _) (Nat.zero_le _) h HA.out.max (by omega) HoldsR.nil HoldsR.nil
      have HAX : Hid (cx = 0 ∨ (¬ cx = 0 ∧ ∃ ad, ax = some ad)) := by
        by_cases h : cx = 0
        · exact .inl h
        · rcases hax with ⟨_, _, h'⟩ | ⟨gx, h', _⟩
          · exact absurd h' h
          · exact .inr ⟨h, _, h'⟩
      have HAA : Hid (c = 0 ∨ (¬ c = 0 ∧ ∃ ad, a = some ad)) := by
        by_cases h : c = 0
        · exact .inl h
        · cases a with
          | none => exact absurd (HA.out.nil rfl).2 h
          | some ad => exact .inr ⟨h, ad, rfl⟩
      clear hax hgl HA HFL HXH HCM HOK HLE
      rcases HAX.out with rfl | ⟨hq1, ad, rfl⟩ <;> rcases HAA.out with rfl | ⟨hq2, ae, rfl⟩
      all_goals
        clear HAX HAA
        go_wp2_with fail
        go_loopw [8, 9] (fun nv ev wr => nv = .int .i64 0 ∧ ev = .int .i64 0 ∧ wr = w2) (fun _ _ _ => 0)
        case atStart => exact ⟨rfl, rfl, rfl⟩
        case round =>
          obtain ⟨rfl, rfl, rfl⟩ := hrel
          go_wp2_with fail
          refine C2.out.mono ?_
          rintro e w3 ⟨aa, cc, rfl, hcc, hb3⟩
          have hbb3 : Below w.heap.size w w3 := HBW.out.trans (hb3.mono HBW.out.size)
          have HS : Hid (Calls Try.prog 21 _ w3 fun e w' => e = .returned (.bool true) ∧ Below w3.heap.size w3 w') := C3.out aa cc w3 hcc
          clear C2 C3 hb3 hcc
          go_wp2_with fail
          refine HS.out.mono ?_
          rintro e w4 ⟨rfl, hb4⟩
          have hbb4 : Below w.heap.size w w4 := hbb3.trans (hb4.mono hbb3.size)
          clear HS hb4 hbb3
          go_wp2_with fail
          refine (wawake_any _).mono ?_
          rintro e w5 ⟨rfl, hb5⟩
          have hbb5 : Below w.heap.size w w5 := hbb4.trans (hb5.mono hbb4.size)
          clear hb5 hbb4
          go_wp2_with fail
          go_ret
          exact ⟨rfl, hbb5⟩
    · rcases HA.out.adr with h0 | ⟨ga, oa, rfl⟩
      · exact absurd h0 hrs
      rcases hax with ⟨_, h0, _⟩ | ⟨gx, rfl, _⟩
      · exact absurd h0 (by
          cases rs with
          | nil => exact absurd rfl hrs
          | cons r l =>
            have := (fieldN_len (List.all_eq_true.1 HOK.out r (by simp)) (HA.out.n64 r (by simp))).1
            rw [flatN_cons]
            intro h
            rw [List.append_eq_nil_iff] at h
            rw [h.1] at this
            simp at this)
      have hc0 : ¬ c = 0 := by
        have := HA.out.len
        have : rs.length ≠ 0 := by simpa using hrs
        omega
      have hcx0 : ¬ cx = 0 := by
        have : (flatN rs).length ≠ 0 := by
          cases rs with
          | nil => exact absurd rfl hrs
          | cons r l =>
            have := (fieldN_len (List.all_eq_true.1 HOK.out r (by simp)) (HA.out.n64 r (by simp))).1
            rw [flatN_cons, List.length_append]
            omega
        have := HFL.out
        omega
      clear hrs
      go_wp2_with fail
      go_loopw [8, 9] (fun nv ev wr => ∃ n E : Nat, nv = .int .i64 (n : Int) ∧ ev = .int .i64 (E : Int) ∧ n ≤ N ∧ E ≤ k ∧ Hid ((flatN (rs.take n)).length = E) ∧ Below w2.heap.size w2 wr) (fun nv _ _ => N - (intOf nv).toNat)
      case atStart => exact ⟨0, 0, rfl, rfl, by omega, by omega, (by rw [List.take_zero]; rfl : (flatN (rs.take 0)).length = 0), Below.refl _ _⟩
      case round =>
        obtain ⟨n, E, rfl, rfl, hn, hE, HE, hbel⟩ := hrel
        by_cases hlt : n < N
        · have hr : rs[n]? = some (rs[n]'(by rw [HA.out.len]; exact hlt)) := List.getElem?_eq_getElem _
          generalize rs[n]'(by rw [HA.out.len]; exact hlt) = r at hr
          have hmem := List.mem_of_getElem? hr
          have hrok := List.all_eq_true.1 HOK.out r hmem
          have hr64 := HA.out.n64 r hmem
          have hbw1 : Below w.heap.size w wr := HBW.out.trans (hbel.mono HBW.out.size)
          obtain ⟨p0, p1, p2, p3⟩ := (HA.out.holds.below hbw1).at hr
          have hfl := fieldN_len hrok hr64
          have HP : Hid (Calls Try.prog 11 #[.slice none 0 0, .agg #[.int .i64 r.tag, .int .i64 r.wire, .int .i64 r.n, .string r.b]] wr fun e w' => ∃ aa cc, e = .returned (.tuple #[.slice aa (fieldN r).length cc, .bool true]) ∧ Below wr.heap.size wr w') := by
            refine (wput_ok r none [] 0 0 wr hrok hr64 rfl (fun _ => ⟨rfl, rfl⟩) (Nat.le_refl _) (by decide) (by decide) Holds.nil).mono ?_
            rintro e w' ⟨v, rfl, ho, hb⟩
            rw [List.nil_append] at ho
            obtain ⟨a3, cap3, rfl, -⟩ := own_open ho
            exact ⟨a3, cap3, rfl, hb⟩
          have HR : Hid (rs[n]? = some r) := hr
          have HF1 : Hid ((flatN (rs.take (n + 1))).length = E + (fieldN r).length) := by
            show _ = _
            rw [List.take_add_one, hr, flatN_app, List.length_append, HE.out]
            simp [flatN]
          have HGW : E < k → k < E + (fieldN r).length → getL ((flatN rs).take k) = ([], 2) := fun g1 g2 => getL_within HOK.out HA.out.n64 HLE.out n k r hr (by rw [HE.out]; exact g1) (by rw [HE.out]; exact g2)
          have HGW' : Hid (E < k → k < E + (fieldN r).length → getL ((flatN rs).take k) = ([], 2)) := HGW
          clear hr hmem hrok hr64 hbw1 HGW
          generalize (fieldN r).length = fl at *
          generalize r.tag = t at p0 HP
          generalize r.wire = kk at p1 HP
          generalize r.n = nn at p2 HP
          generalize r.b = bb at p3 HP
          go_wp2_with fail
          refine HP.out.mono ?_
          rintro e w3 ⟨aa, cc, rfl, hb3⟩
          have hbel3 : Below w2.heap.size w2 w3 := hbel.trans (hb3.mono hbel.size)
          clear p0 p1 p2 p3 HP hb3 hbel HR
          by_cases hgt : k < E + fl
          · by_cases hek : E = k
            · obtain rfl : k = E := hek.symm
              have HK := HE
              clear HF1 HGW' HE
              have hgl := getL_cut HOK.out HA.out.n64 HLE.out n
              rw [HK.out] at hgl
              have ht : ((flatN rs).take k).length = k := by rw [List.length_take]; have := HFL.out; omega
              have C2 : Hid (Calls Try.prog 18 #[.slice (some ⟨gx, 0, none⟩) k cx] w3 fun e w' => ∃ v, e = .returned (.tuple #[v, .int .i64 0]) ∧ w'.ownsRow w3.heap.size 24 4 v (rs.take n).length (rawCells (rs.take n)) ∧ Below w3.heap.size w3 w') := by
                have := wget_any (some ⟨gx, 0, none⟩) ((flatN rs).take k) k cx w3 ht (HXH.out.below hbel3).cut (fun x hx => flatN_lt rs x (List.mem_of_mem_take hx)) (by have := HFL.out; omega) HCM.out (.inr ⟨_, _, rfl⟩)
                rw [hgl] at this
                exact this
              have HLN : Hid ((rs.take n).length = n) := by show _ = _; rw [List.length_take, HA.out.len]; omega
              have hbw2 : Below w.heap.size w w3 := HBW.out.trans (hbel3.mono HBW.out.size)
              clear hgl ht hbel3 HK
              go_wp2_with fail
              refine C2.out.mono ?_
              rintro e w3 ⟨m, rfl, ho3, hb3⟩
              have hbb3 : Below w.heap.size w w3 := hbw2.trans (hb3.mono hbw2.size)
              obtain ⟨a3, cap3, rfl, -, h31, h32, h33, h34⟩ := own_openR ho3
              have hs := same_any a3 (some ⟨ga, oa, none⟩) (rs.take n) n cap3 c w3 HLN.out (own_adrR h31) (.inr ⟨_, _, rfl⟩) (by rw [HLN.out] at h32; exact h32) (by have := HA.out.le; omega) h33 HA.out.max (by omega) h34 ((HA.out.holds.below hbb3).cut n)
              have HS : Hid (Calls Try.prog 21 #[.slice a3 n cap3, .slice (some ⟨ga, oa, none⟩) n c] w3 fun e w' => e = .returned (.bool true) ∧ Below w3.heap.size w3 w') := hs
              rw [HLN.out]
              clear C2 ho3 hb3 h31 h32 h33 h34 hs hbw2
              go_wp2_with fail
              refine HS.out.mono ?_
              rintro e w4 ⟨rfl, hb4⟩
              have hbb4 : Below w.heap.size w w4 := hbb3.trans (hb4.mono hbb3.size)
              clear HS hb4 hbb3
              go_wp2_with fail
              refine (wawake_any _).mono ?_
              rintro e w5 ⟨rfl, hb5⟩
              have hbb5 : Below w.heap.size w w5 := hbb4.trans (hb5.mono hbb4.size)
              clear hb5 hbb4
              go_wp2_with fail
              go_ret
              exact ⟨rfl, hbb5⟩
            · have HGW : Hid (getL ((flatN rs).take k) = ([], 2)) := HGW'.out (by omega) hgt
              have hek' : ((E : Int) == (k : Int)) = false := by simp; omega
              clear HF1 HGW' HE hek
              have ht : ((flatN rs).take k).length = k := by rw [List.length_take]; have := HFL.out; omega
              have C2 : Hid (Calls Try.prog 18 #[.slice (some ⟨gx, 0, none⟩) k cx] w3 fun e w' => ∃ aa cc, e = .returned (.tuple #[.slice aa 0 cc, .int .i64 2]) ∧ Below w3.heap.size w3 w') := by
                have := wget_any (some ⟨gx, 0, none⟩) ((flatN rs).take k) k cx w3 ht (HXH.out.below hbel3).cut (fun x hx => flatN_lt rs x (List.mem_of_mem_take hx)) (by have := HFL.out; omega) HCM.out (.inr ⟨_, _, rfl⟩)
                rw [HGW.out] at this
                refine this.mono ?_
                rintro e w' ⟨v, rfl, ho, hb⟩
                obtain ⟨a3, cap3, rfl, -⟩ := own_openR ho
                exact ⟨a3, cap3, rfl, hb⟩
              have hbw2 : Below w.heap.size w w3 := HBW.out.trans (hbel3.mono HBW.out.size)
              clear ht hbel3 HGW
              go_wp2_with fail
              refine C2.out.mono ?_
              rintro e w4 ⟨aa, cc, rfl, hb4⟩
              have hbb4 : Below w.heap.size w w4 := hbw2.trans (hb4.mono hbw2.size)
              clear C2 hb4 hbw2
              go_wp2_with fail
              refine (wawake_any _).mono ?_
              rintro e w5 ⟨rfl, hb5⟩
              have hbb5 : Below w.heap.size w w5 := hbb4.trans (hb5.mono hbb4.size)
              clear hb5 hbb4
              go_wp2_with fail
              go_ret
              exact ⟨rfl, hbb5⟩
          · clear HGW' HE
            go_wp2_with fail
            go_roundw
            case rel => exact ⟨n + 1, E + fl, by go_num, by go_num, by omega, by omega, HF1, hbel3⟩
            case measure => simp [intOf]; omega
        · obtain rfl : n = N := by omega
          have hEL : E = L := by
            rw [← HE.out, List.take_of_length_le (by rw [HA.out.len]; exact Nat.le_refl _)]
            exact HFL.out
          obtain rfl : k = E := by omega
          have HK := HE
          clear HE hEL
          have hgl := getL_cut HOK.out HA.out.n64 HLE.out n
          rw [HK.out] at hgl
          have ht : ((flatN rs).take k).length = k := by rw [List.length_take]; have := HFL.out; omega
          have C2 : Hid (Calls Try.prog 18 #[.slice (some ⟨gx, 0, none⟩) k cx] wr fun e w' => ∃ v, e = .returned (.tuple #[v, .int .i64 0]) ∧ w'.ownsRow wr.heap.size 24 4 v (rs.take n).length (rawCells (rs.take n)) ∧ Below wr.heap.size wr w') := by
            have := wget_any (some ⟨gx, 0, none⟩) ((flatN rs).take k) k cx wr ht (HXH.out.below hbel).cut (fun x hx => flatN_lt rs x (List.mem_of_mem_take hx)) (by have := HFL.out; omega) HCM.out (.inr ⟨_, _, rfl⟩)
            rw [hgl] at this
            exact this
          have HLN : Hid ((rs.take n).length = n) := by show _ = _; rw [List.length_take, HA.out.len]; omega
          have hbw2 : Below w.heap.size w wr := HBW.out.trans (hbel.mono HBW.out.size)
          clear hgl ht hbel HK
          go_wp2_with fail
          refine C2.out.mono ?_
          rintro e w3 ⟨m, rfl, ho3, hb3⟩
          have hbb3 : Below w.heap.size w w3 := hbw2.trans (hb3.mono hbw2.size)
          obtain ⟨a3, cap3, rfl, -, h31, h32, h33, h34⟩ := own_openR ho3
          have hs := same_any a3 (some ⟨ga, oa, none⟩) (rs.take n) n cap3 c w3 HLN.out (own_adrR h31) (.inr ⟨_, _, rfl⟩) (by rw [HLN.out] at h32; exact h32) (by have := HA.out.le; omega) h33 HA.out.max (by omega) h34 ((HA.out.holds.below hbb3).cut n)
          have HS : Hid (Calls Try.prog 21 #[.slice a3 n cap3, .slice (some ⟨ga, oa, none⟩) n c] w3 fun e w' => e = .returned (.bool true) ∧ Below w3.heap.size w3 w') := hs
          rw [HLN.out]
          clear C2 ho3 hb3 h31 h32 h33 h34 hs hbw2
          go_wp2_with fail
          refine HS.out.mono ?_
          rintro e w4 ⟨rfl, hb4⟩
          have hbb4 : Below w.heap.size w w4 := hbb3.trans (hb4.mono hbb3.size)
          clear HS hb4 hbb3
          go_wp2_with fail
          refine (wawake_any _).mono ?_
          rintro e w5 ⟨rfl, hb5⟩
          have hbb5 : Below w.heap.size w w5 := hbb4.trans (hb5.mono hbb4.size)
          clear hb5 hbb4
          go_wp2_with fail
          go_ret
          exact ⟨rfl, hbb5⟩
  · have hne : ((X.2 : Int) != 0) = true := by simp; omega
    clear ho2 HX
    generalize X.2 = x0 at *
    have hbb4 := hbb2
    clear hbb2
    go_wp2_with fail
    refine (wawake_any _).mono ?_
    rintro e w5 ⟨rfl, hb5⟩
    have hbb5 : Below w.heap.size w w5 := hbb4.trans (hb5.mono hbb4.size)
    clear hb5 hbb4
    go_wp2_with fail
    go_ret
    exact ⟨rfl, hbb5⟩
end Go.Proofs.Ytfbekeebllcdbaa

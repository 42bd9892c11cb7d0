/- What the reader's calls answer: a word, a name, a number. -/
import Derived.Test.YtfffjfccochccaaDoorIdLeaf
import Derived.Test.YtfffjfccochccaaDoorLxNum
namespace Go.Proofs.YtfffjfccochccaaDoor
open Go.ChangeShapes Go.WideShapes Go.ChangeAt Go.RowKit
set_option linter.unusedVariables false
set_option linter.unusedSimpArgs false
set_option maxRecDepth 20000

set_option maxHeartbeats 1000000 in
theorem take_any {w : World} {g : Nat} {V : Value} {ts : List Tk} {E : Nat} {σ : Sg} (ws : List ByteArray) (b : Nat) (h : Rd w g V ts E σ) (hw : HoldsS w b ws) (hl : ws.length ≤ 1000) (hne : anyS ws noT = false) :
    Calls Tryd.prog 53 #[.pointer (some ⟨g, 0, none⟩), .slice (some ⟨b, 0, none⟩) ws.length ws.length] w fun e w' => e = .returned (.string (res noT (pOn σ (pTake ws)))) ∧ Rd w' g V ts E (stX (pOn σ (pTake ws))) ∧ Kp (fun k => k = g) w w' := by
  have HC : Hid (∀ (W : World) (x : ByteArray), HoldsS W b ws → Calls Tryd.prog 68 #[.slice (some ⟨b, 0, none⟩) ws.length ws.length, .string x] W fun e w' => e = .returned (.bool (anyS ws x)) ∧ w' = W) := fun W x hW => contains_any ws x b _ W hW hl
  have HW : Hid (HoldsS w b ws) := hw
  clear hw
  rcases take_cases ws σ hne with ⟨t, r, rfl, e1, e2, e3, e4⟩ | ⟨e1, e2, e3, e4, e5⟩
  · rw [e1]
    clear e1 e2 hne
    generalize ws.length = N at *
    go_enter Tryd.func53, Tryd.ntmps53
    go_wp2_with fail
    refine (ahead_any h).mono ?_
    rintro e w1 ⟨rfl, hb1⟩
    have h1 := h.below hb1
    go_wp2_with fail
    refine (HC.out _ _ (HW.out.below hb1)).mono ?_
    rintro e w2 ⟨rfl, rfl⟩
    have e3' : anyS ws (headS (.inr (t :: r))) = true := e3
    rw [e3']
    obtain ⟨n, hn, hm, c0, c1, c2, c3, f1, f3⟩ := h1.open
    have hn' := hn
    simp only [leftS, List.length_cons] at hn'
    have hn2 : n < 9223372036854775807 := by omega
    have HR : Hid (∀ u : Value, u = .int .i64 ((n + 1 : Nat) : Int) → Rd (w2.setCell ⟨g, 1, none⟩ u) g V ts E (.inr r)) := fun u hu => h1.next hn hu
    have HK : Hid (Kp (fun k => k = g) w w2) := Kp.ofBelow hb1
    clear h1 h hn hn' hm c0 c2 c3 f3 e3 e3' hb1 HC HW
    simp only [headS]
    go_wp2_with fail
    go_ret
    exact ⟨rfl, HR.out _ rfl, HK.out.setCell (fun _ => rfl) _⟩
  · rw [e1, e2]
    clear e1 e2 e3 e4 hne
    generalize ws.length = N at *
    go_enter Tryd.func53, Tryd.ntmps53
    go_wp2_with fail
    refine (ahead_any h).mono ?_
    rintro e w1 ⟨rfl, hb1⟩
    have h1 := h.below hb1
    go_wp2_with fail
    refine (HC.out _ _ (HW.out.below hb1)).mono ?_
    rintro e w2 ⟨rfl, rfl⟩
    rw [e5]
    have HK : Hid (Kp (fun k => k = g) w w2) := Kp.ofBelow hb1
    go_wp2_with fail
    go_ret
    exact ⟨rfl, h1, HK.out⟩
set_option maxHeartbeats 1000000 in
theorem one_any {w : World} {g : Nat} {V : Value} {ts : List Tk} {E : Nat} {σ : Sg} (ws : List ByteArray) (b : Nat) (h : Rd w g V ts E σ) (hw : HoldsS w b ws) (hl : ws.length ≤ 1000) (hne : anyS ws noT = false) :
    Calls Tryd.prog 29 #[.pointer (some ⟨g, 0, none⟩), .slice (some ⟨b, 0, none⟩) ws.length ws.length] w fun e w' => e = .returned (.string (res noT (pOn σ (pOne ws)))) ∧ Rd w' g V ts E (stX (pOn σ (pOne ws))) ∧ Kp (fun k => k = g) w w' := by
  have HT : Hid (Calls Tryd.prog 53 #[.pointer (some ⟨g, 0, none⟩), .slice (some ⟨b, 0, none⟩) ws.length ws.length] w fun e w' => e = .returned (.string (res noT (pOn σ (pTake ws)))) ∧ Rd w' g V ts E (stX (pOn σ (pTake ws))) ∧ Kp (fun k => k = g) w w') := take_any ws b h hw hl hne
  rcases take_cases ws σ hne with ⟨t, r, rfl, e1, e2, e3, e4⟩ | ⟨e1, e2, e3, e4, e5⟩
  · rw [e1] at HT
    rw [e2]
    clear e1 e2 e3 hne hw hl h
    have e4' : (t.toList == []) = false := by rw [ByteArray.toList_eq]; exact e4
    generalize ws.length = N at *
    go_enter Tryd.func29, Tryd.ntmps29
    go_wp2_with fail
    refine HT.out.mono ?_
    rintro e w1 ⟨rfl, h1, hk1⟩
    simp only [res, stX] at h1 ⊢
    go_wp2_with fail
    go_ret
    exact ⟨rfl, h1, hk1⟩
  · rw [e1, e2] at HT
    rw [e3, e4]
    clear e1 e2 e3 e4 e5 hne hw hl h
    generalize ws.length = N at *
    go_enter Tryd.func29, Tryd.ntmps29
    go_wp2_with fail
    refine HT.out.mono ?_
    rintro e w1 ⟨rfl, h1, hk1⟩
    obtain ⟨n, hn, hm, c0, c1, c2, c3, f1, f3⟩ := h1.open
    have HR : Hid (Rd (w1.setCell ⟨g, 3, none⟩ (.bool true)) g V ts E (.inl (leftS σ))) := h1.wrong
    clear h1 hn hm c0 c1 c2 f1
    simp only [noT]
    go_wp2_with fail
    go_ret
    exact ⟨rfl, HR.out, hk1.setCell (fun _ => rfl) _⟩
set_option maxHeartbeats 1000000 in
theorem rname_any {w : World} {g : Nat} {V : Value} {ts : List Tk} {E : Nat} {σ : Sg} (h : Rd w g V ts E σ) :
    Calls Tryd.prog 30 #[.pointer (some ⟨g, 0, none⟩)] w fun e w' => e = .returned (.string (res noT (pOn σ pName))) ∧ Rd w' g V ts E (stX (pOn σ pName)) ∧ Kp (fun k => k = g) w w' := by
  have hs := h.head
  rcases name_cases σ with ⟨t, r, rfl, e1, e2⟩ | ⟨e1, e2, e3⟩
  · rw [e1]
    clear e1
    have e2' : nameB t = true := by rw [nameB_eq]; exact e2
    clear e2
    go_enter Tryd.func30, Tryd.ntmps30
    go_wp2_with fail
    refine (ahead_any h).mono ?_
    rintro e w1 ⟨rfl, hb1⟩
    have h1 := h.below hb1
    go_wp2_with fail
    refine (name_any _ _ hs).mono ?_
    rintro e w2 ⟨rfl, hb2⟩
    have h2 := h1.below hb2
    simp only [headS]
    rw [e2']
    obtain ⟨n, hn, hm, c0, c1, c2, c3, f1, f3⟩ := h2.open
    have hn' := hn
    simp only [leftS, List.length_cons] at hn'
    have hn2 : n < 9223372036854775807 := by omega
    have HR : Hid (∀ u : Value, u = .int .i64 ((n + 1 : Nat) : Int) → Rd (w2.setCell ⟨g, 1, none⟩ u) g V ts E (.inr r)) := fun u hu => h2.next hn hu
    have HK : Hid (Kp (fun k => k = g) w w2) := (Kp.ofBelow hb1).below hb2
    clear h2 h1 h hn hn' hm c0 c2 c3 f3 e2' hb1 hb2
    go_wp2_with fail
    go_ret
    exact ⟨rfl, HR.out _ rfl, HK.out.setCell (fun _ => rfl) _⟩
  · rw [e1, e2]
    clear e1 e2
    have e3' : nameB (headS σ) = false := by rw [nameB_eq]; exact e3
    clear e3
    go_enter Tryd.func30, Tryd.ntmps30
    go_wp2_with fail
    refine (ahead_any h).mono ?_
    rintro e w1 ⟨rfl, hb1⟩
    have h1 := h.below hb1
    go_wp2_with fail
    refine (name_any _ _ hs).mono ?_
    rintro e w2 ⟨rfl, hb2⟩
    have h2 := h1.below hb2
    rw [e3']
    obtain ⟨n, hn, hm, c0, c1, c2, c3, f1, f3⟩ := h2.open
    have HR : Hid (Rd (w2.setCell ⟨g, 3, none⟩ (.bool true)) g V ts E (.inl (leftS σ))) := h2.wrong
    have HK : Hid (Kp (fun k => k = g) w w2) := (Kp.ofBelow hb1).below hb2
    clear h2 h1 h hn hm c0 c1 c2 f1 e3' hb1 hb2
    go_wp2_with fail
    go_ret
    exact ⟨rfl, HR.out, HK.out.setCell (fun _ => rfl) _⟩
set_option maxHeartbeats 1000000 in
theorem rnumber_any {w : World} {g : Nat} {V : Value} {ts : List Tk} {E : Nat} {σ : Sg} (h : Rd w g V ts E σ) :
    Calls Tryd.prog 71 #[.pointer (some ⟨g, 0, none⟩)] w fun e w' => e = .returned (.int .i64 ((res 0 (pOn σ pNum) : Nat) : Int)) ∧ Rd w' g V ts E (stX (pOn σ pNum)) ∧ Kp (fun k => k = g) w w' := by
  have hs := h.head
  rcases num_cases σ with ⟨t, r, rfl, e1, e2⟩ | ⟨e1, e2, e3⟩
  · have er : res 0 (.inr ((numA t.data.toList).1, r) : PR Nat) = (numA t.data.toList).1 := rfl
    rw [e1, er]
    simp only [stX]
    obtain ⟨v, hv⟩ : ∃ v, (numA t.data.toList).1 = v := ⟨_, rfl⟩
    rw [hv]
    clear e1 er
    go_enter Tryd.func71, Tryd.ntmps71
    go_wp2_with fail
    refine (ahead_any h).mono ?_
    rintro e w1 ⟨rfl, hb1⟩
    have h1 := h.below hb1
    go_wp2_with fail
    refine (number_any _ _ hs).mono ?_
    rintro e w2 ⟨rfl, hb2⟩
    have h2 := h1.below hb2
    simp only [headS]
    rw [e2, hv]
    clear hv
    obtain ⟨n, hn, hm, c0, c1, c2, c3, f1, f3⟩ := h2.open
    have hn' := hn
    simp only [leftS, List.length_cons] at hn'
    have hn2 : n < 9223372036854775807 := by omega
    have HR : Hid (∀ u : Value, u = .int .i64 ((n + 1 : Nat) : Int) → Rd (w2.setCell ⟨g, 1, none⟩ u) g V ts E (.inr r)) := fun u hu => h2.next hn hu
    have HK : Hid (Kp (fun k => k = g) w w2) := (Kp.ofBelow hb1).below hb2
    clear h2 h1 h hn hn' hm c0 c2 c3 f3 e2 hb1 hb2
    go_wp2_with fail
    go_ret
    exact ⟨rfl, HR.out _ rfl, HK.out.setCell (fun _ => rfl) _⟩
  · rw [e1, e2]
    clear e1 e2
    go_enter Tryd.func71, Tryd.ntmps71
    go_wp2_with fail
    refine (ahead_any h).mono ?_
    rintro e w1 ⟨rfl, hb1⟩
    have h1 := h.below hb1
    go_wp2_with fail
    refine (number_any _ _ hs).mono ?_
    rintro e w2 ⟨rfl, hb2⟩
    have h2 := h1.below hb2
    rw [e3]
    obtain ⟨n, hn, hm, c0, c1, c2, c3, f1, f3⟩ := h2.open
    have HR : Hid (Rd (w2.setCell ⟨g, 3, none⟩ (.bool true)) g V ts E (.inl (leftS σ))) := h2.wrong
    have HK : Hid (Kp (fun k => k = g) w w2) := (Kp.ofBelow hb1).below hb2
    clear h2 h1 h hn hm c0 c1 c2 f1 e3 hb1 hb2
    generalize (numA (headS σ).data.toList).1 = v at *
    go_wp2_with fail
    go_ret
    exact ⟨rfl, HR.out, HK.out.setCell (fun _ => rfl) _⟩
end Go.Proofs.YtfffjfccochccaaDoor

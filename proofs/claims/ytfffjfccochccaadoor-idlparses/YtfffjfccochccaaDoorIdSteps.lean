/- Reading of more than one piece: a name and its number, a label, what a call is. -/
import Derived.Test.YtfffjfccochccaaDoorIdWord
namespace Go.Proofs.YtfffjfccochccaaDoor
open Go.ChangeShapes Go.WideShapes Go.ChangeAt Go.RowKit
set_option linter.unusedVariables false
set_option linter.unusedSimpArgs false
set_option maxRecDepth 20000

/-- A block of words, newly laid. -/
theorem holds_new1 (w : World) (a : ByteArray) (t : TypeId) : HoldsS (w.alloc (.cells #[.string a] t)) w.heap.size [a] := by
  intro j u hu
  match j, hu with
  | 0, hu => simp at hu; subst hu; simp
theorem holds_new2 (w : World) (a b : ByteArray) (t : TypeId) : HoldsS (w.alloc (.cells #[.string a, .string b] t)) w.heap.size [a, b] := by
  intro j u hu
  match j, hu with
  | 0, hu => simp at hu; subst hu; simp
  | 1, hu => simp at hu; subst hu; simp
theorem holds_new3 (w : World) (a b c : ByteArray) (t : TypeId) : HoldsS (w.alloc (.cells #[.string a, .string b, .string c] t)) w.heap.size [a, b, c] := by
  intro j u hu
  match j, hu with
  | 0, hu => simp at hu; subst hu; simp
  | 1, hu => simp at hu; subst hu; simp
  | 2, hu => simp at hu; subst hu; simp
/-- One word, which must stand, in a block newly laid. -/
theorem one_new {w : World} {g : Nat} {V : Value} {ts : List Tk} {E : Nat} {σ : Sg} (k : ByteArray) (t : TypeId) {b : Nat} (hb0 : b = w.heap.size) (h : Rd w g V ts E σ) (hne : anyS [k] noT = false) :
    Calls Tryd.prog 29 #[.pointer (some ⟨g, 0, none⟩), .slice (some ⟨b, 0, none⟩) 1 1] (w.alloc (.cells #[.string k] t)) fun e w' => ∃ x, e = .returned (.string x) ∧ Rd w' g V ts E (stX (pOn σ (pMust k))) ∧ Kp (fun k => k = g) w w' := by
  subst hb0
  have hb : Below w.heap.size w (w.alloc (.cells #[.string k] t)) := (Below.refl _ _).alloc (Nat.le_refl _) _
  have := one_any [k] w.heap.size (h.below hb) (holds_new1 w k t) (by simp) hne
  refine this.mono ?_
  rintro e w' ⟨rfl, h1, h2⟩
  rw [one_must] at h1
  exact ⟨_, rfl, h1, (Kp.ofBelow hb).trans h2⟩
theorem take_new {w : World} {g : Nat} {V : Value} {ts : List Tk} {E : Nat} {σ : Sg} (k : ByteArray) (t : TypeId) {b : Nat} (hb0 : b = w.heap.size) (h : Rd w g V ts E σ) (hne : anyS [k] noT = false) :
    Calls Tryd.prog 53 #[.pointer (some ⟨g, 0, none⟩), .slice (some ⟨b, 0, none⟩) 1 1] (w.alloc (.cells #[.string k] t)) fun e w' => e = .returned (.string (res noT (pOn σ (pTake [k])))) ∧ Rd w' g V ts E (stX (pOn σ (pTake [k]))) ∧ Kp (fun k => k = g) w w' := by
  subst hb0
  have hb : Below w.heap.size w (w.alloc (.cells #[.string k] t)) := (Below.refl _ _).alloc (Nat.le_refl _) _
  have := take_any [k] w.heap.size (h.below hb) (holds_new1 w k t) (by simp) hne
  refine this.mono ?_
  rintro e w' ⟨rfl, h1, h2⟩
  exact ⟨rfl, h1, (Kp.ofBelow hb).trans h2⟩
theorem take_new2 {w : World} {g : Nat} {V : Value} {ts : List Tk} {E : Nat} {σ : Sg} (k l : ByteArray) (t : TypeId) {b : Nat} (hb0 : b = w.heap.size) (h : Rd w g V ts E σ) (hne : anyS [k, l] noT = false) :
    Calls Tryd.prog 53 #[.pointer (some ⟨g, 0, none⟩), .slice (some ⟨b, 0, none⟩) 2 2] (w.alloc (.cells #[.string k, .string l] t)) fun e w' => e = .returned (.string (res noT (pOn σ (pTake [k, l])))) ∧ Rd w' g V ts E (stX (pOn σ (pTake [k, l]))) ∧ Kp (fun k => k = g) w w' := by
  subst hb0
  have hb : Below w.heap.size w (w.alloc (.cells #[.string k, .string l] t)) := (Below.refl _ _).alloc (Nat.le_refl _) _
  have := take_any [k, l] w.heap.size (h.below hb) (holds_new2 w k l t) (by simp) hne
  refine this.mono ?_
  rintro e w' ⟨rfl, h1, h2⟩
  exact ⟨rfl, h1, (Kp.ofBelow hb).trans h2⟩
theorem one_new2 {w : World} {g : Nat} {V : Value} {ts : List Tk} {E : Nat} {σ : Sg} (k l : ByteArray) (t : TypeId) {b : Nat} (hb0 : b = w.heap.size) (h : Rd w g V ts E σ) (hne : anyS [k, l] noT = false) :
    Calls Tryd.prog 29 #[.pointer (some ⟨g, 0, none⟩), .slice (some ⟨b, 0, none⟩) 2 2] (w.alloc (.cells #[.string k, .string l] t)) fun e w' => e = .returned (.string (res noT (pOn σ (pOne [k, l])))) ∧ Rd w' g V ts E (stX (pOn σ (pOne [k, l]))) ∧ Kp (fun k => k = g) w w' := by
  subst hb0
  have hb : Below w.heap.size w (w.alloc (.cells #[.string k, .string l] t)) := (Below.refl _ _).alloc (Nat.le_refl _) _
  have := one_any [k, l] w.heap.size (h.below hb) (holds_new2 w k l t) (by simp) hne
  refine this.mono ?_
  rintro e w' ⟨rfl, h1, h2⟩
  exact ⟨rfl, h1, (Kp.ofBelow hb).trans h2⟩
theorem one_new3 {w : World} {g : Nat} {V : Value} {ts : List Tk} {E : Nat} {σ : Sg} (k l m : ByteArray) (t : TypeId) {b : Nat} (hb0 : b = w.heap.size) (h : Rd w g V ts E σ) (hne : anyS [k, l, m] noT = false) :
    Calls Tryd.prog 29 #[.pointer (some ⟨g, 0, none⟩), .slice (some ⟨b, 0, none⟩) 3 3] (w.alloc (.cells #[.string k, .string l, .string m] t)) fun e w' => e = .returned (.string (res noT (pOn σ (pOne [k, l, m])))) ∧ Rd w' g V ts E (stX (pOn σ (pOne [k, l, m]))) ∧ Kp (fun k => k = g) w w' := by
  subst hb0
  have hb : Below w.heap.size w (w.alloc (.cells #[.string k, .string l, .string m] t)) := (Below.refl _ _).alloc (Nat.le_refl _) _
  have := one_any [k, l, m] w.heap.size (h.below hb) (holds_new3 w k l m t) (by simp) hne
  refine this.mono ?_
  rintro e w' ⟨rfl, h1, h2⟩
  exact ⟨rfl, h1, (Kp.ofBelow hb).trans h2⟩
set_option maxHeartbeats 1000000 in
theorem named_any {w : World} {g : Nat} {V : Value} {ts : List Tk} {E : Nat} {σ : Sg} (h : Rd w g V ts E σ) :
    Calls Tryd.prog 59 #[.pointer (some ⟨g, 0, none⟩)] w fun e w' => ∃ v : NmS, e = .returned (.tuple #[.string v.name, .int .i64 v.n]) ∧ Res (pOn σ pValue) v ∧ Rd w' g V ts E (stX (pOn σ pValue)) ∧ Kp (fun k => k = g) w w' := by
  have HV : Hid (stX (pOn (stX (pOn (stX (pOn (stX (pOn σ pName)) (pMust kEq))) pNum)) (pMust kSemi)) = stX (pOn σ pValue) ∧
    Res (pOn σ pValue) ⟨res noT (pOn σ pName), (res 0 (pOn (stX (pOn (stX (pOn σ pName)) (pMust kEq))) pNum) : Nat)⟩) := value_st σ
  go_enter Tryd.func59, Tryd.ntmps59
  go_wp2_with fail
  refine (rname_any h).mono ?_
  rintro e w1 ⟨rfl, h1, k1⟩
  generalize res noT (pOn σ pName) = x1 at *
  generalize stX (pOn σ pName) = σ1 at *
  go_wp2_with fail
  refine (one_new kEq _ rfl h1 (by decide +kernel)).mono ?_
  rintro e w2 ⟨x2, rfl, h2, k2⟩
  have k2' := k1.trans k2
  clear k1 k2 h1 h
  generalize stX (pOn σ1 (pMust kEq)) = σ2 at *
  go_wp2_with fail
  refine (rnumber_any h2).mono ?_
  rintro e w3 ⟨rfl, h3, k3⟩
  have k3' := k2'.trans k3
  clear k2' k3 h2
  generalize (res 0 (pOn σ2 pNum) : Nat) = x3 at *
  generalize stX (pOn σ2 pNum) = σ3 at *
  go_wp2_with fail
  refine (one_new kSemi _ rfl h3 (by decide +kernel)).mono ?_
  rintro e w4 ⟨x4, rfl, h4, k4⟩
  have k4' := k3'.trans k4
  clear k3' k4 h3
  rw [HV.out.1] at h4
  go_wp2_with fail
  go_ret2
  exact ⟨_, rfl, HV.out.2, h4, k4'⟩
set_option maxHeartbeats 1000000 in
theorem inner_any {w : World} {g : Nat} {V : Value} {ts : List Tk} {E : Nat} {σ : Sg} (h : Rd w g V ts E σ) :
    Calls Tryd.prog 60 #[.pointer (some ⟨g, 0, none⟩)] w fun e w' => ∃ x : ByteArray, e = .returned (.string x) ∧ Res (pOn σ pIn) x ∧ Rd w' g V ts E (stX (pOn σ pIn)) ∧ Kp (fun k => k = g) w w' := by
  have HV : Hid (stX (pOn (stX (pOn (stX (pOn σ (pMust kPar))) pName)) (pMust kRap)) = stX (pOn σ pIn) ∧ Res (pOn σ pIn) (res noT (pOn (stX (pOn σ (pMust kPar))) pName))) := in_st σ
  go_enter Tryd.func60, Tryd.ntmps60
  go_wp2_with fail
  refine (one_new kPar _ rfl h (by decide +kernel)).mono ?_
  rintro e w1 ⟨x1, rfl, h1, k1⟩
  generalize stX (pOn σ (pMust kPar)) = σ1 at *
  go_wp2_with fail
  refine (rname_any h1).mono ?_
  rintro e w2 ⟨rfl, h2, k2⟩
  have k2' := k1.trans k2
  clear k1 k2 h1 h
  generalize res noT (pOn σ1 pName) = x2 at *
  generalize stX (pOn σ1 pName) = σ2 at *
  go_wp2_with fail
  refine (one_new kRap _ rfl h2 (by decide +kernel)).mono ?_
  rintro e w3 ⟨x3, rfl, h3, k3⟩
  have k3' := k2'.trans k3
  clear k2' k3 h2
  rw [HV.out.1] at h3
  go_wp2_with fail
  go_ret
  exact ⟨_, rfl, HV.out.2, h3, k3'⟩
set_option maxHeartbeats 1000000 in
theorem label_any {w : World} {g : Nat} {V : Value} {ts : List Tk} {E : Nat} {σ : Sg} (h : Rd w g V ts E σ) :
    Calls Tryd.prog 72 #[.pointer (some ⟨g, 0, none⟩)] w fun e w' => e = .returned (.int .i64 (res 1 (pOn σ pLab))) ∧ Rd w' g V ts E (stX (pOn σ pLab)) ∧ Kp (fun k => k = g) w w' := by
  have HV : Hid (stX (pOn σ (pTake [kOptional, kRepeated])) = stX (pOn σ pLab) ∧ labV (res noT (pOn σ (pTake [kOptional, kRepeated]))) = res 1 (pOn σ pLab)) := label_st σ
  rw [← HV.out.1, ← HV.out.2]
  clear HV
  obtain ⟨x, hx⟩ : ∃ x, res noT (pOn σ (pTake [kOptional, kRepeated])) = x := ⟨_, rfl⟩
  rw [hx]
  have HX : Hid (res noT (pOn σ (pTake [kOptional, kRepeated])) = x) := hx
  clear hx
  cases d1 : (x.data.toList == kOptional.data.toList) with
  | true =>
    have e1 : labV x = 2 := by unfold labV; rw [if_pos (by simpa using d1)]
    rw [e1]
    have d1' : (x.toList == [111, 112, 116, 105, 111, 110, 97, 108]) = true := by rw [ByteArray.toList_eq]; exact d1
    clear d1 e1
    go_enter Tryd.func72, Tryd.ntmps72
    go_wp2_with fail
    refine (take_new2 kOptional kRepeated _ rfl h (by decide +kernel)).mono ?_
    rintro e w1 ⟨rfl, h1, k1⟩
    rw [HX.out]
    clear HX h
    go_wp2_with fail
    go_ret
    exact ⟨rfl, h1, k1⟩
  | false =>
    have d1' : (x.toList == [111, 112, 116, 105, 111, 110, 97, 108]) = false := by rw [ByteArray.toList_eq]; exact d1
    have f1 : ¬ x.data.toList = kOptional.data.toList := by rw [beq_eq_false_iff_ne] at d1; exact d1
    clear d1
    cases d2 : (x.data.toList == kRepeated.data.toList) with
    | true =>
      have e1 : labV x = 3 := by unfold labV; rw [if_neg f1, if_pos (by simpa using d2)]
      rw [e1]
      have d2' : (x.toList == [114, 101, 112, 101, 97, 116, 101, 100]) = true := by rw [ByteArray.toList_eq]; exact d2
      clear d2 e1 f1
      go_enter Tryd.func72, Tryd.ntmps72
      go_wp2_with fail
      refine (take_new2 kOptional kRepeated _ rfl h (by decide +kernel)).mono ?_
      rintro e w1 ⟨rfl, h1, k1⟩
      rw [HX.out]
      clear HX h
      go_wp2_with fail
      go_ret
      exact ⟨rfl, h1, k1⟩
    | false =>
      have f2 : ¬ x.data.toList = kRepeated.data.toList := by rw [beq_eq_false_iff_ne] at d2; exact d2
      have e1 : labV x = 1 := by unfold labV; rw [if_neg f1, if_neg f2]
      rw [e1]
      have d2' : (x.toList == [114, 101, 112, 101, 97, 116, 101, 100]) = false := by rw [ByteArray.toList_eq]; exact d2
      clear d2 e1 f1 f2
      go_enter Tryd.func72, Tryd.ntmps72
      go_wp2_with fail
      refine (take_new2 kOptional kRepeated _ rfl h (by decide +kernel)).mono ?_
      rintro e w1 ⟨rfl, h1, k1⟩
      rw [HX.out]
      clear HX h
      go_wp2_with fail
      go_ret
      exact ⟨rfl, h1, k1⟩
end Go.Proofs.YtfffjfccochccaaDoor

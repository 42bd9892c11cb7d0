/- Part 7 of what the proof stands on. -/
import Derived.Test.YtcjfeandnmochaaGreatDoorPkAF
namespace Go.Proofs.YtcjfeandnmochaaGreatDoor
open Go.ChangeShapes Go.WideShapes Go.ChangeAt Go.RowKit
set_option linter.unusedVariables false
set_option linter.unusedSimpArgs false
set_option maxRecDepth 20000
theorem holds_new1 (w : World) (a : ByteArray) (t : TypeId) : HoldsS (w.alloc (.cells #[.string a] t)) w.heap.size [a] := by
 intro j u hu
 match j, hu with
 | 0, hu => simp at hu; subst hu; simp
theorem holds_new2 (w : World) (a b : ByteArray) (t : TypeId) : HoldsS (w.alloc (.cells #[.string a, .string b] t)) w.heap.size [a, b] := by
 intro j u hu
 match j, hu with
 | 0, hu => simp at hu; subst hu; simp
 | 1, hu => simp at hu; subst hu; simp
theorem holds_new3 (w : World) (a b c : ByteArray) (t : TypeId) : HoldsS (w.alloc (.cells #[.string a, .string b, .string c] t)) w.heap.size [a, b, c] := by
 intro j u hu
 match j, hu with
 | 0, hu => simp at hu; subst hu; simp
 | 1, hu => simp at hu; subst hu; simp
 | 2, hu => simp at hu; subst hu; simp
theorem one_new {w : World} {g : Nat} {V : Value} {ts : List Tk} {E : Nat} {σ : Sg} (k : ByteArray) (t : TypeId) {b : Nat} (hb0 : b = w.heap.size) (h : Rd w g V ts E σ) (hne : anyS [k] noT = false) :
  Calls Tryz.prog 55 #[.pointer (some ⟨g, 0, none⟩), .slice (some ⟨b, 0, none⟩) 1 1] (w.alloc (.cells #[.string k] t)) fun e w' => ∃ x, e = .returned (.string x) ∧ Rd w' g V ts E (stX (pOn σ (pMust k))) ∧ Kp (fun k => k = g) w w' := by
 subst hb0
 have hb : Below w.heap.size w (w.alloc (.cells #[.string k] t)) := (Below.refl _ _).alloc (Nat.le_refl _) _
 have := one_any [k] w.heap.size (h.below hb) (holds_new1 w k t) (by simp) hne
 refine this.mono ?_
 rintro e w' ⟨rfl, h1, h2⟩
 rw [one_must] at h1
 exact ⟨_, rfl, h1, (Kp.ofBelow hb).trans h2⟩
theorem take_new {w : World} {g : Nat} {V : Value} {ts : List Tk} {E : Nat} {σ : Sg} (k : ByteArray) (t : TypeId) {b : Nat} (hb0 : b = w.heap.size) (h : Rd w g V ts E σ) (hne : anyS [k] noT = false) :
  Calls Tryz.prog 101 #[.pointer (some ⟨g, 0, none⟩), .slice (some ⟨b, 0, none⟩) 1 1] (w.alloc (.cells #[.string k] t)) fun e w' => e = .returned (.string (res noT (pOn σ (pTake [k])))) ∧ Rd w' g V ts E (stX (pOn σ (pTake [k]))) ∧ Kp (fun k => k = g) w w' := by
 subst hb0
 have hb : Below w.heap.size w (w.alloc (.cells #[.string k] t)) := (Below.refl _ _).alloc (Nat.le_refl _) _
 have := take_any [k] w.heap.size (h.below hb) (holds_new1 w k t) (by simp) hne
 refine this.mono ?_
 rintro e w' ⟨rfl, h1, h2⟩
 exact ⟨rfl, h1, (Kp.ofBelow hb).trans h2⟩
theorem take_new2 {w : World} {g : Nat} {V : Value} {ts : List Tk} {E : Nat} {σ : Sg} (k l : ByteArray) (t : TypeId) {b : Nat} (hb0 : b = w.heap.size) (h : Rd w g V ts E σ) (hne : anyS [k, l] noT = false) :
  Calls Tryz.prog 101 #[.pointer (some ⟨g, 0, none⟩), .slice (some ⟨b, 0, none⟩) 2 2] (w.alloc (.cells #[.string k, .string l] t)) fun e w' => e = .returned (.string (res noT (pOn σ (pTake [k, l])))) ∧ Rd w' g V ts E (stX (pOn σ (pTake [k, l]))) ∧ Kp (fun k => k = g) w w' := by
 subst hb0
 have hb : Below w.heap.size w (w.alloc (.cells #[.string k, .string l] t)) := (Below.refl _ _).alloc (Nat.le_refl _) _
 have := take_any [k, l] w.heap.size (h.below hb) (holds_new2 w k l t) (by simp) hne
 refine this.mono ?_
 rintro e w' ⟨rfl, h1, h2⟩
 exact ⟨rfl, h1, (Kp.ofBelow hb).trans h2⟩
theorem one_new2 {w : World} {g : Nat} {V : Value} {ts : List Tk} {E : Nat} {σ : Sg} (k l : ByteArray) (t : TypeId) {b : Nat} (hb0 : b = w.heap.size) (h : Rd w g V ts E σ) (hne : anyS [k, l] noT = false) :
  Calls Tryz.prog 55 #[.pointer (some ⟨g, 0, none⟩), .slice (some ⟨b, 0, none⟩) 2 2] (w.alloc (.cells #[.string k, .string l] t)) fun e w' => e = .returned (.string (res noT (pOn σ (pOne [k, l])))) ∧ Rd w' g V ts E (stX (pOn σ (pOne [k, l]))) ∧ Kp (fun k => k = g) w w' := by
 subst hb0
 have hb : Below w.heap.size w (w.alloc (.cells #[.string k, .string l] t)) := (Below.refl _ _).alloc (Nat.le_refl _) _
 have := one_any [k, l] w.heap.size (h.below hb) (holds_new2 w k l t) (by simp) hne
 refine this.mono ?_
 rintro e w' ⟨rfl, h1, h2⟩
 exact ⟨rfl, h1, (Kp.ofBelow hb).trans h2⟩
theorem one_new3 {w : World} {g : Nat} {V : Value} {ts : List Tk} {E : Nat} {σ : Sg} (k l m : ByteArray) (t : TypeId) {b : Nat} (hb0 : b = w.heap.size) (h : Rd w g V ts E σ) (hne : anyS [k, l, m] noT = false) :
  Calls Tryz.prog 55 #[.pointer (some ⟨g, 0, none⟩), .slice (some ⟨b, 0, none⟩) 3 3] (w.alloc (.cells #[.string k, .string l, .string m] t)) fun e w' => e = .returned (.string (res noT (pOn σ (pOne [k, l, m])))) ∧ Rd w' g V ts E (stX (pOn σ (pOne [k, l, m]))) ∧ Kp (fun k => k = g) w w' := by
 subst hb0
 have hb : Below w.heap.size w (w.alloc (.cells #[.string k, .string l, .string m] t)) := (Below.refl _ _).alloc (Nat.le_refl _) _
 have := one_any [k, l, m] w.heap.size (h.below hb) (holds_new3 w k l m t) (by simp) hne
 refine this.mono ?_
 rintro e w' ⟨rfl, h1, h2⟩
 exact ⟨rfl, h1, (Kp.ofBelow hb).trans h2⟩
set_option maxHeartbeats 1000000 in
theorem named_any {w : World} {g : Nat} {V : Value} {ts : List Tk} {E : Nat} {σ : Sg} (h : Rd w g V ts E σ) :
  Calls Tryz.prog 106 #[.pointer (some ⟨g, 0, none⟩)] w fun e w' => ∃ v : NmS, e = .returned (.tuple #[.string v.name, .int .i64 v.n]) ∧ Res (pOn σ pValue) v ∧ Rd w' g V ts E (stX (pOn σ pValue)) ∧ Kp (fun k => k = g) w w' := by
 have HV : Hid (stX (pOn (stX (pOn (stX (pOn (stX (pOn σ pName)) (pMust kEq))) pNum)) (pMust kSemi)) = stX (pOn σ pValue) ∧
  Res (pOn σ pValue) ⟨res noT (pOn σ pName), (res 0 (pOn (stX (pOn (stX (pOn σ pName)) (pMust kEq))) pNum) : Nat)⟩) := value_st σ
 go_enter Tryz.func106, Tryz.ntmps106
 go_wp2_with fail
 refine (rname_any h).mono ?_
 rintro e w1 ⟨rfl, h1, k1⟩
 generalize res noT (pOn σ pName) = x1 at *
 generalize stX (pOn σ pName) = σ1 at *
 go_wp2_with fail
 refine (one_new kEq _ rfl h1 (by decide +kernel)).mono ?_
 rintro e w2 ⟨x2, rfl, h2, k2⟩
 have k2' := k1.trans k2
 clear k1 k2 h1 h
 generalize stX (pOn σ1 (pMust kEq)) = σ2 at *
 go_wp2_with fail
 refine (rnumber_any h2).mono ?_
 rintro e w3 ⟨rfl, h3, k3⟩
 have k3' := k2'.trans k3
 clear k2' k3 h2
 generalize (res 0 (pOn σ2 pNum) : Nat) = x3 at *
 generalize stX (pOn σ2 pNum) = σ3 at *
 go_wp2_with fail
 refine (one_new kSemi _ rfl h3 (by decide +kernel)).mono ?_
 rintro e w4 ⟨x4, rfl, h4, k4⟩
 have k4' := k3'.trans k4
 clear k3' k4 h3
 rw [HV.out.1] at h4
 go_wp2_with fail
 go_ret2
 exact ⟨_, rfl, HV.out.2, h4, k4'⟩
set_option maxHeartbeats 1000000 in
theorem inner_any {w : World} {g : Nat} {V : Value} {ts : List Tk} {E : Nat} {σ : Sg} (h : Rd w g V ts E σ) :
  Calls Tryz.prog 107 #[.pointer (some ⟨g, 0, none⟩)] w fun e w' => ∃ x : ByteArray, e = .returned (.string x) ∧ Res (pOn σ pIn) x ∧ Rd w' g V ts E (stX (pOn σ pIn)) ∧ Kp (fun k => k = g) w w' := by
 have HV : Hid (stX (pOn (stX (pOn (stX (pOn σ (pMust kPar))) pName)) (pMust kRap)) = stX (pOn σ pIn) ∧ Res (pOn σ pIn) (res noT (pOn (stX (pOn σ (pMust kPar))) pName))) := in_st σ
 go_enter Tryz.func107, Tryz.ntmps107
 go_wp2_with fail
 refine (one_new kPar _ rfl h (by decide +kernel)).mono ?_
 rintro e w1 ⟨x1, rfl, h1, k1⟩
 generalize stX (pOn σ (pMust kPar)) = σ1 at *
 go_wp2_with fail
 refine (rname_any h1).mono ?_
 rintro e w2 ⟨rfl, h2, k2⟩
 have k2' := k1.trans k2
 clear k1 k2 h1 h
 generalize res noT (pOn σ1 pName) = x2 at *
 generalize stX (pOn σ1 pName) = σ2 at *
 go_wp2_with fail
 refine (one_new kRap _ rfl h2 (by decide +kernel)).mono ?_
 rintro e w3 ⟨x3, rfl, h3, k3⟩
 have k3' := k2'.trans k3
 clear k2' k3 h2
 rw [HV.out.1] at h3
 go_wp2_with fail
 go_ret
 exact ⟨_, rfl, HV.out.2, h3, k3'⟩
set_option maxHeartbeats 1000000 in
theorem label_any {w : World} {g : Nat} {V : Value} {ts : List Tk} {E : Nat} {σ : Sg} (h : Rd w g V ts E σ) :
  Calls Tryz.prog 132 #[.pointer (some ⟨g, 0, none⟩)] w fun e w' => e = .returned (.int .i64 (res 1 (pOn σ pLab))) ∧ Rd w' g V ts E (stX (pOn σ pLab)) ∧ Kp (fun k => k = g) w w' := by
 have HV : Hid (stX (pOn σ (pTake [kOptional, kRepeated])) = stX (pOn σ pLab) ∧ labV (res noT (pOn σ (pTake [kOptional, kRepeated]))) = res 1 (pOn σ pLab)) := label_st σ
 rw [← HV.out.1, ← HV.out.2]
 clear HV
 obtain ⟨x, hx⟩ : ∃ x, res noT (pOn σ (pTake [kOptional, kRepeated])) = x := ⟨_, rfl⟩
 rw [hx]
 have HX : Hid (res noT (pOn σ (pTake [kOptional, kRepeated])) = x) := hx
 clear hx
 cases d1 : (x.data.toList == kOptional.data.toList) with
 | true =>
  have e1 : labV x = 2 := by unfold labV; rw [if_pos (by simpa using d1)]
  rw [e1]
  have d1' : (x.toList == [111, 112, 116, 105, 111, 110, 97, 108]) = true := by rw [ByteArray.toList_eq]; exact d1
  clear d1 e1
  go_enter Tryz.func132, Tryz.ntmps132
  go_wp2_with fail
  refine (take_new2 kOptional kRepeated _ rfl h (by decide +kernel)).mono ?_
  rintro e w1 ⟨rfl, h1, k1⟩
  rw [HX.out]
  clear HX h
  go_wp2_with fail
  go_ret
  exact ⟨rfl, h1, k1⟩
 | false =>
  have d1' : (x.toList == [111, 112, 116, 105, 111, 110, 97, 108]) = false := by rw [ByteArray.toList_eq]; exact d1
  have f1 : ¬ x.data.toList = kOptional.data.toList := by rw [beq_eq_false_iff_ne] at d1; exact d1
  clear d1
  cases d2 : (x.data.toList == kRepeated.data.toList) with
  | true =>
   have e1 : labV x = 3 := by unfold labV; rw [if_neg f1, if_pos (by simpa using d2)]
   rw [e1]
   have d2' : (x.toList == [114, 101, 112, 101, 97, 116, 101, 100]) = true := by rw [ByteArray.toList_eq]; exact d2
   clear d2 e1 f1
   go_enter Tryz.func132, Tryz.ntmps132
   go_wp2_with fail
   refine (take_new2 kOptional kRepeated _ rfl h (by decide +kernel)).mono ?_
   rintro e w1 ⟨rfl, h1, k1⟩
   rw [HX.out]
   clear HX h
   go_wp2_with fail
   go_ret
   exact ⟨rfl, h1, k1⟩
  | false =>
   have f2 : ¬ x.data.toList = kRepeated.data.toList := by rw [beq_eq_false_iff_ne] at d2; exact d2
   have e1 : labV x = 1 := by unfold labV; rw [if_neg f1, if_neg f2]
   rw [e1]
   have d2' : (x.toList == [114, 101, 112, 101, 97, 116, 101, 100]) = false := by rw [ByteArray.toList_eq]; exact d2
   clear d2 e1 f1 f2
   go_enter Tryz.func132, Tryz.ntmps132
   go_wp2_with fail
   refine (take_new2 kOptional kRepeated _ rfl h (by decide +kernel)).mono ?_
   rintro e w1 ⟨rfl, h1, k1⟩
   rw [HX.out]
   clear HX h
   go_wp2_with fail
   go_ret
   exact ⟨rfl, h1, k1⟩
theorem Rd.alloc {w : World} {g : Nat} {V : Value} {ts : List Tk} {E : Nat} {σ : Sg} (h : Rd w g V ts E σ) (o : Obj) : Rd (w.alloc o) g V ts E σ := h.below ((Below.refl _ _).alloc (Nat.le_refl _) _)
theorem Rd.other {w : World} {g : Nat} {V : Value} {ts : List Tk} {E : Nat} {σ : Sg} (h : Rd w g V ts E σ) {p : Addr} (hp : g < p.block) (u : Value) : Rd (w.setCell p u) g V ts E σ := by
 obtain ⟨a, cap, h1, h2, h3, h4, h5⟩ := h.row
 have hk : Kp (fun k => k = p.block) w (w.setCell p u) := Kp.setCell (S := fun k => k = p.block) (Kp.refl _ w) (fun _ => rfl) u
 refine ⟨h.glob.kp hk (by have := h.pos; omega), h.pos, (hk.block g h.lt (by omega)).trans h.blk, h.left, h.rest, ⟨a, cap, h1, h2, h3, h4, ?_⟩, h.small, h.few⟩
 by_cases hne : ts = []
 ·subst hne; exact HoldsT.nil
 refine h5.kp hk ?_
 intro b hb' e
 obtain ⟨q, hq, hqg⟩ := h4 hne
 rw [hb'] at hq
 cases hq
 simp only at e
 omega
set_option maxHeartbeats 1000000 in
theorem rcall_any {w : World} {g : Nat} {V : Value} {ts : List Tk} {E : Nat} {σ : Sg} (h : Rd w g V ts E σ) :
  Calls Tryz.prog 60 #[.pointer (some ⟨g, 0, none⟩)] w fun e w' => ∃ m : MtS, e = .returned (.agg #[.string m.name, .string m.inn, .string m.out]) ∧ Res (pOn σ pCall) m ∧ Rd w' g V ts E (stX (pOn σ pCall)) ∧ Kp (fun k => k = g) w w' := by
 have HV : Hid (∀ a b : ByteArray, Res (pOn (stX (pOn σ pName)) pIn) a → Res (pOn (stX (pOn (stX (pOn (stX (pOn σ pName)) pIn)) (pMust kReturns))) pIn) b →
  stX (pOn (stX (pOn (stX (pOn (stX (pOn (stX (pOn σ pName)) pIn)) (pMust kReturns))) pIn)) (pMust kSemi)) = stX (pOn σ pCall) ∧ Res (pOn σ pCall) ⟨res noT (pOn σ pName), a, b⟩) := call_st σ
 have hg := h.lt
 go_enter Tryz.func60, Tryz.ntmps60
 go_wp2_with fail
 refine (rname_any (h.alloc _)).mono ?_
 rintro e w1 ⟨rfl, h1, k1⟩
 have B1 := (Blk.new w #[.string ⟨#[]⟩, .string ⟨#[]⟩, .string ⟨#[]⟩] 46).kp k1 (by omega)
 have K1 : Kp (fun k => k = g) w w1 := (Kp.ofBelow ((Below.refl _ _).alloc (Nat.le_refl _) _)).trans k1
 have L1 := B1.lt
 clear k1 h
 generalize res noT (pOn σ pName) = x1 at *
 generalize stX (pOn σ pName) = σ1 at *
 obtain ⟨R, hR⟩ : ∃ R, w.heap.size = R := ⟨_, rfl⟩
 rw [hR] at B1 L1 hg ⊢
 have HR : Hid (w.heap.size = R) := hR
 clear hR
 go_wp2_with fail
 refine (inner_any (h1.alloc _)).mono ?_
 rintro e w2 ⟨x2, rfl, r2, h2, k2⟩
 have BM2 := (Blk.new w1 #[.string x1, .string ⟨#[]⟩, .string ⟨#[]⟩] 46).kp k2 (by have := h1.lt; omega)
 have BR2 := (B1.below ((Below.refl _ _).alloc (Nat.le_refl _) _)).kp k2 (by omega)
 have K2 := (K1.alloc _).trans k2
 have hgM : g < w1.heap.size := h1.lt
 have hRM : R < w1.heap.size := L1
 clear k2 h1 K1 B1 L1
 generalize stX (pOn σ1 pIn) = σ2 at *
 generalize w1.heap.size = M at *
 have m1 := BM2.cell 1
 have fm1 := BM2.froz 1
 simp only [List.getElem?_toArray, List.getElem?_cons_succ, List.getElem?_cons_zero] at m1
 have h3 : Rd (w2.setCell ⟨M, 1, none⟩ (.string x2)) g V ts E σ2 := h2.other hgM _
 have BM3 : Blk (w2.setCell ⟨M, 1, none⟩ (.string x2)) M #[.string x1, .string x2, .string ⟨#[]⟩] 46 := BM2.set 1 _ rfl
 have BR3 : Blk (w2.setCell ⟨M, 1, none⟩ (.string x2)) R #[.string ⟨#[]⟩, .string ⟨#[]⟩, .string ⟨#[]⟩] 46 := BR2.other (by simp only; omega) _
 have K3 : Kp (fun k => k = g) w (w2.setCell ⟨M, 1, none⟩ (.string x2)) := K2.setCell (fun hlt => by have := HR.out; simp only at hlt; omega) _
 clear h2 BM2 BR2 K2
 go_wp2_with fail
 clear m1 fm1
 refine (one_new kReturns _ (by simp [World.setCell]) h3 (by decide +kernel)).mono ?_
 rintro e w3 ⟨x3, rfl, h4, k4⟩
 have BM4 := BM3.kp k4 (by omega)
 have BR4 := BR3.kp k4 (by omega)
 have K4 := K3.trans k4
 clear k4 h3 K3 BM3 BR3
 generalize stX (pOn σ2 (pMust kReturns)) = σ3 at *
 go_wp2_with fail
 refine (inner_any h4).mono ?_
 rintro e w4 ⟨x4, rfl, r4, h5, k5⟩
 have BM5 := BM4.kp k5 (by omega)
 have BR5 := BR4.kp k5 (by omega)
 have K5 := K4.trans k5
 clear k5 h4 K4 BM4 BR4
 generalize stX (pOn σ3 pIn) = σ4 at *
 have m1 := BM5.cell 2
 have fm1 := BM5.froz 2
 simp only [List.getElem?_toArray, List.getElem?_cons_succ, List.getElem?_cons_zero] at m1
 have h6 : Rd (w4.setCell ⟨M, 2, none⟩ (.string x4)) g V ts E σ4 := h5.other hgM _
 have BM6 : Blk (w4.setCell ⟨M, 2, none⟩ (.string x4)) M #[.string x1, .string x2, .string x4] 46 := BM5.set 2 _ rfl
 have BR6 : Blk (w4.setCell ⟨M, 2, none⟩ (.string x4)) R #[.string ⟨#[]⟩, .string ⟨#[]⟩, .string ⟨#[]⟩] 46 := BR5.other (by simp only; omega) _
 have K6 : Kp (fun k => k = g) w (w4.setCell ⟨M, 2, none⟩ (.string x4)) := K5.setCell (fun hlt => by have := HR.out; simp only at hlt; omega) _
 clear h5 BM5 BR5 K5
 go_wp2_with fail
 clear m1 fm1
 refine (one_new kSemi _ (by simp [World.setCell]) h6 (by decide +kernel)).mono ?_
 rintro e w5 ⟨x5, rfl, h7, k7⟩
 have BM7 := BM6.kp k7 (by omega)
 have BR7 := BR6.kp k7 (by omega)
 have K7 := K6.trans k7
 clear k7 h6 K6 BM6 BR6
 obtain ⟨hz1, hz2⟩ := HV.out x2 x4 r2 r4
 rw [hz1] at h7
 have HZ : Hid (Res (pOn σ pCall) ⟨x1, x2, x4⟩) := hz2
 clear HV hz1 hz2
 have m0 := BM7.cell 0
 have m1 := BM7.cell 1
 have m2 := BM7.cell 2
 have r0 := BR7.cell 0
 have r1 := BR7.cell 1
 have r2 := BR7.cell 2
 have f0 := BR7.froz 0
 have f1 := BR7.froz 1
 have f2 := BR7.froz 2
 simp only [List.getElem?_toArray, List.getElem?_cons_succ, List.getElem?_cons_zero] at m0 m1 m2 r0 r1 r2
 go_wp2_with fail
 refine bodyPost_ret (results_cell rfl _ _ _ ⟨R, 0, none⟩ (.agg #[.string x1, .string x2, .string x4]) (by go_simp) (by go_simp)) rfl ?_
 refine ⟨⟨x1, x2, x4⟩, rfl, HZ.out, ?_, ?_⟩
 ·exact ((h7.other hg _).other hg _).other hg _
 ·have hlt : R < w.heap.size → R = g := fun hlt => by have := HR.out; omega
  exact ((K7.setCell hlt _).setCell hlt _).setCell hlt _
def InP {α : Type} (x : PR α) (n : Nat) : Prop := ∀ k, x = .inl k → k ≤ n
theorem in_inr {α : Type} (a : α) (r : List ByteArray) (n : Nat) : InP (.inr (a, r)) n := fun k e => by cases e
theorem in_bind {α β : Type} {x : PR α} {f : α → List ByteArray → PR β} {n : Nat} (h : InP x n) (hl : LeP x n) (hf : ∀ a r, InP (f a r) r.length) : InP (pBind x f) n := by
 cases x with
 | inl k => intro j e; exact h j (by simpa [pBind] using e)
 | inr x => obtain ⟨a, r⟩ := x; intro j e; exact Nat.le_trans (hf a r j e) (hl a r rfl)
theorem must_in (k : ByteArray) (ts : List ByteArray) : InP (pMust k ts) ts.length := by
 intro j e; unfold pMust at e; split at e <;> simp at e; omega
theorem name_in (ts : List ByteArray) : InP (pName ts) ts.length := (pName_sh ts).1
theorem num_in (ts : List ByteArray) : InP (pNum ts) ts.length := (pNum_sh ts).1
theorem type_in (ts : List ByteArray) : InP (pType ts) ts.length := by
 cases ts with
 | nil => intro k e; simp [pType] at e; omega
 | cons t r =>
  unfold pType
  simp only
  split
  ·exact in_inr _ _ _
  ·exact in_bind (name_in _) (name_lt _).le fun _ _ => in_inr _ _ _
theorem field_in (ts : List ByteArray) : InP (pField ts) ts.length := by
 unfold pField
 have hl := label_le ts
 refine in_bind (fun k e => Nat.le_trans (type_in _ k e) hl) (fun a r e => Nat.le_trans (Nat.le_of_lt (type_lt _ a r e)) hl) fun a r => ?_
 exact in_bind (name_in r) (name_lt r).le fun _ r => in_bind (must_in _ r) (must_lt _ r).le fun _ r => in_bind (num_in r) (num_lt r).le fun _ r => in_bind (must_in _ r) (must_lt _ r).le fun _ r => in_inr _ _ _
theorem more_in : ∀ (f : Nat) (acc : List Int) (ts : List ByteArray), InP (pMore f acc ts) ts.length
 | 0, acc, ts => in_bind (must_in _ ts) (must_lt _ ts).le fun _ r => in_inr _ _ _
 | f + 1, acc, ts => by
  unfold pMore
  split
  ·have h := in_bind (x := pNum ts.tail) (f := fun n r => pMore f (acc ++ [(n : Int)]) r) (num_in _) (num_lt ts.tail).le fun n r => more_in f _ r
   exact fun a e => Nat.le_trans (h a e) (by simp)
  ·exact in_bind (must_in _ ts) (must_lt _ ts).le fun _ r => in_inr _ _ _
theorem member_in (m : MsS) (ts : List ByteArray) : InP (pMember m ts) ts.length := by
 unfold pMember
 split
 ·have h := in_bind (x := pNum ts.tail) (f := fun n r => pBind (pMore r.length (m.reserved ++ [(n : Int)]) r) fun l r2 => (.inr (⟨m.name, m.fields, l⟩, r2) : PR MsS)) (num_in _) (num_lt ts.tail).le fun n r => in_bind (more_in _ _ r) (more_le _ _ r) fun _ r => in_inr _ _ _
  exact fun a e => Nat.le_trans (h a e) (by simp)
 ·exact in_bind (field_in ts) (field_lt ts).le fun _ r => in_inr _ _ _
theorem members_in : ∀ (f : Nat) (m : MsS) (ts : List ByteArray), InP (pMembers f m ts) ts.length
 | 0, m, ts => fun k e => by simp [pMembers] at e; omega
 | f + 1, m, ts => by
  unfold pMembers
  split
  ·exact in_inr _ _ _
  ·exact in_bind (member_in m ts) (member_lt m ts).le fun m' r => members_in f m' r
theorem msg_in (ts : List ByteArray) : InP (pMsg ts) ts.length := by
 unfold pMsg
 exact in_bind (name_in ts) (name_lt ts).le fun _ r => in_bind (must_in _ r) (must_lt _ r).le fun _ r => members_in _ _ r
theorem value_in (ts : List ByteArray) : InP (pValue ts) ts.length := by
 unfold pValue
 exact in_bind (name_in ts) (name_lt ts).le fun _ r => in_bind (must_in _ r) (must_lt _ r).le fun _ r => in_bind (num_in r) (num_lt r).le fun _ r => in_bind (must_in _ r) (must_lt _ r).le fun _ r => in_inr _ _ _
theorem values_in : ∀ (f : Nat) (m : EnS) (ts : List ByteArray), InP (pValues f m ts) ts.length
 | 0, m, ts => fun k e => by simp [pValues] at e; omega
 | f + 1, m, ts => by
  unfold pValues
  split
  ·exact in_inr _ _ _
  ·exact in_bind (value_in ts) (value_lt ts).le fun m' r => values_in f _ r
theorem enum_in (ts : List ByteArray) : InP (pEnum ts) ts.length := by
 unfold pEnum
 exact in_bind (name_in ts) (name_lt ts).le fun _ r => in_bind (must_in _ r) (must_lt _ r).le fun _ r => values_in _ _ r
theorem call_in (ts : List ByteArray) : InP (pCall ts) ts.length := by
 unfold pCall
 exact in_bind (name_in ts) (name_lt ts).le fun _ r => in_bind (must_in _ r) (must_lt _ r).le fun _ r => in_bind (name_in r) (name_lt r).le fun _ r => in_bind (must_in _ r) (must_lt _ r).le fun _ r => in_bind (must_in _ r) (must_lt _ r).le fun _ r => in_bind (must_in _ r) (must_lt _ r).le fun _ r => in_bind (name_in r) (name_lt r).le fun _ r => in_bind (must_in _ r) (must_lt _ r).le fun _ r => in_bind (must_in _ r) (must_lt _ r).le fun _ r => in_inr _ _ _
def flagOf : Option Value → Nat
 | some (.bool true) => 0
 | _ => 1
def msr (g N : Nat) (w : World) : Nat := 2 * (N - (intOf ((w.cell? ⟨g, 1, none⟩).getD undef)).toNat) + flagOf (w.cell? ⟨g, 3, none⟩)
def weigh (σ : Sg) : Nat := 2 * leftS σ + (if badS σ = true then 0 else 1)
theorem msr_rd {w : World} {g : Nat} {V : Value} {ts : List Tk} {E : Nat} {σ : Sg} (h : Rd w g V ts E σ) : msr g ts.length w = weigh σ := by
 obtain ⟨n, hn, hm, c0, c1, c2, c3, f1, f3⟩ := h.open
 unfold msr weigh
 rw [c1, c3]
 simp only [Option.getD_some, intOf, Int.toNat_natCast]
 have : ts.length - n = leftS σ := by omega
 rw [this]
 cases badS σ <;> rfl
theorem weigh_lt {α : Type} {x : PR α} {r : List ByteArray} (h1 : LtP x r.length) (h2 : InP x r.length) : weigh (stX x) < weigh (.inr r) := by
 cases x with
 | inl k => have := h2 k rfl; simp [weigh, stX, leftS, badS]; omega
 | inr x => obtain ⟨a, r'⟩ := x; have := h1 a r' rfl; simp [weigh, stX, leftS, badS]; omega
def Bd (N : Nat) (σ : Sg) (n : Nat) : Prop := n ≤ N + 1 ∧ ∀ r, σ = .inr r → n + r.length ≤ N
theorem Bd.step {α : Type} {N n : Nat} {r : List ByteArray} {x : PR α} (h : Bd N (.inr r) n) (hx : LtP x r.length) : Bd N (stX x) (n + 1) := by
 have h0 := h.2 r rfl
 refine ⟨by omega, fun r' e => ?_⟩
 cases x with
 | inl k => cases e
 | inr x =>
  obtain ⟨a, r1⟩ := x
  simp only [stX, Sum.inr.injEq] at e
  subst e
  have := hx a r1 rfl
  omega
theorem Bd.keep {α : Type} {N n : Nat} {r : List ByteArray} {x : PR α} (h : Bd N (.inr r) n) (hx : LeP x r.length) : Bd N (stX x) n := by
 have h0 := h.2 r rfl
 refine ⟨by omega, fun r' e => ?_⟩
 cases x with
 | inl k => cases e
 | inr x =>
  obtain ⟨a, r1⟩ := x
  simp only [stX, Sum.inr.injEq] at e
  subst e
  have := hx a r1 rfl
  omega
theorem Rd.kp {S : Nat → Prop} {w w' : World} {g : Nat} {V : Value} {ts : List Tk} {E : Nat} {σ : Sg} (h : Rd w g V ts E σ) (hk : Kp S w w') (hs : ∀ k, k ≤ g → ¬ S k) : Rd w' g V ts E σ := by
 obtain ⟨a, cap, h1, h2, h3, h4, h5⟩ := h.row
 refine ⟨h.glob.kp hk (hs 0 (by have := h.pos; omega)), h.pos, (hk.block g h.lt (hs g (Nat.le_refl _))).trans h.blk, h.left, h.rest, ⟨a, cap, h1, h2, h3, h4, ?_⟩, h.small, h.few⟩
 by_cases hne : ts = []
 ·subst hne; exact HoldsT.nil
 refine h5.kp hk ?_
 intro b hb'
 obtain ⟨q, hq, hqg⟩ := h4 hne
 rw [hb'] at hq
 cases hq
 exact hs q (by omega)
theorem cells_new (w : World) (cs : Array Value) (t : TypeId) : ∀ j u, cs.toList[j]? = some u → (w.alloc (.cells cs t)).cell? ((⟨w.heap.size, 0, none⟩ : Addr).add j) = some u := by
 intro j u hu
 rw [Addr.add_lit, Nat.zero_add, World.cell?_alloc_at _ _ _ _ rfl]
 simpa using hu
end Go.Proofs.YtcjfeandnmochaaGreatDoor
namespace Go.Proofs.YtcjfeandnmochaaGreatDoor
set_option linter.unusedSimpArgs false
open Go.ChangeShapes Go.WideShapes Go.ChangeAt Go.RowKit
set_option linter.unusedVariables false
set_option maxRecDepth 20000
def tlL : List UInt8 → Int
 | [] => -1
 | a :: _ => if ctU a = true then (a.toNat : Int) - 128 else -1
theorem tl_in (s : ByteArray) (i : Nat) (h : i < s.size) (a : 128 ≤ (s[i].toNat : Int)) (b : (s[i].toNat : Int) ≤ 191) : (s[i].toNat : Int) - 128 = tlL (s.data.toList.drop i) := by
 rw [drop_cons s i h]; simp only [tlL]; rw [if_pos (by simp [ctU]; omega)]
theorem tl_out (s : ByteArray) (i : Nat) (h : i < s.size) (a : (s[i].toNat : Int) < 128 ∨ 191 < (s[i].toNat : Int)) : -1 = tlL (s.data.toList.drop i) := by
 rw [drop_cons s i h]; simp only [tlL]; rw [if_neg (by simp [ctU]; omega)]
theorem tl_end (s : ByteArray) (i : Nat) (h : s.size ≤ i) : -1 = tlL (s.data.toList.drop i) := by
 rw [drop_none s i h]; rfl
set_option maxHeartbeats 1000000 in
theorem tail_any (s : ByteArray) (i : Int) (w : World) (hs : s.size ≤ 140737488351232) (hi : 0 ≤ i) :
  Calls Tryz.prog 119 #[.string s, .int .i64 i] w fun e w' => e = .returned (.int .i64 (tlL (s.data.toList.drop i.toNat))) ∧ w' = w := by
 by_cases h : i < s.size
 ·have hn : i.toNat < s.size := by omega
  go_enter Tryz.func119, Tryz.ntmps119
  go_wp2
  all_goals
   go_ret
   first
   | exact ⟨ret_int (tl_in s i.toNat hn (by omega) (by omega)), rfl⟩
   | exact ⟨ret_int (tl_out s i.toNat hn (by omega)), rfl⟩
 ·go_enter Tryz.func119, Tryz.ntmps119
  go_wp2
  go_ret
  exact ⟨ret_int (tl_end s i.toNat (by omega)), rfl⟩
set_option maxHeartbeats 1000000 in
theorem rnext_out (s : ByteArray) (i : Int) (w : World) (h : i < 0 ∨ (s.size : Int) ≤ i) :
  Calls Tryz.prog 78 #[.string s, .int .i64 i] w fun e w' => e = .returned (nxV (nxL (atL s i))) ∧ w' = w := by
 have hx := atL_out s i h
 have HX : Hid (nxL (atL s i) = none) := hx
 clear hx
 rcases h with h | h
 ·go_enter Tryz.func78, Tryz.ntmps78
  go_wp2
  go_ret3
  exact ⟨ret_none HX.out, rfl⟩
 ·by_cases h0 : i < 0
  all_goals
   go_enter Tryz.func78, Tryz.ntmps78
   go_wp2
   go_ret3
   exact ⟨ret_none HX.out, rfl⟩
def accv (v0 : Int) (l : List UInt8) : Nat → Int
 | 0 => v0
 | k + 1 => 64 * accv v0 l k + tlL (l.drop (k + 1))
theorem nxL_lead1 (s : ByteArray) (i : Nat) (h : i < s.size) (ha : (s[i].toNat : Int) < 128) : nxL (atL s i) = some (s[i].toNat, 1) := by
 rw [atL_in s i (by omega), Int.toNat_natCast, drop_cons s i h]
 simp only [nxL]; rw [if_pos (by omega)]
theorem nxL_lead0 (s : ByteArray) (i : Nat) (h : i < s.size) (h0 : 128 ≤ (s[i].toNat : Int)) (h1 : (s[i].toNat : Int) < 192 ∨ 248 ≤ (s[i].toNat : Int)) : nxL (atL s i) = none := by
 rw [atL_in s i (by omega), Int.toNat_natCast, drop_cons s i h]
 simp only [nxL]; rw [if_neg (by omega), if_neg (by omega), if_neg (by omega), if_neg (by omega)]
set_option maxHeartbeats 1000000 in
theorem rnext_lead1 (s : ByteArray) (i : Nat) (w : World) (hs : s.size ≤ 140737488351232) (h : i < s.size) (ha : (s[i].toNat : Int) < 128) :
  Calls Tryz.prog 78 #[.string s, .int .i64 (i : Int)] w fun e w' => e = .returned (nxV (nxL (atL s i))) ∧ w' = w := by
 have HX : Hid (nxL (atL s i) = some (s[i].toNat, 1)) := nxL_lead1 s i h ha
 have hb : 0 ≤ (s[i].toNat : Int) := by omega
 go_enter Tryz.func78, Tryz.ntmps78
 go_wp2
 go_ret3
 exact ⟨ret_some _ _ HX.out rfl rfl, rfl⟩
set_option maxHeartbeats 1000000 in
theorem rnext_lead0 (s : ByteArray) (i : Nat) (w : World) (hs : s.size ≤ 140737488351232) (h : i < s.size) (h0 : 128 ≤ (s[i].toNat : Int)) (h1 : (s[i].toNat : Int) < 192 ∨ 248 ≤ (s[i].toNat : Int)) :
  Calls Tryz.prog 78 #[.string s, .int .i64 (i : Int)] w fun e w' => e = .returned (nxV (nxL (atL s i))) ∧ w' = w := by
 have HX : Hid (nxL (atL s i) = none) := nxL_lead0 s i h h0 h1
 have hb : (s[i].toNat : Int) < 256 := by have := s[i].toNat_lt; omega
 rcases h1 with h1 | h1
 all_goals
  go_enter Tryz.func78, Tryz.ntmps78
  go_wp2
  go_ret3
  exact ⟨ret_none HX.out, rfl⟩
theorem tl_neg {r : List UInt8} (h : tlL r < 0) : ∀ b r', r = b :: r' → ctU b = false := by
 rintro b r' rfl
 cases e : ctU b with
 | false => rfl
 | true => simp only [tlL, e, if_true] at h; simp [ctU] at e; omega
theorem tl_pos {r : List UInt8} (h : 0 ≤ tlL r) : ∃ b r', r = b :: r' ∧ ctU b = true ∧ tlL r = (b.toNat : Int) - 128 := by
 match r with
 | [] => simp [tlL] at h
 | b :: r' =>
  cases e : ctU b with
  | false => simp [tlL, e] at h
  | true => exact ⟨b, r', rfl, e, by simp [tlL, e]⟩
theorem tl_bd (r : List UInt8) : -1 ≤ tlL r ∧ tlL r ≤ 63 := by
 match r with
 | [] => simp [tlL]
 | b :: r' =>
  simp only [tlL]
  split
  ·rename_i e; simp [ctU] at e; omega
  ·omega
def okV (v : Int) : Prop := v ≤ 1114111 ∧ ¬ (55296 ≤ v ∧ v ≤ 57343)
theorem bad_2 {a : UInt8} {r : List UInt8} (h0 : 192 ≤ a.toNat) (h1 : a.toNat < 224) (m : Nat) (hm : 1 ≤ m) (hn : m < 2) (h : tlL ((a :: r).drop m) < 0) : nxL (a :: r) = none := by
 obtain rfl : m = 1 := by omega
 have hc := tl_neg (r := r) h
 simp only [nxL]
 rw [if_neg (by omega), if_pos ⟨h0, h1⟩]
 match r with
 | [] => rfl
 | b :: r' => simp [hc b r' rfl]
theorem bad_3 {a : UInt8} {r : List UInt8} (h0 : 224 ≤ a.toNat) (h1 : a.toNat < 240) (m : Nat) (hm : 1 ≤ m) (hn : m < 3) (h : tlL ((a :: r).drop m) < 0) : nxL (a :: r) = none := by
 simp only [nxL]
 rw [if_neg (by omega), if_neg (by omega), if_pos ⟨h0, h1⟩]
 match r with
 | [] => rfl
 | [b] => rfl
 | b :: c :: r' =>
  obtain rfl | rfl : m = 1 ∨ m = 2 := by omega
  ·have hc := tl_neg (r := b :: c :: r') h; simp [hc b _ rfl]
  ·have hc := tl_neg (r := c :: r') h; simp [hc c _ rfl]
theorem bad_4 {a : UInt8} {r : List UInt8} (h0 : 240 ≤ a.toNat) (h1 : a.toNat < 248) (m : Nat) (hm : 1 ≤ m) (hn : m < 4) (h : tlL ((a :: r).drop m) < 0) : nxL (a :: r) = none := by
 simp only [nxL]
 rw [if_neg (by omega), if_neg (by omega), if_neg (by omega), if_pos ⟨h0, h1⟩]
 match r with
 | [] => rfl
 | [b] => rfl
 | [b, c] => rfl
 | b :: c :: d :: r' =>
  obtain rfl | rfl | rfl : m = 1 ∨ m = 2 ∨ m = 3 := by omega
  ·have hc := tl_neg (r := b :: c :: d :: r') h; simp [hc b _ rfl]
  ·have hc := tl_neg (r := c :: d :: r') h; simp [hc c _ rfl]
  ·have hc := tl_neg (r := d :: r') h; simp [hc d _ rfl]
theorem good_2 {a : UInt8} {r : List UInt8} (h0 : 192 ≤ a.toNat) (h1 : a.toNat < 224) (h : ∀ m, 1 ≤ m → m < 2 → 0 ≤ tlL ((a :: r).drop m)) :
  ∃ v : Nat, accv ((a.toNat : Int) - 192) (a :: r) 1 = v ∧ v ≤ 1000000000 ∧ (128 ≤ v ∧ okV v → nxL (a :: r) = some (v, 2)) ∧ (¬ (128 ≤ v ∧ okV v) → nxL (a :: r) = none) := by
 obtain ⟨b, r', rfl, hb, eb⟩ := tl_pos (r := r) (h 1 (by omega) (by omega))
 have hl := two_lt h1 hb
 have hb' := hb
 simp only [ctU, Bool.and_eq_true, decide_eq_true_eq] at hb'
 refine ⟨two a b, ?_, by omega, ?_, ?_⟩
 ·show 64 * ((a.toNat : Int) - 192) + tlL (b :: r') = _
  rw [eb]; simp only [two]; omega
 ·rintro ⟨g, _⟩
  simp only [nxL]
  rw [if_neg (by omega), if_pos ⟨h0, h1⟩, if_pos ⟨hb, g⟩]
 ·intro g
  simp only [nxL]
  rw [if_neg (by omega), if_pos ⟨h0, h1⟩, if_neg (fun x => g ⟨x.2, by simp only [okV]; omega⟩)]
theorem good_3 {a : UInt8} {r : List UInt8} (h0 : 224 ≤ a.toNat) (h1 : a.toNat < 240) (h : ∀ m, 1 ≤ m → m < 3 → 0 ≤ tlL ((a :: r).drop m)) :
  ∃ v : Nat, accv ((a.toNat : Int) - 224) (a :: r) 2 = v ∧ v ≤ 1000000000 ∧ (2048 ≤ v ∧ okV v → nxL (a :: r) = some (v, 3)) ∧ (¬ (2048 ≤ v ∧ okV v) → nxL (a :: r) = none) := by
 obtain ⟨b, r1, rfl, hb, eb⟩ := tl_pos (r := r) (h 1 (by omega) (by omega))
 obtain ⟨c, r', rfl, hc, ec⟩ := tl_pos (r := r1) (h 2 (by omega) (by omega))
 have hl := three_lt h1 hb hc
 have hb' := hb
 have hc' := hc
 simp only [ctU, Bool.and_eq_true, decide_eq_true_eq] at hb' hc'
 refine ⟨three a b c, ?_, by omega, ?_, ?_⟩
 ·show 64 * (64 * ((a.toNat : Int) - 224) + tlL (b :: c :: r')) + tlL (c :: r') = _
  rw [eb, ec]; simp only [three]; omega
 ·rintro ⟨g, g2⟩
  simp only [nxL]
  rw [if_neg (by omega), if_neg (by omega), if_pos ⟨h0, h1⟩, if_pos ⟨hb, hc, g, by simp only [okV] at g2; omega⟩]
 ·intro g
  simp only [nxL]
  rw [if_neg (by omega), if_neg (by omega), if_pos ⟨h0, h1⟩, if_neg (fun x => g ⟨x.2.2.1, by simp only [okV]; omega⟩)]
theorem good_4 {a : UInt8} {r : List UInt8} (h0 : 240 ≤ a.toNat) (h1 : a.toNat < 248) (h : ∀ m, 1 ≤ m → m < 4 → 0 ≤ tlL ((a :: r).drop m)) :
  ∃ v : Nat, accv ((a.toNat : Int) - 240) (a :: r) 3 = v ∧ v ≤ 1000000000 ∧ (65536 ≤ v ∧ okV v → nxL (a :: r) = some (v, 4)) ∧ (¬ (65536 ≤ v ∧ okV v) → nxL (a :: r) = none) := by
 obtain ⟨b, r1, rfl, hb, eb⟩ := tl_pos (r := r) (h 1 (by omega) (by omega))
 obtain ⟨c, r2, rfl, hc, ec⟩ := tl_pos (r := r1) (h 2 (by omega) (by omega))
 obtain ⟨d, r', rfl, hd, ed⟩ := tl_pos (r := r2) (h 3 (by omega) (by omega))
 have hb' := hb
 have hc' := hc
 have hd' := hd
 simp only [ctU, Bool.and_eq_true, decide_eq_true_eq] at hb' hc' hd'
 refine ⟨four a b c d, ?_, by simp only [four]; omega, ?_, ?_⟩
 ·show 64 * (64 * (64 * ((a.toNat : Int) - 240) + tlL (b :: c :: d :: r')) + tlL (c :: d :: r')) + tlL (d :: r') = _
  rw [eb, ec, ed]; simp only [four]; omega
 ·rintro ⟨g, g2⟩
  simp only [nxL]
  rw [if_neg (by omega), if_neg (by omega), if_neg (by omega), if_pos ⟨h0, h1⟩, if_pos ⟨hb, hc, hd, g, by simp only [okV] at g2; omega⟩]
 ·intro g
  simp only [nxL]
  rw [if_neg (by omega), if_neg (by omega), if_neg (by omega), if_pos ⟨h0, h1⟩, if_neg (fun x => g ⟨x.2.2.2.1, by simp only [okV]; omega⟩)]
theorem accv_bd (v0 : Int) (l : List UInt8) (h0 : 0 ≤ v0) (h1 : v0 ≤ 31) (k : Nat) (hk : k ≤ 3) (h : ∀ m, 1 ≤ m → m < k + 1 → 0 ≤ tlL (l.drop m)) : 0 ≤ accv v0 l k ∧ accv v0 l k ≤ 10000000 := by
 have b1 := tl_bd (l.drop 1)
 have b2 := tl_bd (l.drop 2)
 have b3 := tl_bd (l.drop 3)
 obtain rfl | rfl | rfl | rfl : k = 0 ∨ k = 1 ∨ k = 2 ∨ k = 3 := by omega
 ·simp only [accv]; omega
 ·have := h 1 (by omega) (by omega); simp only [accv, Nat.zero_add, Nat.reduceAdd]; omega
 ·have := h 1 (by omega) (by omega); have := h 2 (by omega) (by omega); simp only [accv, Nat.zero_add, Nat.reduceAdd]; omega
 ·have := h 1 (by omega) (by omega); have := h 2 (by omega) (by omega); have := h 3 (by omega) (by omega); simp only [accv, Nat.zero_add, Nat.reduceAdd]; omega
theorem rest_at (s : ByteArray) (i m : Nat) : s.data.toList.drop ((i : Int) + (m : Int)).toNat = (s.data.toList.drop i).drop m := by
 rw [List.drop_drop]; congr 1
set_option maxHeartbeats 2000000 in
theorem rnext_lead2 (s : ByteArray) (i : Nat) (w : World) (hs : s.size ≤ 140737488351232) (h : i < s.size) (h0 : 192 ≤ (s[i].toNat : Int)) (h1 : (s[i].toNat : Int) < 224) :
  Calls Tryz.prog 78 #[.string s, .int .i64 (i : Int)] w fun e w' => e = .returned (nxV (nxL (atL s i))) ∧ w' = w := by
 have hl0 : Hid (atL s i = s[i] :: s.data.toList.drop (i + 1)) := by rw [atL_in s i (by omega), Int.toNat_natCast, drop_cons s i h]; rfl
 have hl1 : Hid (atL s i = s.data.toList.drop i) := by rw [atL_in s i (by omega), Int.toNat_natCast]; rfl
 generalize atL s i = l at *
 have hd1 : decide (s.size ≤ i) = false := by simp; omega
 have hd2 : decide ((i : Int) < 0) = false := by simp
 have hd3 : decide ((s[i].toNat : Int) < 128) = false := by simp; omega
 go_enter Tryz.func78, Tryz.ntmps78
 go_wp2
 go_loop [9, 11] (fun v j => ∃ m : Nat, 1 ≤ m ∧ m ≤ 2 ∧ j = .int .i64 m ∧ v = .int .i64 (accv ((s[i].toNat : Int) - 192) l (m - 1)) ∧ Hid (∀ q, 1 ≤ q → q < m → 0 ≤ tlL (l.drop q))) (fun _ j => 2 - (intOf j).toNat)
 case atStart => exact ⟨1, by omega, by omega, rfl, rfl, by intro q; omega⟩
 case round =>
  obtain ⟨m, hm1, hm2, rfl, rfl, H⟩ := hrel
  have hbd := accv_bd ((s[i].toNat : Int) - 192) l (by omega) (by omega) (m - 1) (by omega) (fun q a b => H.out q a (by omega))
  by_cases hlt : m < 2
  ·have ht := tl_bd (l.drop m)
   have HT : Hid (tlL (s.data.toList.drop ((i : Int) + (m : Int)).toNat) = tlL (l.drop m)) := by rw [rest_at, ← hl1.out]; rfl
   have HS : Hid (64 * accv ((s[i].toNat : Int) - 192) l (m - 1) + tlL (l.drop m) = accv ((s[i].toNat : Int) - 192) l m) := by
    obtain ⟨k, rfl⟩ : ∃ k, m = k + 1 := ⟨m - 1, by omega⟩
    rfl
   have HB : Hid (tlL (l.drop m) < 0 → nxL l = none) := fun hh => by
    have hx := hh
    rw [hl0.out] at hx ⊢
    exact bad_2 (by omega) (by omega) m hm1 hlt hx
   have HN : Hid (0 ≤ tlL (l.drop m) → ∀ q, 1 ≤ q → q < m + 1 → 0 ≤ tlL (l.drop q)) := fun hh q a b => by
    by_cases e : q = m
    ·rw [e]; exact hh
    ·exact H.out q a (by omega)
   generalize accv ((s[i].toNat : Int) - 192) l (m - 1) = v at *
   go_wp2_with fail
   refine (tail_any s _ _ hs (by omega)).mono ?_
   rintro e w' ⟨rfl, rfl⟩
   rw [HT.out]
   generalize tlL (l.drop m) = t at *
   by_cases hneg : t < 0
   ·go_wp2
    go_ret3
    exact ⟨ret_none (HB.out hneg), rfl⟩
   ·go_wp2
    go_round
    case rel => exact ⟨m + 1, by omega, by omega, by go_num, by rw [HS.out]; rfl, HN.out (by omega)⟩
    case measure => simp [intOf]; omega
  ·obtain rfl : m = 2 := by omega
   obtain ⟨v, ev, hv, hyes, hno⟩ : ∃ v : Nat, accv ((s[i].toNat : Int) - 192) l (2 - 1) = v ∧ v ≤ 1000000000 ∧ (128 ≤ v ∧ okV v → nxL l = some (v, 2)) ∧ (¬ (128 ≤ v ∧ okV v) → nxL l = none) := by
    have hg := H.out
    rw [hl0.out] at hg ⊢
    exact good_2 (by omega) (by omega) hg
   rw [ev]
   have HY : Hid (128 ≤ v ∧ okV v → nxL l = some (v, 2)) := hyes
   have HNO : Hid (¬ (128 ≤ v ∧ okV v) → nxL l = none) := hno
   clear hyes hno ev hbd H
   go_wp2
   all_goals
    go_ret3
    first
    | exact ⟨ret_none (HNO.out (by simp only [okV]; omega)), rfl⟩
    | exact ⟨ret_some _ _ (HY.out (by simp only [okV]; omega)) rfl rfl, rfl⟩
set_option maxHeartbeats 2000000 in
theorem rnext_lead3 (s : ByteArray) (i : Nat) (w : World) (hs : s.size ≤ 140737488351232) (h : i < s.size) (h0 : 224 ≤ (s[i].toNat : Int)) (h1 : (s[i].toNat : Int) < 240) :
  Calls Tryz.prog 78 #[.string s, .int .i64 (i : Int)] w fun e w' => e = .returned (nxV (nxL (atL s i))) ∧ w' = w := by
 have hl0 : Hid (atL s i = s[i] :: s.data.toList.drop (i + 1)) := by rw [atL_in s i (by omega), Int.toNat_natCast, drop_cons s i h]; rfl
 have hl1 : Hid (atL s i = s.data.toList.drop i) := by rw [atL_in s i (by omega), Int.toNat_natCast]; rfl
 generalize atL s i = l at *
 have hd1 : decide (s.size ≤ i) = false := by simp; omega
 have hd2 : decide ((i : Int) < 0) = false := by simp
 have hd3 : decide ((s[i].toNat : Int) < 128) = false := by simp; omega
 go_enter Tryz.func78, Tryz.ntmps78
 go_wp2
 go_loop [9, 11] (fun v j => ∃ m : Nat, 1 ≤ m ∧ m ≤ 3 ∧ j = .int .i64 m ∧ v = .int .i64 (accv ((s[i].toNat : Int) - 224) l (m - 1)) ∧ Hid (∀ q, 1 ≤ q → q < m → 0 ≤ tlL (l.drop q))) (fun _ j => 3 - (intOf j).toNat)
 case atStart => exact ⟨1, by omega, by omega, rfl, rfl, by intro q; omega⟩
 case round =>
  obtain ⟨m, hm1, hm2, rfl, rfl, H⟩ := hrel
  have hbd := accv_bd ((s[i].toNat : Int) - 224) l (by omega) (by omega) (m - 1) (by omega) (fun q a b => H.out q a (by omega))
  by_cases hlt : m < 3
  ·have ht := tl_bd (l.drop m)
   have HT : Hid (tlL (s.data.toList.drop ((i : Int) + (m : Int)).toNat) = tlL (l.drop m)) := by rw [rest_at, ← hl1.out]; rfl
   have HS : Hid (64 * accv ((s[i].toNat : Int) - 224) l (m - 1) + tlL (l.drop m) = accv ((s[i].toNat : Int) - 224) l m) := by
    obtain ⟨k, rfl⟩ : ∃ k, m = k + 1 := ⟨m - 1, by omega⟩
    rfl
   have HB : Hid (tlL (l.drop m) < 0 → nxL l = none) := fun hh => by
    have hx := hh
    rw [hl0.out] at hx ⊢
    exact bad_3 (by omega) (by omega) m hm1 hlt hx
   have HN : Hid (0 ≤ tlL (l.drop m) → ∀ q, 1 ≤ q → q < m + 1 → 0 ≤ tlL (l.drop q)) := fun hh q a b => by
    by_cases e : q = m
    ·rw [e]; exact hh
    ·exact H.out q a (by omega)
   generalize accv ((s[i].toNat : Int) - 224) l (m - 1) = v at *
   go_wp2_with fail
   refine (tail_any s _ _ hs (by omega)).mono ?_
   rintro e w' ⟨rfl, rfl⟩
   rw [HT.out]
   generalize tlL (l.drop m) = t at *
   by_cases hneg : t < 0
   ·go_wp2
    go_ret3
    exact ⟨ret_none (HB.out hneg), rfl⟩
   ·go_wp2
    go_round
    case rel => exact ⟨m + 1, by omega, by omega, by go_num, by rw [HS.out]; rfl, HN.out (by omega)⟩
    case measure => simp [intOf]; omega
  ·obtain rfl : m = 3 := by omega
   obtain ⟨v, ev, hv, hyes, hno⟩ : ∃ v : Nat, accv ((s[i].toNat : Int) - 224) l (3 - 1) = v ∧ v ≤ 1000000000 ∧ (2048 ≤ v ∧ okV v → nxL l = some (v, 3)) ∧ (¬ (2048 ≤ v ∧ okV v) → nxL l = none) := by
    have hg := H.out
    rw [hl0.out] at hg ⊢
    exact good_3 (by omega) (by omega) hg
   rw [ev]
   have HY : Hid (2048 ≤ v ∧ okV v → nxL l = some (v, 3)) := hyes
   have HNO : Hid (¬ (2048 ≤ v ∧ okV v) → nxL l = none) := hno
   clear hyes hno ev hbd H
   go_wp2
   all_goals
    go_ret3
    first
    | exact ⟨ret_none (HNO.out (by simp only [okV]; omega)), rfl⟩
    | exact ⟨ret_some _ _ (HY.out (by simp only [okV]; omega)) rfl rfl, rfl⟩
set_option maxHeartbeats 2000000 in
theorem rnext_lead4 (s : ByteArray) (i : Nat) (w : World) (hs : s.size ≤ 140737488351232) (h : i < s.size) (h0 : 240 ≤ (s[i].toNat : Int)) (h1 : (s[i].toNat : Int) < 248) :
  Calls Tryz.prog 78 #[.string s, .int .i64 (i : Int)] w fun e w' => e = .returned (nxV (nxL (atL s i))) ∧ w' = w := by
 have hl0 : Hid (atL s i = s[i] :: s.data.toList.drop (i + 1)) := by rw [atL_in s i (by omega), Int.toNat_natCast, drop_cons s i h]; rfl
 have hl1 : Hid (atL s i = s.data.toList.drop i) := by rw [atL_in s i (by omega), Int.toNat_natCast]; rfl
 generalize atL s i = l at *
 have hd1 : decide (s.size ≤ i) = false := by simp; omega
 have hd2 : decide ((i : Int) < 0) = false := by simp
 have hd3 : decide ((s[i].toNat : Int) < 128) = false := by simp; omega
 go_enter Tryz.func78, Tryz.ntmps78
 go_wp2
 go_loop [9, 11] (fun v j => ∃ m : Nat, 1 ≤ m ∧ m ≤ 4 ∧ j = .int .i64 m ∧ v = .int .i64 (accv ((s[i].toNat : Int) - 240) l (m - 1)) ∧ Hid (∀ q, 1 ≤ q → q < m → 0 ≤ tlL (l.drop q))) (fun _ j => 4 - (intOf j).toNat)
 case atStart => exact ⟨1, by omega, by omega, rfl, rfl, by intro q; omega⟩
 case round =>
  obtain ⟨m, hm1, hm2, rfl, rfl, H⟩ := hrel
  have hbd := accv_bd ((s[i].toNat : Int) - 240) l (by omega) (by omega) (m - 1) (by omega) (fun q a b => H.out q a (by omega))
  by_cases hlt : m < 4
  ·have ht := tl_bd (l.drop m)
   have HT : Hid (tlL (s.data.toList.drop ((i : Int) + (m : Int)).toNat) = tlL (l.drop m)) := by rw [rest_at, ← hl1.out]; rfl
   have HS : Hid (64 * accv ((s[i].toNat : Int) - 240) l (m - 1) + tlL (l.drop m) = accv ((s[i].toNat : Int) - 240) l m) := by
    obtain ⟨k, rfl⟩ : ∃ k, m = k + 1 := ⟨m - 1, by omega⟩
    rfl
   have HB : Hid (tlL (l.drop m) < 0 → nxL l = none) := fun hh => by
    have hx := hh
    rw [hl0.out] at hx ⊢
    exact bad_4 (by omega) (by omega) m hm1 hlt hx
   have HN : Hid (0 ≤ tlL (l.drop m) → ∀ q, 1 ≤ q → q < m + 1 → 0 ≤ tlL (l.drop q)) := fun hh q a b => by
    by_cases e : q = m
    ·rw [e]; exact hh
    ·exact H.out q a (by omega)
   generalize accv ((s[i].toNat : Int) - 240) l (m - 1) = v at *
   go_wp2_with fail
   refine (tail_any s _ _ hs (by omega)).mono ?_
   rintro e w' ⟨rfl, rfl⟩
   rw [HT.out]
   generalize tlL (l.drop m) = t at *
   by_cases hneg : t < 0
   ·go_wp2
    go_ret3
    exact ⟨ret_none (HB.out hneg), rfl⟩
   ·go_wp2
    go_round
    case rel => exact ⟨m + 1, by omega, by omega, by go_num, by rw [HS.out]; rfl, HN.out (by omega)⟩
    case measure => simp [intOf]; omega
  ·obtain rfl : m = 4 := by omega
   obtain ⟨v, ev, hv, hyes, hno⟩ : ∃ v : Nat, accv ((s[i].toNat : Int) - 240) l (4 - 1) = v ∧ v ≤ 1000000000 ∧ (65536 ≤ v ∧ okV v → nxL l = some (v, 4)) ∧ (¬ (65536 ≤ v ∧ okV v) → nxL l = none) := by
    have hg := H.out
    rw [hl0.out] at hg ⊢
    exact good_4 (by omega) (by omega) hg
   rw [ev]
   have HY : Hid (65536 ≤ v ∧ okV v → nxL l = some (v, 4)) := hyes
   have HNO : Hid (¬ (65536 ≤ v ∧ okV v) → nxL l = none) := hno
   clear hyes hno ev hbd H
   go_wp2
   all_goals
    go_ret3
    first
    | exact ⟨ret_none (HNO.out (by simp only [okV]; omega)), rfl⟩
    | exact ⟨ret_some _ _ (HY.out (by simp only [okV]; omega)) rfl rfl, rfl⟩
theorem rnext_any (s : ByteArray) (i : Int) (w : World) (hs : s.size ≤ 140737488351232) :
  Calls Tryz.prog 78 #[.string s, .int .i64 i] w fun e w' => e = .returned (nxV (nxL (atL s i))) ∧ w' = w := by
 by_cases h : i < 0 ∨ (s.size : Int) ≤ i
 ·exact rnext_out s i w h
 ·obtain ⟨n, rfl⟩ := Int.eq_ofNat_of_zero_le (a := i) (by omega)
  have hn : n < s.size := by omega
  by_cases h1 : (s[n].toNat : Int) < 128
  ·exact rnext_lead1 s n w hs hn h1
  ·by_cases h2 : (s[n].toNat : Int) < 192 ∨ 248 ≤ (s[n].toNat : Int)
   ·exact rnext_lead0 s n w hs hn (by omega) h2
   ·by_cases h3 : (s[n].toNat : Int) < 224
    ·exact rnext_lead2 s n w hs hn (by omega) h3
    ·by_cases h4 : (s[n].toNat : Int) < 240
     ·exact rnext_lead3 s n w hs hn (by omega) h4
     ·exact rnext_lead4 s n w hs hn (by omega) (by omega)
end Go.Proofs.YtcjfeandnmochaaGreatDoor
namespace Go.Proofs.YtcjfeandnmochaaGreatDoor
open Go.ChangeShapes Go.WideShapes Go.ChangeAt Go.RowKit
set_option linter.unusedVariables false
set_option linter.unusedSimpArgs false
set_option maxRecDepth 20000
set_option maxHeartbeats 400000 in
theorem rdigit_any (r : Int) (w : World) :
  Calls Tryz.prog 81 #[.int .i32 r] w fun e w' => e = .returned (.bool (digB r)) ∧ w' = w := by
 go_enter Tryz.func81, Tryz.ntmps81
 go_wp2
 all_goals
  go_ret
  exact ⟨ret_bool (by simp [digB]; try omega), rfl⟩
set_option maxHeartbeats 1000000 in
theorem rletter_any (r : Int) (w : World) :
  Calls Tryz.prog 79 #[.int .i32 r] w fun e w' => e = .returned (.bool (letB r)) ∧ w' = w := by
 go_enter Tryz.func79, Tryz.ntmps79
 go_wp2
 all_goals
  go_ret
  refine ⟨ret_bool ?_, rfl⟩
  rw [Bool.eq_iff_iff]
  simp [letB]
  try omega
end Go.Proofs.YtcjfeandnmochaaGreatDoor
namespace Go.Proofs.YtcjfeandnmochaaGreatDoor
open Go.ChangeShapes Go.WideShapes Go.ChangeAt Go.RowKit
set_option linter.unusedVariables false
set_option maxRecDepth 20000
theorem infoRune : (Tryz.prog.info? 21).map (fun i => (i.zero, i.size, i.bytes)) = some (some (.int .i32 0), 1, 4) := by kernel_rfl
def runeCells (rs : List Nat) : List Value := rs.map fun (c : Nat) => Value.int .i32 (c : Int)
theorem owns_cast {w : World} {b e : Nat} {v : Value} {n n' : Nat} {xs xs' : List Value} (h : w.ownsRow b e 1 v n xs) (hn : n' = n) (hx : xs' = xs) : w.ownsRow b e 1 v n' xs' := by
 rw [hn, hx]; exact h
theorem all_len {l : List UInt8} {pos c k : Nat} (hn : nxL (l.drop pos) = some (c, k)) (hp : pos ≤ l.length) : pos + k ≤ l.length ∧ 1 ≤ k ∧ k ≤ 4 := by
 obtain ⟨_, _, _, h4, h5, h6, _⟩ := nxL_some _ _ _ hn
 simp at h5
 omega
set_option maxHeartbeats 1000000 in
theorem rall_any (s : ByteArray) (w : World) (hs : s.size ≤ 20000) :
  Calls Tryz.prog 86 #[.string s] w fun e w' => ∃ v, e = .returned (.tuple #[v, .bool (validB s.data.toList)]) ∧
   w'.ownsRow w.heap.size 21 1 v (countN s.data.toList) (runeCells ((runesOf s.data.toList).getD [])) ∧ Below w.heap.size w w' := by
 obtain ⟨i0, hi, hz0, hz1, hz2⟩ := info_parts infoRune
 go_enter Tryz.func86, Tryz.ntmps86
 go_wp2_with fail
 go_loopw [4, 5] (fun v at' wr => ∃ (pos : Nat) (acc : List Nat), at' = .int .i64 pos ∧ pos ≤ s.size ∧ acc.length ≤ pos ∧ Hid (Gone s.data.toList pos acc) ∧ wr.ownsRow w.heap.size 21 1 v acc.length (runeCells acc) ∧ Below w.heap.size w wr)
  (fun _ at' _ => s.size - (intOf at').toNat)
 case atStart => exact ⟨0, [], rfl, by omega, by simp, Gone.start _, World.ownsRow_nil _ _ _ _, Below.refl _ _⟩
 case round =>
  obtain ⟨pos, acc, rfl, hps, hap, H, hown, hbel⟩ := hrel
  by_cases hp : pos < s.size
  ·have HA : Hid (atL s pos = s.data.toList.drop pos) := by rw [atL_in s pos (by omega), Int.toNat_natCast]; rfl
   go_wp2_with fail
   refine (rnext_any s _ _ (by omega)).mono ?_
   rintro e w1 ⟨rfl, rfl⟩
   rw [HA.out]
   generalize hx : nxL (s.data.toList.drop pos) = x
   cases x with
   | none =>
    have HR : Hid (runesOf s.data.toList = none) := H.out.bad (by rw [len_data]; exact hp) hx
    have H1 : Hid (validB s.data.toList = false) := by show _ = _; unfold validB; rw [HR.out]; rfl
    have H2 : Hid (countN s.data.toList = 0) := by show _ = _; unfold countN; rw [HR.out]; rfl
    have H3 : Hid ((runesOf s.data.toList).getD [] = []) := by show _ = _; rw [HR.out]; rfl
    simp only [nxV]
    clear hx
    go_wp2_with fail
    go_ret2
    refine ⟨.slice none 0 0, ?_, ?_, hbel⟩
    ·rw [H1.out]; rfl
    ·rw [H2.out, H3.out]; exact World.ownsRow_nil _ _ _ _
   | some x =>
    obtain ⟨c, k⟩ := x
    obtain ⟨g1, g2, g3⟩ := all_len hx (by rw [len_data]; omega)
    rw [len_data] at g1
    have HG : Hid (Gone s.data.toList (pos + k) (acc ++ [c])) := H.out.step hx
    clear hx
    simp only [nxV]
    have hws := hbel.size
    go_wp2_with (first
     | (at_builtin; refine wpList_append_own _ rfl _ _ 143 rfl w.heap.size 21 i0 (.int .i32 0) 1 4 Tryz.underlying143 hi hz0 hz1 hz2 rfl (by decide) _ _ _ rfl (hown.alloc _) ⟨w1.heap.size, 0, none⟩ 1 1 [.int .i32 (c : Int)] rfl rfl ?c1 ?c2 ?c3 ?c4 ?c5 ?_)
     | fail)
    case c1 =>
     intro j u hj
     match j, hj with
     | 0, hj => simp at hj; subst hj; simp [Addr.add]
    case c2 => intro u hu; simp at hu; subst hu; rfl
    case c3 => unfold maxLen; omega
    case c4 => omega
    case c5 => simp; omega
    intro v' w2 hown' hgrow _
    have hb2 : Below w.heap.size w w2 := (hbel.alloc hws _).grown hgrow (by simp; omega) (fun k hk => (hown.lt k hk).1)
    have HO : Hid (w2.ownsRow w.heap.size 21 1 v' (acc ++ [c]).length (runeCells (acc ++ [c]))) := by
     have e1 : (acc ++ [c]).length = acc.length + 1 := by simp
     have e2 : runeCells (acc ++ [c]) = runeCells acc ++ [.int .i32 (c : Int)] := by simp [runeCells]
     show World.ownsRow _ _ _ _ _ _ _
     rw [e1, e2]
     exact hown'
    clear hown hown' hgrow
    go_wp2_with fail
    go_roundw
    case rel => exact ⟨pos + k, acc ++ [c], by go_num, by omega, by simp; omega, HG, HO.out, hb2⟩
    case measure => simp [intOf]; omega
  ·have HR : Hid (runesOf s.data.toList = some acc) := H.out.done (by rw [len_data]; omega)
   have H1 : Hid (validB s.data.toList = true) := by show _ = _; unfold validB; rw [HR.out]; rfl
   have H2 : Hid (countN s.data.toList = acc.length) := by show _ = _; unfold countN; rw [HR.out]; rfl
   have H3 : Hid ((runesOf s.data.toList).getD [] = acc) := by show _ = _; rw [HR.out]; rfl
   have HO := owns_cast hown H2.out (congrArg runeCells H3.out)
   clear hown
   go_wp2_with fail
   go_ret2
   exact ⟨_, by rw [H1.out]; rfl, HO, hbel⟩
theorem owns_form {w : World} {base e : Nat} {v : Value} {n : Nat} {xs : List Value} (h : w.ownsRow base e 1 v n xs) :
  ∃ a cap, v = .slice a n cap ∧ (0 < n → ∃ g, a = some ⟨g, 0, none⟩ ∧ ∀ j, j < n → w.cell? ⟨g, j, none⟩ = xs[j]?) := by
 have h0 := h
 obtain ⟨h1, h2⟩ := h
 rcases h2 with ⟨rfl, rfl⟩ | ⟨g, cap, cur, rfl, _⟩
 ·exact ⟨none, 0, rfl, by omega⟩
 ·exact ⟨some ⟨g, 0, none⟩, cap, rfl, fun _ => ⟨g, rfl, fun j hj => h0.cellAt j (by omega)⟩⟩
end Go.Proofs.YtcjfeandnmochaaGreatDoor
namespace Go.Proofs.YtcjfeandnmochaaGreatDoor
open Go.ChangeShapes Go.WideShapes Go.ChangeAt Go.RowKit
set_option linter.unusedVariables false
set_option linter.unusedSimpArgs false
set_option maxRecDepth 20000
set_option maxHeartbeats 1000000 in
theorem rkey_any (s : ByteArray) (w : World) :
  Calls Tryz.prog 87 #[.string s] w fun e w' => e = .returned (.bool (keyB s)) ∧ w' = w := by
 go_enter Tryz.func87, Tryz.ntmps87
 go_wp2
 all_goals
  go_ret
  refine ⟨ret_bool ?_, rfl⟩
  first | (simp [keyB, *]; done) | simp_all
theorem nameB_some (s : ByteArray) (rs : List Nat) (h : runesOf s.data.toList = some rs) : nameB s = (decide (1 ≤ rs.length ∧ rs.length ≤ 20) && !keyB s && okFrom true rs) := by
 unfold nameB countN; rw [h]; rfl
theorem okFrom_bad {acc rest : List Nat} {c : Nat} (h1 : letB c = false) (h2 : digB c = false) (b : Bool) : okFrom b (acc ++ c :: rest) = false := by
 rw [okFrom_append]; simp [okFrom, h1, h2]
theorem split_at (rs : List Nat) (k : Nat) (h : k < rs.length) : rs = rs.take k ++ rs.getD k 0 :: rs.drop (k + 1) := by
 rw [List.getD_eq_getElem?_getD, List.getElem?_eq_getElem h, Option.getD_some]
 exact (List.take_append_drop k rs).symm.trans (by rw [List.drop_eq_getElem_cons h])
def okTo (rs : List Nat) (k : Nat) : Prop := okFrom true (rs.take k) = true
theorem okTo_step {rs : List Nat} {k : Nat} (h : okTo rs k) (h1 : 1 ≤ k) (hk : k < rs.length) (hc : letB (rs.getD k 0) = true ∨ digB (rs.getD k 0) = true) : okTo rs (k + 1) := by
  unfold okTo at h ⊢
  have e : rs.take (k + 1) = rs.take k ++ [rs.getD k 0] := by
    rw [List.take_succ_eq_append_getElem hk, List.getD_eq_getElem?_getD, List.getElem?_eq_getElem hk, Option.getD_some]
  rw [e, okFrom_append, h]
  have e2 : (rs.take k).isEmpty = false := by
    cases e3 : rs.take k with
    | nil => have : (rs.take k).length = 0 := by rw [e3]; rfl
             rw [List.length_take] at this; omega
    | cons a r => rfl
  generalize rs.getD k 0 = c at *
  rcases hc with hc | hc <;> simp [okFrom, e2, hc]
theorem okTo_bad {rs : List Nat} {k : Nat} (hk : k < rs.length) (h1 : letB (rs.getD k 0) = false) (h2 : digB (rs.getD k 0) = false) : okFrom true rs = false := by
 rw [split_at rs k hk]; exact okFrom_bad h1 h2 _
set_option maxHeartbeats 2000000 in
theorem rfname_any (s : ByteArray) (w : World) (hs : s.size ≤ 20000) :
  Calls Tryz.prog 40 #[.string s] w fun e w' => e = .returned (.bool (nameB s)) ∧ Below w.heap.size w w' := by
 cases hr : runesOf s.data.toList with
 | none =>
  have HX : Hid (false = nameB s) := by show false = _; unfold nameB countN; rw [hr]; rfl
  have HV : Hid (validB s.data.toList = false) := by show _ = _; unfold validB; rw [hr]; rfl
  clear hr
  go_enter Tryz.func40, Tryz.ntmps40
  go_wp2_with fail
  refine (rall_any s _ hs).mono ?_
  rintro e w1 ⟨v, rfl, _, h1⟩
  rw [HV.out]
  go_wp2_with fail
  go_ret
  exact ⟨ret_bool HX.out, h1⟩
 | some rs =>
  have HX : Hid (nameB s = (decide (1 ≤ rs.length ∧ rs.length ≤ 20) && !keyB s && okFrom true rs)) := nameB_some s rs hr
  have HV : Hid (validB s.data.toList = true) := by show _ = _; unfold validB; rw [hr]; rfl
  have HC : Hid (countN s.data.toList = rs.length) := by show _ = _; unfold countN; rw [hr]; rfl
  have HR : Hid ((runesOf s.data.toList).getD [] = rs) := by show _ = _; rw [hr]; rfl
  clear hr
  go_enter Tryz.func40, Tryz.ntmps40
  go_wp2_with fail
  refine (rall_any s _ hs).mono ?_
  rintro e w1 ⟨v, rfl, ho, h1⟩
  rw [HV.out]
  rw [HC.out, HR.out] at ho
  obtain ⟨a, cap, rfl, hc⟩ := owns_form ho
  clear ho
  by_cases g1 : rs.length < 1
  ·have hd1 : decide ((rs.length : Int) < 1) = true := by simp; omega
   have HF : Hid (false = nameB s) := by show false = _; rw [HX.out]; simp; omega
   generalize rs.length = n at *
   clear hc
   go_wp2_with fail
   go_ret
   exact ⟨ret_bool HF.out, h1⟩
  ·have hd1 : decide ((rs.length : Int) < 1) = false := by simp; omega
   by_cases g2 : 20 < rs.length
   ·have hd2 : decide (20 < (rs.length : Int)) = true := by simp; omega
    have HF : Hid (false = nameB s) := by show false = _; rw [HX.out]; simp; omega
    clear hc
    generalize rs.length = n at *
    go_wp2_with fail
    go_ret
    exact ⟨ret_bool HF.out, h1⟩
   ·have hd2 : decide (20 < (rs.length : Int)) = false := by simp; omega
    obtain ⟨g, rfl, hcell⟩ := hc (by omega)
    have hcl : ∀ j, j < rs.length → w1.cell? ⟨g, j, none⟩ = some (.int .i32 ((rs.getD j 0 : Nat) : Int)) := fun j hj => by
     rw [hcell j hj]; simp [runeCells, List.getD_eq_getElem?_getD, List.getElem?_eq_getElem hj]
    have HCL : Hid (∀ j, j < rs.length → w1.cell? ⟨g, j, none⟩ = some (.int .i32 ((rs.getD j 0 : Nat) : Int))) := hcl
    have hc0 := hcl 0 (by omega)
    clear hcell hcl hc
    have HL : Hid (rs.length = rs.length) := rfl
    have hn1 : 1 ≤ rs.length := by omega
    have hn2 : rs.length ≤ 20 := by omega
    have H0 : Hid (letB ((rs.getD 0 0 : Nat) : Int) = true → okTo rs 1) := fun hh => by
     unfold okTo
     have : rs.take 1 = [rs.getD 0 0] := by
      match rs, hn1 with
      | c :: r, _ => rfl
     rw [this]
     generalize rs.getD 0 0 = c at *
     simp [okFrom, hh]
    have H0f : Hid (letB ((rs.getD 0 0 : Nat) : Int) = false → okFrom true rs = false) := fun hh => by
     match rs, hn1, hh with
     | c :: r, _, hh => simp only [List.getD_cons_zero] at hh; simp [okFrom, hh]
    have HD : Hid (okTo rs rs.length → okFrom true rs = true) := fun hh => by unfold okTo at hh; simpa using hh
    have HK : Hid (∀ k, k < rs.length → letB ((rs.getD k 0 : Nat) : Int) = false → digB ((rs.getD k 0 : Nat) : Int) = false → okFrom true rs = false) := fun k hk a b => okTo_bad hk a b
    have HS : Hid (∀ k, okTo rs k → 1 ≤ k → k < rs.length → letB ((rs.getD k 0 : Nat) : Int) = true ∨ digB ((rs.getD k 0 : Nat) : Int) = true → okTo rs (k + 1)) := fun k a b c d => okTo_step a b c d
    have HF : Hid (okFrom true rs = false → false = nameB s) := fun hh => by rw [HX.out, hh]; simp
    have HFK : Hid (keyB s = true → false = nameB s) := fun hh => by rw [HX.out, hh]; simp
    have HT : Hid (keyB s = false → okFrom true rs = true → true = nameB s) := fun a b => by rw [HX.out, a, b]; simp; omega
    generalize rs.length = n at *
    clear HX HV HC HR HL
    generalize hc0e : ((rs.getD 0 0 : Nat) : Int) = c0 at hc0 H0 H0f
    clear hc0e
    go_wp2_with fail
    refine (rletter_any _ _).mono ?_
    rintro e w2 ⟨rfl, rfl⟩
    cases hl0 : letB c0 with
    | false =>
     go_wp2_with fail
     go_ret
     exact ⟨ret_bool (HF.out (H0f.out hl0)), h1⟩
    | true =>
     have HO : Hid (okTo rs 1) := H0.out hl0
     go_wp2_with fail
     refine (rkey_any _ _).mono ?_
     rintro e w3 ⟨rfl, rfl⟩
     cases hk : keyB s with
     | true =>
      go_wp2_with fail
      go_ret
      exact ⟨ret_bool (HFK.out hk), h1⟩
     | false =>
      have HKF : Hid (keyB s = false) := hk
      clear hk hl0 hc0
      go_wp2_with fail
      go_loop [5] (fun i => ∃ k : Nat, 1 ≤ k ∧ k ≤ n ∧ i = .int .i64 k ∧ Hid (okTo rs k)) (fun i => n - (intOf i).toNat)
      case atStart => exact ⟨1, by omega, by omega, rfl, HO⟩
      case round =>
       obtain ⟨k, hk1, hk2, rfl, HOk⟩ := hrel
       by_cases hlt : k < n
       ·have hck := HCL.out k hlt
        have HSk : Hid (letB ((rs.getD k 0 : Nat) : Int) = true ∨ digB ((rs.getD k 0 : Nat) : Int) = true → okTo rs (k + 1)) := HS.out k HOk.out hk1 hlt
        have HKk : Hid (letB ((rs.getD k 0 : Nat) : Int) = false → digB ((rs.getD k 0 : Nat) : Int) = false → okFrom true rs = false) := HK.out k hlt
        generalize hce : ((rs.getD k 0 : Nat) : Int) = c at hck HSk HKk
        clear hce
        go_wp2_with fail
        refine (rletter_any _ _).mono ?_
        rintro e w4 ⟨rfl, rfl⟩
        cases hl : letB c with
        | true =>
         go_wp2_with fail
         go_round
         case rel => exact ⟨k + 1, by omega, by omega, by go_num, HSk.out (.inl hl)⟩
         case measure => simp [intOf]; omega
        | false =>
         go_wp2_with fail
         refine (rdigit_any _ _).mono ?_
         rintro e w5 ⟨rfl, rfl⟩
         cases hdg : digB c with
         | true =>
          go_wp2_with fail
          go_round
          case rel => exact ⟨k + 1, by omega, by omega, by go_num, HSk.out (.inr hdg)⟩
          case measure => simp [intOf]; omega
         | false =>
          go_wp2_with fail
          go_ret
          exact ⟨ret_bool (HF.out (HKk.out hl hdg)), h1⟩
       ·obtain rfl : k = n := by omega
        go_wp2_with fail
        go_ret
        exact ⟨ret_bool (HT.out HKF.out (HD.out HOk.out)), h1⟩
set_option maxHeartbeats 1000000 in
theorem rword_any (s : ByteArray) (p : Nat) (dg : Bool) (w : World) (hs : s.size ≤ 140737488351232) (hp : p ≤ s.size) :
  Calls Tryz.prog 80 #[.string s, .int .i64 (p : Int), .bool dg] w fun e w' => e = .returned (.int .i64 ((p + runN (if dg = true then 2 else 1) (s.data.toList.drop p) : Nat) : Int)) ∧ w' = w := by
 obtain ⟨K, hK⟩ : ∃ K, (if dg = true then 2 else 1) = K := ⟨_, rfl⟩
 rw [hK]
 obtain ⟨E, hE⟩ : ∃ E, p + runN K (s.data.toList.drop p) = E := ⟨_, rfl⟩
 rw [hE]
 have HE : Hid (p + runN K (s.data.toList.drop p) = E) := hE
 have HG1 : Hid (∀ c : Nat, digB c = true → goesB K c = true) := fun c h => by rw [← hK]; cases dg <;> simp [goesB, h]
 have HG2 : Hid (dg = true → ∀ c : Nat, digB c = false → goesB K c = false) := fun hd c h => by rw [← hK, hd]; simp [goesB, h]
 have HG3 : Hid (dg = false → ∀ c : Nat, letB c = true → goesB K c = true) := fun hd c h => by rw [← hK, hd]; simp [goesB, h]
 have HG4 : Hid (dg = false → ∀ c : Nat, digB c = false → letB c = false → goesB K c = false) := fun hd c h h2 => by rw [← hK, hd]; simp [goesB, h, h2]
 clear hE hK
 go_enter Tryz.func80, Tryz.ntmps80
 go_wp2_with fail
 go_loop [1] (fun iv => ∃ i : Nat, iv = .int .i64 (i : Int) ∧ i ≤ s.size ∧ Hid (i + runN K (s.data.toList.drop i) = E)) (fun iv => s.size - (intOf iv).toNat)
 case atStart => exact ⟨p, rfl, hp, HE⟩
 case round =>
  obtain ⟨i, rfl, hi, HI⟩ := hrel
  have HA : Hid (atL s i = s.data.toList.drop i) := by rw [atL_in s i (by omega), Int.toNat_natCast]; rfl
  go_wp2_with fail
  refine (rnext_any s _ _ hs).mono ?_
  rintro e w1 ⟨rfl, rfl⟩
  rw [HA.out]
  clear HA
  generalize hx : nxL (s.data.toList.drop i) = x
  cases x with
  | none =>
   have HN : Hid (i = E) := by
    show _ = _
    rw [← HI.out, runN_stop0 (contB_none hx)]; rfl
   simp only [nxV]
   clear hx
   go_wp2_with fail
   go_ret
   exact ⟨ret_int (by rw [HN.out]), rfl⟩
  | some x =>
   obtain ⟨c, m⟩ := x
   have hm := nx_len hx
   rw [List.length_drop, len_data] at hm
   have HS : Hid (goesB K c = true → i + m + runN K (s.data.toList.drop (i + m)) = E) := fun h => by
    have := runN_yes hx h
    rw [List.drop_drop] at this
    have h9 := HI.out
    omega
   have HF : Hid (goesB K c = false → i = E) := fun h => by
    have := runN_stop0 (l := s.data.toList.drop i) (k := K) (by rw [contB_yes hx]; exact h)
    have h9 := HI.out
    omega
   simp only [nxV]
   clear hx
   go_wp2_with fail
   refine (rdigit_any _ _).mono ?_
   rintro e w2 ⟨rfl, rfl⟩
   cases hdg : digB c with
   | true =>
    have HN := HS.out (HG1.out c hdg)
    have HN' : Hid (i + m + runN K (s.data.toList.drop (i + m)) = E) := HN
    clear HN HS HF hdg
    go_wp2_with fail
    go_round
    case rel => exact ⟨i + m, by go_num, by omega, HN'⟩
    case measure => simp [intOf]; omega
   | false =>
    have HDG : Hid (digB c = false) := hdg
    clear hdg
    cases hd : dg with
    | true =>
     have HN : Hid (i = E) := HF.out (HG2.out hd c HDG.out)
     subst hd
     clear HS HF
     go_wp2_with fail
     go_ret
     exact ⟨ret_int (by rw [HN.out]), rfl⟩
    | false =>
     have HG3' := HG3.out hd c
     have HG4' := HG4.out hd c HDG.out
     have G3 : Hid (letB c = true → goesB K c = true) := HG3'
     have G4 : Hid (letB c = false → goesB K c = false) := HG4'
     clear HG3' HG4'
     subst hd
     go_wp2_with fail
     refine (rletter_any _ _).mono ?_
     rintro e w3 ⟨rfl, rfl⟩
     cases hl : letB c with
     | true =>
      have HN' : Hid (i + m + runN K (s.data.toList.drop (i + m)) = E) := HS.out (G3.out hl)
      clear HS HF hl
      go_wp2_with fail
      go_round
      case rel => exact ⟨i + m, by go_num, by omega, HN'⟩
      case measure => simp [intOf]; omega
     | false =>
      have HN : Hid (i = E) := HF.out (G4.out hl)
      clear HS HF hl
      go_wp2_with fail
      go_ret
      exact ⟨ret_int (by rw [HN.out]), rfl⟩
set_option maxHeartbeats 1000000 in
theorem rfnumber_any (s : ByteArray) (w : World) (hs : s.size ≤ 140737488351232) :
  Calls Tryz.prog 121 #[.string s] w fun e w' => e = .returned (.tuple #[.int .i64 ((numA s.data.toList).1 : Int), .bool (numA s.data.toList).2]) ∧ w' = w := by
 obtain ⟨R, hR⟩ : ∃ R, numA s.data.toList = R := ⟨_, rfl⟩
 rw [hR]
 have HR : Hid (numA s.data.toList = R) := hR
 clear hR
 by_cases h1 : s.size < 1
 ·have : R = (0, false) := by rw [← HR.out]; exact numA_none (.inl (by rw [len_data]; exact h1))
  subst this
  have hd1 : decide ((s.size : Int) < 1) = true := by simp; omega
  clear HR
  go_enter Tryz.func121, Tryz.ntmps121
  go_wp2_with fail
  go_ret2
  exact ⟨rfl, rfl⟩
 ·have hd1 : decide ((s.size : Int) < 1) = false := by simp; omega
  by_cases h2 : 10 < s.size
  ·have : R = (0, false) := by rw [← HR.out]; exact numA_none (.inr (.inl (by rw [len_data]; exact h2)))
   subst this
   have hd2 : decide (10 < (s.size : Int)) = true := by simp; omega
   clear HR
   go_enter Tryz.func121, Tryz.ntmps121
   go_wp2_with fail
   go_ret2
   exact ⟨rfl, rfl⟩
  ·have hd2 : decide (10 < (s.size : Int)) = false := by simp; omega
   have hb0 : 0 < s.size := by omega
   by_cases h3 : 1 < s.size ∧ headN s.data.toList = 48
   ·have : R = (0, false) := by rw [← HR.out]; exact numA_none (.inr (.inr (by rw [len_data]; exact h3)))
    subst this
    have hd3 : decide (1 < (s.size : Int)) = true := by simp; omega
    have hb : ((s[0].toNat : Int) == 48) = true := by rw [beq_iff_eq, ← head_byte s hb0, h3.2]; rfl
    clear HR h3
    go_enter Tryz.func121, Tryz.ntmps121
    go_wp2_with fail
    go_ret2
    exact ⟨rfl, rfl⟩
   ·have HN : Hid (¬ (s.size < 1 ∨ 10 < s.size ∨ (1 < s.size ∧ headN s.data.toList = 48))) := by
     rintro (h | h | h)
     ·exact h1 h
     ·exact h2 h
     ·exact h3 h
    have hgo : (decide (1 < (s.size : Int)) = false) ∨ (decide (1 < (s.size : Int)) = true ∧ ((s[0].toNat : Int) == 48) = false) := by
     by_cases h : 1 < s.size
     ·right
      refine ⟨by simp; omega, ?_⟩
      rw [beq_eq_false_iff_ne, ← head_byte s hb0]
      intro e
      exact h3 ⟨h, by omega⟩
     ·left; simp; omega
    have hle : s.size ≤ 10 := by omega
    clear h3 h2
    rcases hgo with hd3 | ⟨hd3, hb⟩
    all_goals
     go_enter Tryz.func121, Tryz.ntmps121
     go_wp2_with fail
     go_loop [4, 5] (fun nv iv => ∃ (pos v : Nat), nv = .int .i64 (v : Int) ∧ iv = .int .i64 (pos : Int) ∧ pos ≤ s.size ∧ v < 10000000000 ∧ Hid (NumAt s.data.toList pos v)) (fun _ iv => s.size - (intOf iv).toNat)
     case atStart => exact ⟨0, 0, rfl, rfl, by omega, by omega, NumAt.start _⟩
     case round =>
      obtain ⟨pos, v, rfl, rfl, hps, hv, H⟩ := hrel
      by_cases hlt : pos < s.size
      ·cases hdu : digU s[pos] with
       | false =>
        have : R = (0, false) := by rw [← HR.out]; exact H.out.bad hlt hdu
        subst this
        have hcb : s[pos].toNat < 48 ∨ 57 < s[pos].toNat := by
         unfold digU at hdu
         simp only [decide_eq_false_iff_not] at hdu
         omega
        clear HR hdu H
        rcases hcb with hcb | hcb
        ·have hq : decide ((s[pos].toNat : Int) < 48) = true := by simp; omega
         go_wp2_with fail
         go_ret2
         exact ⟨rfl, rfl⟩
        ·have hq : decide ((s[pos].toNat : Int) < 48) = false := by simp; omega
         have hq2 : decide (57 < (s[pos].toNat : Int)) = true := by simp; omega
         go_wp2_with fail
         go_ret2
         exact ⟨rfl, rfl⟩
       | true =>
        have hstep := H.out.step hlt hdu
        have HS : Hid (NumAt s.data.toList (pos + 1) (10 * v + (s[pos].toNat - 48))) := hstep
        have hvb := hstep.bd (by omega)
        have hcb : 48 ≤ s[pos].toNat ∧ s[pos].toNat ≤ 57 := by
         unfold digU at hdu
         simp only [decide_eq_true_eq] at hdu
         omega
        have hv2 : v < 1000000000 := by omega
        clear hdu H hstep
        have hq : decide ((s[pos].toNat : Int) < 48) = false := by simp; omega
        have hq2 : decide (57 < (s[pos].toNat : Int)) = false := by simp; omega
        go_wp2_with fail
        go_round
        case rel => exact ⟨pos + 1, 10 * v + (s[pos].toNat - 48), by congr 1; omega, by go_num, by omega, hvb, HS⟩
        case measure => simp [intOf]; omega
      ·have : R = (v, true) := by rw [← HR.out]; exact H.out.done (by omega) HN.out
       subst this
       clear HR
       go_wp2_with fail
       go_ret2
       exact ⟨rfl, rfl⟩
structure Rf (w : World) (g : Nat) (V : Value) (ts : List Tk) (σ : Sg) : Prop where
 blk : w.heap[g]? = some (.cells #[V, .int .i64 ((ts.length - leftS σ : Nat) : Int), .bool (badS σ)] 80 (0, 0))
 left : leftS σ ≤ ts.length
 rest : ∀ r, σ = .inr r → r = (ts.map Tk.bytes).drop (ts.length - r.length)
 row : ∃ a cap, V = .slice a ts.length cap ∧ ts.length ≤ cap ∧ cap ≤ maxLen ∧ (ts ≠ [] → ∃ q, a = some ⟨q, 0, none⟩ ∧ q < g) ∧ HoldsT w a ts
 small : ∀ t ∈ ts, t.bytes.size ≤ 20000
 few : ts.length ≤ 100000
theorem Rf.lt {w : World} {g : Nat} {V : Value} {ts : List Tk} {σ : Sg} (h : Rf w g V ts σ) : g < w.heap.size := (Array.getElem?_eq_some_iff.1 h.blk).1
theorem Rf.kp {S : Nat → Prop} {w w' : World} {g : Nat} {V : Value} {ts : List Tk} {σ : Sg} (h : Rf w g V ts σ) (hk : Kp S w w') (hs : ∀ k, k ≤ g → ¬ S k) : Rf w' g V ts σ := by
 obtain ⟨a, cap, h1, h2, h3, h4, h5⟩ := h.row
 refine ⟨(hk.block g h.lt (hs g (Nat.le_refl _))).trans h.blk, h.left, h.rest, ⟨a, cap, h1, h2, h3, h4, ?_⟩, h.small, h.few⟩
 by_cases hne : ts = []
 ·subst hne; exact HoldsT.nil
 refine h5.kp hk ?_
 intro b hb'
 obtain ⟨q, hq, hqg⟩ := h4 hne
 rw [hb'] at hq
 cases hq
 exact hs q (by omega)
theorem Rf.below {w w' : World} {g : Nat} {V : Value} {ts : List Tk} {σ : Sg} (h : Rf w g V ts σ) (hb : Below w.heap.size w w') : Rf w' g V ts σ := h.kp (S := fun _ => False) (Kp.ofBelow hb) (fun _ _ e => e)
theorem Rf.alloc {w : World} {g : Nat} {V : Value} {ts : List Tk} {σ : Sg} (h : Rf w g V ts σ) (o : Obj) : Rf (w.alloc o) g V ts σ := h.below ((Below.refl _ _).alloc (Nat.le_refl _) _)
theorem Rf.other {w : World} {g : Nat} {V : Value} {ts : List Tk} {σ : Sg} (h : Rf w g V ts σ) {p : Addr} (hp : g < p.block) (u : Value) : Rf (w.setCell p u) g V ts σ :=
 h.kp (S := fun k => k = p.block) (Kp.setCell (S := fun k => k = p.block) (Kp.refl _ w) (fun _ => rfl) u) (fun k hk e => by omega)
theorem Rf.turn {w : World} {g : Nat} {V : Value} {ts : List Tk} {σ σ' : Sg} (h : Rf w g V ts σ) (i : Nat) (u : Value)
  (hb : (#[V, .int .i64 ((ts.length - leftS σ : Nat) : Int), .bool (badS σ)] : Array Value).setIfInBounds i u = #[V, .int .i64 ((ts.length - leftS σ' : Nat) : Int), .bool (badS σ')])
  (hl : leftS σ' ≤ ts.length) (hr : ∀ r, σ' = .inr r → r = (ts.map Tk.bytes).drop (ts.length - r.length)) : Rf (w.setCell ⟨g, i, none⟩ u) g V ts σ' := by
 obtain ⟨a, cap, h1, h2, h3, h4, h5⟩ := h.row
 have hk : Kp (fun k => k = g) w (w.setCell ⟨g, i, none⟩ u) := Kp.setCell (S := fun k => k = g) (Kp.refl _ w) (p := ⟨g, i, none⟩) (fun _ => rfl) u
 refine ⟨?_, hl, hr, ⟨a, cap, h1, h2, h3, h4, ?_⟩, h.small, h.few⟩
 ·rw [block_set h.blk i u, hb]
 ·by_cases hne : ts = []
  ·subst hne; exact HoldsT.nil
  refine h5.kp hk ?_
  intro b hb' e
  obtain ⟨q, hq, hqg⟩ := h4 hne
  rw [hb'] at hq
  cases hq
  simp only at e
  omega
theorem Rf.open {w : World} {g : Nat} {V : Value} {ts : List Tk} {σ : Sg} (h : Rf w g V ts σ) : ∃ n, n + leftS σ = ts.length ∧ ts.length ≤ 9223372036854775807 ∧ w.cell? ⟨g, 0, none⟩ = some V ∧ w.cell? ⟨g, 1, none⟩ = some (.int .i64 (n : Int)) ∧ w.cell? ⟨g, 2, none⟩ = some (.bool (badS σ)) ∧
  w.frozen? ⟨g, 1, none⟩ = false ∧ w.frozen? ⟨g, 2, none⟩ = false := by
 obtain ⟨a, cap, h1, h2, h3, h4, h5⟩ := h.row
 have hl := h.left
 refine ⟨ts.length - leftS σ, by omega, by unfold maxLen at h3; omega, ?_, ?_, ?_, block_froz h.blk 1, block_froz h.blk 2⟩
 ·rw [block_cell h.blk]; rfl
 ·rw [block_cell h.blk]; rfl
 ·rw [block_cell h.blk]; rfl
theorem Rf.next {w : World} {g : Nat} {V : Value} {ts : List Tk} {t : ByteArray} {r : List ByteArray} (h : Rf w g V ts (.inr (t :: r))) {n : Nat} (hn : n + leftS (.inr (t :: r)) = ts.length) {u : Value} (hu : u = .int .i64 ((n + 1 : Nat) : Int)) : Rf (w.setCell ⟨g, 1, none⟩ u) g V ts (.inr r) := by
 have hl := h.left
 have hr := h.rest _ rfl
 simp only [leftS, List.length_cons] at hl hn hr
 refine h.turn 1 u ?_ (by simp only [leftS]; omega) ?_
 ·rw [hu]
  have e : ts.length - leftS (.inr r) = n + 1 := by simp only [leftS]; omega
  rw [e]; rfl
 ·intro r' hr'
  simp only [Sum.inr.injEq] at hr'
  subst hr'
  have e1 : ts.length - r.length = (ts.length - (r.length + 1)) + 1 := by omega
  rw [e1, ← List.drop_drop, ← hr]
  rfl
theorem Rf.wrong {w : World} {g : Nat} {V : Value} {ts : List Tk} {σ : Sg} (h : Rf w g V ts σ) : Rf (w.setCell ⟨g, 2, none⟩ (.bool true)) g V ts (.inl (leftS σ)) :=
 h.turn 2 _ rfl h.left (fun r hr => by cases hr)
theorem Rf.at {w : World} {g : Nat} {V : Value} {ts : List Tk} {t : ByteArray} {r : List ByteArray} (h : Rf w g V ts (.inr (t :: r))) {n : Nat} (hn : n + leftS (.inr (t :: r)) = ts.length) :
  ∃ q cap, V = .slice (some ⟨q, 0, none⟩) ts.length cap ∧ ts.length ≤ cap ∧ cap ≤ 9223372036854775807 ∧ w.cell? ⟨q, n * 3 + 1, none⟩ = some (.string t) ∧ t.size ≤ 20000 := by
 obtain ⟨a, cap, h1, h2, h3, h4, h5⟩ := h.row
 have hr := h.rest _ rfl
 simp only [leftS, List.length_cons] at hn hr
 have hlt : n < ts.length := by omega
 have e1 : ts.length - (r.length + 1) = n := by omega
 rw [e1] at hr
 have hne : ts ≠ [] := by intro e; subst e; simp at hlt
 obtain ⟨q, rfl, _⟩ := h4 hne
 have hg : ts[n]? = some ts[n] := List.getElem?_eq_getElem hlt
 have ht : t = (ts[n]).bytes := by
  have := congrArg (fun l => l[0]?) hr
  simp only [List.getElem?_cons_zero, List.getElem?_drop, List.getElem?_map, Nat.add_zero, hg, Option.map_some, Option.some.injEq] at this
  exact this
 obtain ⟨_, b2, b3⟩ := h5.at0 hg
 refine ⟨q, cap, h1, h2, by unfold maxLen at h3; omega, by rw [ht]; exact b2, ?_⟩
 rw [ht]
 exact h.small _ (List.getElem_mem hlt)
theorem Rf.form {w : World} {g : Nat} {V : Value} {ts : List Tk} {σ : Sg} (h : Rf w g V ts σ) : ∃ a cap, V = .slice a ts.length cap := by
 obtain ⟨a, cap, h1, _⟩ := h.row
 exact ⟨a, cap, h1⟩
theorem Rf.head {w : World} {g : Nat} {V : Value} {ts : List Tk} {σ : Sg} (h : Rf w g V ts σ) : (headS σ).size ≤ 20000 := by
 match σ, h with
 | .inl n, h => simp only [headS, noT]; decide
 | .inr [], h => simp only [headS, noT]; decide
 | .inr (t :: r), h =>
  obtain ⟨n, hn, _⟩ := h.open
  obtain ⟨_, _, _, _, _, _, hs⟩ := h.at hn
  exact hs
def msrf (g N : Nat) (w : World) : Nat := 2 * (N - (intOf ((w.cell? ⟨g, 1, none⟩).getD undef)).toNat) + flagOf (w.cell? ⟨g, 2, none⟩)
theorem msr_rf {w : World} {g : Nat} {V : Value} {ts : List Tk} {σ : Sg} (h : Rf w g V ts σ) : msrf g ts.length w = weigh σ := by
 obtain ⟨n, hn, hm, c0, c1, c3, f1, f3⟩ := h.open
 unfold msrf weigh
 rw [c1, c3]
 simp only [Option.getD_some, intOf, Int.toNat_natCast]
 have : ts.length - n = leftS σ := by omega
 rw [this]
 cases badS σ <;> rfl
set_option maxHeartbeats 1000000 in
theorem rtext_any {w : World} {g : Nat} {V : Value} {ts : List Tk} {σ : Sg} (h : Rf w g V ts σ) :
    Calls Tryz.prog 83 #[.pointer (some ⟨g, 0, none⟩)] w fun e w' => e = .returned (.string (headS σ)) ∧ Below w.heap.size w w' := by
  obtain ⟨n, hn, hm, c0, c1, c3, f1, f3⟩ := h.open
  cases σ with
  | inl m =>
    obtain ⟨a, cap, rfl⟩ := h.form
    simp only [badS] at c3
    clear h hn
    simp only [headS, noT]
    generalize ts.length = N at *
    go_enter Tryz.func83, Tryz.ntmps83
    go_wp2_with fail
    go_quiet (fail)
    go_wp2_with fail
    go_ret
    exact ⟨rfl, below_drewN _ (Below.refl _ _)⟩
  | inr rr =>
   cases rr with
   | nil =>
    obtain ⟨a, cap, rfl⟩ := h.form
    simp only [badS, leftS, List.length_nil, Nat.add_zero] at c3 hn
    subst hn
    clear h
    simp only [headS, noT]
    generalize ts.length = N at *
    go_enter Tryz.func83, Tryz.ntmps83
    go_wp2_with fail
    go_quiet (fail)
    go_wp2_with fail
    go_ret
    exact ⟨rfl, below_drewN _ (Below.refl _ _)⟩
   | cons t r =>
    obtain ⟨q, cap, rfl, hcap, hcap2, b2, _⟩ := h.at hn
    simp only [badS] at c3
    simp only [leftS, List.length_cons] at hn
    have hlt : n < ts.length := by omega
    clear h
    simp only [headS]
    generalize ts.length = N at *
    clear hn
    have hge : decide (N ≤ n) = false := by simp; omega
    go_enter Tryz.func83, Tryz.ntmps83
    go_wp2_with fail
    go_quiet (fail)
    go_wp2_with fail
    go_quiet (fail)
    go_wp2_with fail
    go_ret
    exact ⟨rfl, below_drewN _ (below_drewN _ (Below.refl _ _))⟩
set_option maxHeartbeats 1000000 in
theorem ris_any {w : World} {g : Nat} {V : Value} {ts : List Tk} {σ : Sg} (k : ByteArray) (h : Rf w g V ts σ) (hne : anyS [k] noT = false) :
  Calls Tryz.prog 82 #[.pointer (some ⟨g, 0, none⟩), .string k] w fun e w' => e = .returned (.bool (anyS [k] (headS σ))) ∧ Rf w' g V ts (stX (pOn σ (pTake [k]))) ∧ Kp (fun k => k = g) w w' := by
 rcases take_cases [k] σ hne with ⟨t, r, rfl, e1, e2, e3, e4⟩ | ⟨e1, e2, e3, e4, e5⟩
 ·rw [e1, show anyS [k] (headS (.inr (t :: r))) = true from e3]
  simp only [stX]
  have hd : (t.toList == k.toList) = true := by
   rw [str_beq]
   simp only [anyS, List.any_cons, List.any_nil, Bool.or_false, beq_iff_eq] at e3 ⊢
   exact e3.symm
  clear e1 e2 e3 e4 hne
  go_enter Tryz.func82, Tryz.ntmps82
  go_wp2_with fail
  refine (rtext_any h).mono ?_
  rintro e w1 ⟨rfl, hb1⟩
  have h1 := h.below hb1
  simp only [headS]
  obtain ⟨n, hn, hm, c0, c1, c3, f1, f3⟩ := h1.open
  have hn' := hn
  simp only [leftS, List.length_cons] at hn'
  have hn2 : n < 9223372036854775807 := by omega
  have HR : Hid (∀ u : Value, u = .int .i64 ((n + 1 : Nat) : Int) → Rf (w1.setCell ⟨g, 1, none⟩ u) g V ts (.inr r)) := fun u hu => h1.next hn hu
  have HK : Hid (Kp (fun k => k = g) w w1) := Kp.ofBelow hb1
  clear h1 h hn hn' hm c0 c3 f3 hb1
  go_wp2_with fail
  go_ret
  exact ⟨rfl, HR.out _ rfl, HK.out.setCell (fun _ => rfl) _⟩
 ·rw [e1, e5]
  have hd : ((headS σ).toList == k.toList) = false := by
   rw [str_beq]
   simp only [anyS, List.any_cons, List.any_nil, Bool.or_false, beq_eq_false_iff_ne] at e5 ⊢
   exact fun e => e5 e.symm
  clear e1 e2 e3 e4 e5 hne
  go_enter Tryz.func82, Tryz.ntmps82
  go_wp2_with fail
  refine (rtext_any h).mono ?_
  rintro e w1 ⟨rfl, hb1⟩
  have h1 := h.below hb1
  have HK : Hid (Kp (fun k => k = g) w w1) := Kp.ofBelow hb1
  generalize headS σ = x at *
  go_wp2_with fail
  go_ret
  exact ⟨rfl, h1, HK.out⟩
theorem results_none' {fn : Func} (h : fn.results = #[]) (tmps : Array Value) (P : Program) (w : World) : (results fn tmps).run P w = .ok (.tuple #[]) w := by
 simp [results, h]
set_option maxHeartbeats 1000000 in
theorem rmust_any {w : World} {g : Nat} {V : Value} {ts : List Tk} {σ : Sg} (k : ByteArray) (h : Rf w g V ts σ) (hne : anyS [k] noT = false) :
  Calls Tryz.prog 37 #[.pointer (some ⟨g, 0, none⟩), .string k] w fun e w' => e = .returned (.tuple #[]) ∧ Rf w' g V ts (stX (pOn σ (pMust k))) ∧ Kp (fun k => k = g) w w' := by
 have HI : Hid (Calls Tryz.prog 82 #[.pointer (some ⟨g, 0, none⟩), .string k] w fun e w' => e = .returned (.bool (anyS [k] (headS σ))) ∧ Rf w' g V ts (stX (pOn σ (pTake [k]))) ∧ Kp (fun k => k = g) w w') := ris_any k h hne
 rw [← one_must]
 rcases take_cases [k] σ hne with ⟨t, r, rfl, e1, e2, e3, e4⟩ | ⟨e1, e2, e3, e4, e5⟩
 ·rw [e1, show anyS [k] (headS (.inr (t :: r))) = true from e3] at HI
  rw [e2]
  simp only [stX] at HI ⊢
  clear e1 e2 e3 e4 hne h
  go_enter Tryz.func37, Tryz.ntmps37
  go_wp2_with fail
  refine HI.out.mono ?_
  rintro e w1 ⟨rfl, h1, k1⟩
  go_wp2_with fail
  refine bodyPost_end (results_none' rfl _ _ _) rfl ?_
  exact ⟨rfl, h1, k1⟩
 ·rw [e1, e5] at HI
  rw [e3]
  clear e1 e2 e3 e4 e5 hne h
  go_enter Tryz.func37, Tryz.ntmps37
  go_wp2_with fail
  refine HI.out.mono ?_
  rintro e w1 ⟨rfl, h1, k1⟩
  obtain ⟨n, hn, hm, c0, c1, c3, f1, f3⟩ := h1.open
  have HR : Hid (Rf (w1.setCell ⟨g, 2, none⟩ (.bool true)) g V ts (.inl (leftS σ))) := h1.wrong
  clear h1 hn hm c0 c1 f1
  go_wp2_with fail
  refine bodyPost_end (results_none' rfl _ _ _) rfl ?_
  exact ⟨rfl, HR.out, k1.setCell (fun _ => rfl) _⟩
set_option maxHeartbeats 1000000 in
theorem pname_any {w : World} {g : Nat} {V : Value} {ts : List Tk} {σ : Sg} (h : Rf w g V ts σ) :
  Calls Tryz.prog 38 #[.pointer (some ⟨g, 0, none⟩)] w fun e w' => e = .returned (.string (res noT (pOn σ pName))) ∧ Rf w' g V ts (stX (pOn σ pName)) ∧ Kp (fun k => k = g) w w' := by
 have hs := h.head
 rcases name_cases σ with ⟨t, r, rfl, e1, e2⟩ | ⟨e1, e2, e3⟩
 ·rw [e1]
  clear e1
  have e2' : nameB t = true := by rw [nameB_eq]; exact e2
  clear e2
  go_enter Tryz.func38, Tryz.ntmps38
  go_wp2_with fail
  refine (rtext_any h).mono ?_
  rintro e w1 ⟨rfl, hb1⟩
  have h1 := h.below hb1
  go_wp2_with fail
  refine (rfname_any _ _ hs).mono ?_
  rintro e w2 ⟨rfl, hb2⟩
  have h2 := h1.below hb2
  simp only [headS]
  rw [e2']
  obtain ⟨n, hn, hm, c0, c1, c3, f1, f3⟩ := h2.open
  have hn' := hn
  simp only [leftS, List.length_cons] at hn'
  have hn2 : n < 9223372036854775807 := by omega
  have HR : Hid (∀ u : Value, u = .int .i64 ((n + 1 : Nat) : Int) → Rf (w2.setCell ⟨g, 1, none⟩ u) g V ts (.inr r)) := fun u hu => h2.next hn hu
  have HK : Hid (Kp (fun k => k = g) w w2) := (Kp.ofBelow hb1).below hb2
  clear h2 h1 h hn hn' hm c0 c3 f3 e2' hb1 hb2
  go_wp2_with fail
  go_ret
  exact ⟨rfl, HR.out _ rfl, HK.out.setCell (fun _ => rfl) _⟩
 ·rw [e1, e2]
  clear e1 e2
  have e3' : nameB (headS σ) = false := by rw [nameB_eq]; exact e3
  clear e3
  go_enter Tryz.func38, Tryz.ntmps38
  go_wp2_with fail
  refine (rtext_any h).mono ?_
  rintro e w1 ⟨rfl, hb1⟩
  have h1 := h.below hb1
  go_wp2_with fail
  refine (rfname_any _ _ hs).mono ?_
  rintro e w2 ⟨rfl, hb2⟩
  have h2 := h1.below hb2
  rw [e3']
  obtain ⟨n, hn, hm, c0, c1, c3, f1, f3⟩ := h2.open
  have HR : Hid (Rf (w2.setCell ⟨g, 2, none⟩ (.bool true)) g V ts (.inl (leftS σ))) := h2.wrong
  have HK : Hid (Kp (fun k => k = g) w w2) := (Kp.ofBelow hb1).below hb2
  clear h2 h1 h hn hm c0 c1 f1 e3' hb1 hb2
  go_wp2_with fail
  go_ret
  exact ⟨rfl, HR.out, HK.out.setCell (fun _ => rfl) _⟩
set_option maxHeartbeats 1000000 in
theorem pnumber_any {w : World} {g : Nat} {V : Value} {ts : List Tk} {σ : Sg} (h : Rf w g V ts σ) :
  Calls Tryz.prog 85 #[.pointer (some ⟨g, 0, none⟩)] w fun e w' => e = .returned (.int .i64 ((res 0 (pOn σ pNum) : Nat) : Int)) ∧ Rf w' g V ts (stX (pOn σ pNum)) ∧ Kp (fun k => k = g) w w' := by
 have hs : (headS σ).size ≤ 140737488351232 := by have := h.head; omega
 rcases num_cases σ with ⟨t, r, rfl, e1, e2⟩ | ⟨e1, e2, e3⟩
 ·have er : res 0 (.inr ((numA t.data.toList).1, r) : PR Nat) = (numA t.data.toList).1 := rfl
  rw [e1, er]
  simp only [stX]
  obtain ⟨v, hv⟩ : ∃ v, (numA t.data.toList).1 = v := ⟨_, rfl⟩
  rw [hv]
  clear e1 er
  go_enter Tryz.func85, Tryz.ntmps85
  go_wp2_with fail
  refine (rtext_any h).mono ?_
  rintro e w1 ⟨rfl, hb1⟩
  have h1 := h.below hb1
  go_wp2_with fail
  refine (rfnumber_any _ _ hs).mono ?_
  rintro e w2 ⟨rfl, rfl⟩
  simp only [headS]
  rw [e2, hv]
  clear hv
  obtain ⟨n, hn, hm, c0, c1, c3, f1, f3⟩ := h1.open
  have hn' := hn
  simp only [leftS, List.length_cons] at hn'
  have hn2 : n < 9223372036854775807 := by omega
  have HR : Hid (∀ u : Value, u = .int .i64 ((n + 1 : Nat) : Int) → Rf (w2.setCell ⟨g, 1, none⟩ u) g V ts (.inr r)) := fun u hu => h1.next hn hu
  have HK : Hid (Kp (fun k => k = g) w w2) := Kp.ofBelow hb1
  clear h1 h hn hn' hm c0 c3 f3 e2 hb1
  go_wp2_with fail
  go_ret
  exact ⟨rfl, HR.out _ rfl, HK.out.setCell (fun _ => rfl) _⟩
 ·rw [e1, e2]
  clear e1 e2
  go_enter Tryz.func85, Tryz.ntmps85
  go_wp2_with fail
  refine (rtext_any h).mono ?_
  rintro e w1 ⟨rfl, hb1⟩
  have h1 := h.below hb1
  go_wp2_with fail
  refine (rfnumber_any _ _ hs).mono ?_
  rintro e w2 ⟨rfl, rfl⟩
  rw [e3]
  obtain ⟨n, hn, hm, c0, c1, c3, f1, f3⟩ := h1.open
  have HR : Hid (Rf (w2.setCell ⟨g, 2, none⟩ (.bool true)) g V ts (.inl (leftS σ))) := h1.wrong
  have HK : Hid (Kp (fun k => k = g) w w2) := Kp.ofBelow hb1
  clear h1 h hn hm c0 c1 f1 e3 hb1
  generalize (numA (headS σ).data.toList).1 = v at *
  go_wp2_with fail
  go_ret
  exact ⟨rfl, HR.out, HK.out.setCell (fun _ => rfl) _⟩
def sixS : List ByteArray := [noT, ⟨#[105, 110, 116, 51, 50]⟩, ⟨#[105, 110, 116, 54, 52]⟩, ⟨#[98, 111, 111, 108]⟩, ⟨#[116, 101, 120, 116]⟩, ⟨#[98, 121, 116, 101, 115]⟩]
set_option maxHeartbeats 2000000 in
theorem rscalar_any (t : ByteArray) (w : World) : Calls Tryz.prog 120 #[.string t] w fun e w' => e = .returned (.int .i64 ((scalN t : Nat) : Int)) ∧ Below w.heap.size w w' := by
 have BS := Blk.new w #[.string ⟨#[]⟩, .string ⟨#[105, 110, 116, 51, 50]⟩, .string ⟨#[105, 110, 116, 54, 52]⟩, .string ⟨#[98, 111, 111, 108]⟩, .string ⟨#[116, 101, 120, 116]⟩, .string ⟨#[98, 121, 116, 101, 115]⟩] 9
 have hb0 : Below w.heap.size w (w.alloc (.cells #[.string ⟨#[]⟩, .string ⟨#[105, 110, 116, 51, 50]⟩, .string ⟨#[105, 110, 116, 54, 52]⟩, .string ⟨#[98, 111, 111, 108]⟩, .string ⟨#[116, 101, 120, 116]⟩, .string ⟨#[98, 121, 116, 101, 115]⟩] 9)) := (Below.refl _ _).alloc (Nat.le_refl _) _
 have c1 := BS.cell 1
 have c2 := BS.cell 2
 have c3 := BS.cell 3
 have c4 := BS.cell 4
 have c5 := BS.cell 5
 simp only [List.getElem?_toArray, List.getElem?_cons_succ, List.getElem?_cons_zero] at c1 c2 c3 c4 c5
 obtain ⟨S, hS⟩ : ∃ S, scalN t = S := ⟨_, rfl⟩
 rw [hS]
 have HS : Hid (scalN t = S) := hS
 clear hS BS
 go_enter Tryz.func120, Tryz.ntmps120
 go_wp2_with fail
 generalize w.alloc (.cells #[.string ⟨#[]⟩, .string ⟨#[105, 110, 116, 51, 50]⟩, .string ⟨#[105, 110, 116, 54, 52]⟩, .string ⟨#[98, 111, 111, 108]⟩, .string ⟨#[116, 101, 120, 116]⟩, .string ⟨#[98, 121, 116, 101, 115]⟩] 9) = w1 at *
 generalize hbb : w.heap.size = B at *
 go_loop [4] (fun iv => ∃ k : Nat, iv = .int .i64 (k : Int) ∧ 1 ≤ k ∧ k ≤ 6 ∧ Hid (∀ j, 1 ≤ j → j < k → ¬ t.data.toList = (sixS.getD j noT).data.toList)) (fun iv => 6 - (intOf iv).toNat)
 case atStart => exact ⟨1, rfl, by omega, by omega, fun j h1 h2 => by omega⟩
 case round =>
  obtain ⟨k, rfl, hk1, hk6, HN⟩ := hrel
  match k, hk1, hk6, HN with
  | 0, h, _, _ => exact absurd h (by omega)
  | 1, _, _, HN =>
   cases hq : (t.data.toList == [105, 110, 116, 51, 50]) with
   | true =>
    have et : t.data.toList = [105, 110, 116, 51, 50] := by simpa using hq
    have e0 : S = 1 := by rw [← HS.out]; unfold scalN; rw [et]; decide +kernel
    subst e0
    have hd : ([105, 110, 116, 51, 50] == t.toList) = true := by rw [ByteArray.toList_eq, et]; decide +kernel
    clear hq et
    go_wp2_with fail
    go_ret
    exact ⟨rfl, hb0⟩
   | false =>
    have et : ¬ t.data.toList = [105, 110, 116, 51, 50] := by rw [beq_eq_false_iff_ne] at hq; exact hq
    have hd : ([105, 110, 116, 51, 50] == t.toList) = false := by rw [ByteArray.toList_eq, beq_eq_false_iff_ne]; exact fun e => et e.symm
    have HN2 : Hid (∀ j, 1 ≤ j → j < 2 → ¬ t.data.toList = (sixS.getD j noT).data.toList) := by
     intro j h1 h2
     by_cases hj : j = 1
     ·subst hj; exact et
     ·exact HN.out j h1 (by omega)
    clear hq et
    go_wp2_with fail
    go_round
    case rel => exact ⟨2, rfl, by omega, by omega, HN2⟩
    case measure => simp [intOf]
  | 2, _, _, HN =>
   cases hq : (t.data.toList == [105, 110, 116, 54, 52]) with
   | true =>
    have et : t.data.toList = [105, 110, 116, 54, 52] := by simpa using hq
    have e0 : S = 2 := by rw [← HS.out]; unfold scalN; rw [et]; decide +kernel
    subst e0
    have hd : ([105, 110, 116, 54, 52] == t.toList) = true := by rw [ByteArray.toList_eq, et]; decide +kernel
    clear hq et
    go_wp2_with fail
    go_ret
    exact ⟨rfl, hb0⟩
   | false =>
    have et : ¬ t.data.toList = [105, 110, 116, 54, 52] := by rw [beq_eq_false_iff_ne] at hq; exact hq
    have hd : ([105, 110, 116, 54, 52] == t.toList) = false := by rw [ByteArray.toList_eq, beq_eq_false_iff_ne]; exact fun e => et e.symm
    have HN2 : Hid (∀ j, 1 ≤ j → j < 3 → ¬ t.data.toList = (sixS.getD j noT).data.toList) := by
     intro j h1 h2
     by_cases hj : j = 2
     ·subst hj; exact et
     ·exact HN.out j h1 (by omega)
    clear hq et
    go_wp2_with fail
    go_round
    case rel => exact ⟨3, rfl, by omega, by omega, HN2⟩
    case measure => simp [intOf]
  | 3, _, _, HN =>
   cases hq : (t.data.toList == [98, 111, 111, 108]) with
   | true =>
    have et : t.data.toList = [98, 111, 111, 108] := by simpa using hq
    have e0 : S = 3 := by rw [← HS.out]; unfold scalN; rw [et]; decide +kernel
    subst e0
    have hd : ([98, 111, 111, 108] == t.toList) = true := by rw [ByteArray.toList_eq, et]; decide +kernel
    clear hq et
    go_wp2_with fail
    go_ret
    exact ⟨rfl, hb0⟩
   | false =>
    have et : ¬ t.data.toList = [98, 111, 111, 108] := by rw [beq_eq_false_iff_ne] at hq; exact hq
    have hd : ([98, 111, 111, 108] == t.toList) = false := by rw [ByteArray.toList_eq, beq_eq_false_iff_ne]; exact fun e => et e.symm
    have HN2 : Hid (∀ j, 1 ≤ j → j < 4 → ¬ t.data.toList = (sixS.getD j noT).data.toList) := by
     intro j h1 h2
     by_cases hj : j = 3
     ·subst hj; exact et
     ·exact HN.out j h1 (by omega)
    clear hq et
    go_wp2_with fail
    go_round
    case rel => exact ⟨4, rfl, by omega, by omega, HN2⟩
    case measure => simp [intOf]
  | 4, _, _, HN =>
   cases hq : (t.data.toList == [116, 101, 120, 116]) with
   | true =>
    have et : t.data.toList = [116, 101, 120, 116] := by simpa using hq
    have e0 : S = 4 := by rw [← HS.out]; unfold scalN; rw [et]; decide +kernel
    subst e0
    have hd : ([116, 101, 120, 116] == t.toList) = true := by rw [ByteArray.toList_eq, et]; decide +kernel
    clear hq et
    go_wp2_with fail
    go_ret
    exact ⟨rfl, hb0⟩
   | false =>
    have et : ¬ t.data.toList = [116, 101, 120, 116] := by rw [beq_eq_false_iff_ne] at hq; exact hq
    have hd : ([116, 101, 120, 116] == t.toList) = false := by rw [ByteArray.toList_eq, beq_eq_false_iff_ne]; exact fun e => et e.symm
    have HN2 : Hid (∀ j, 1 ≤ j → j < 5 → ¬ t.data.toList = (sixS.getD j noT).data.toList) := by
     intro j h1 h2
     by_cases hj : j = 4
     ·subst hj; exact et
     ·exact HN.out j h1 (by omega)
    clear hq et
    go_wp2_with fail
    go_round
    case rel => exact ⟨5, rfl, by omega, by omega, HN2⟩
    case measure => simp [intOf]
  | 5, _, _, HN =>
   cases hq : (t.data.toList == [98, 121, 116, 101, 115]) with
   | true =>
    have et : t.data.toList = [98, 121, 116, 101, 115] := by simpa using hq
    have e0 : S = 5 := by rw [← HS.out]; unfold scalN; rw [et]; decide +kernel
    subst e0
    have hd : ([98, 121, 116, 101, 115] == t.toList) = true := by rw [ByteArray.toList_eq, et]; decide +kernel
    clear hq et
    go_wp2_with fail
    go_ret
    exact ⟨rfl, hb0⟩
   | false =>
    have et : ¬ t.data.toList = [98, 121, 116, 101, 115] := by rw [beq_eq_false_iff_ne] at hq; exact hq
    have hd : ([98, 121, 116, 101, 115] == t.toList) = false := by rw [ByteArray.toList_eq, beq_eq_false_iff_ne]; exact fun e => et e.symm
    have HN2 : Hid (∀ j, 1 ≤ j → j < 6 → ¬ t.data.toList = (sixS.getD j noT).data.toList) := by
     intro j h1 h2
     by_cases hj : j = 5
     ·subst hj; exact et
     ·exact HN.out j h1 (by omega)
    clear hq et
    go_wp2_with fail
    go_round
    case rel => exact ⟨6, rfl, by omega, by omega, HN2⟩
    case measure => simp [intOf]
  | 6, _, _, HN =>
   have h1 := HN.out 1 (by omega) (by omega)
   have h2 := HN.out 2 (by omega) (by omega)
   have h3 := HN.out 3 (by omega) (by omega)
   have h4 := HN.out 4 (by omega) (by omega)
   have h5 := HN.out 5 (by omega) (by omega)
   simp only [sixS, List.getD_cons_succ, List.getD_cons_zero] at h1 h2 h3 h4 h5
   have e0 : S = 0 := by
    rw [← HS.out]; unfold scalN
    rw [if_neg h1, if_neg h2, if_neg h3, if_neg h4, if_neg h5]
   subst e0
   clear h1 h2 h3 h4 h5
   go_wp2_with fail
   go_ret
   exact ⟨rfl, hb0⟩
theorem bind_on {α β : Type} (d : α) (x : PR α) (F : α → List ByteArray → PR β) : pBind x F = pOn (stX x) (F (res d x)) := by
 cases x with
 | inl n => rfl
 | inr x => obtain ⟨a, r⟩ := x; rfl
theorem infoI : (Tryz.prog.info? 3).map (fun i => (i.zero, i.size, i.bytes)) = some (some (.int .i64 0), 1, 8) := by kernel_rfl
theorem in_snoc (acc : List Int) (n : Int) : (inRows (acc ++ [n])).flatten = (inRows acc).flatten ++ [.int .i64 n] := by simp [inRows]
theorem comma_cases (acc : List Int) (σ : Sg) :
  (∃ t r, σ = .inr (t :: r) ∧ pOn σ (pOne [kComma, kSemi]) = .inr (t, r) ∧ (t.data.toList == [44]) = true ∧ pOn σ (fun r => pMore r.length acc r) = pBind (pNum r) fun n r' => pMore r'.length (acc ++ [(n : Int)]) r') ∨
  (((res noT (pOn σ (pOne [kComma, kSemi]))).data.toList == [44]) = false ∧ stX (pOn σ (fun r => pMore r.length acc r)) = stX (pOn σ (pOne [kComma, kSemi])) ∧ Res (pOn σ (fun r => pMore r.length acc r)) acc) := by
 match σ with
 | .inl n => exact .inr ⟨rfl, rfl, Res.no⟩
 | .inr [] => exact .inr ⟨rfl, rfl, Res.no⟩
 | .inr (t :: r) =>
  by_cases h : t.data.toList = [44]
  ·left
   refine ⟨t, r, rfl, ?_, by rw [h]; rfl, ?_⟩
   ·simp only [pOn, pOne]; rw [if_pos (by simp only [List.any_cons, h]; rfl)]
   ·simp only [pOn, List.length_cons, pMore]
    rw [if_pos (by rw [is_cons]; exact h)]
    exact bind_congr fun n r' e => more_fuel _ _ _ (Nat.le_of_lt (num_lt r _ _ e))
  ·right
   have hm : pOn (.inr (t :: r)) (fun r => pMore r.length acc r) = pBind (pMust kSemi (t :: r)) fun _ r => .inr (acc, r) := by
    simp only [pOn, List.length_cons, pMore]
    rw [if_neg (by rw [is_cons]; exact h)]
   rw [hm, must_cons]
   by_cases h2 : t.data.toList = kSemi.data.toList
   ·rw [if_pos h2]
    have : pOn (.inr (t :: r)) (pOne [kComma, kSemi]) = .inr (t, r) := by
     simp only [pOn, pOne]; rw [if_pos (by simp only [List.any_cons, h2]; rfl)]
    rw [this]
    refine ⟨?_, rfl, Res.yes⟩
    simp only [res]; rw [h2]; rfl
   ·rw [if_neg h2]
    have : pOn (.inr (t :: r)) (pOne [kComma, kSemi]) = .inl (r.length + 1) := by
     simp only [pOn, pOne]
     rw [if_neg]
     simp only [List.any_cons, List.any_nil, Bool.or_false, Bool.or_eq_true, beq_iff_eq]
     rintro (e | e)
     ·exact h (e.symm.trans rfl)
     ·exact h2 e.symm
    rw [this]
    exact ⟨rfl, rfl, Res.no⟩
set_option maxHeartbeats 2000000 in
theorem numbers_any {w : World} {g : Nat} {V : Value} {ts : List Tk} {E : Nat} {r0 : List ByteArray} {B : Nat} {v : Value} {acc : List Int} (h : Rd w g V ts E (.inr r0)) (hB : g < B) (hBw : B ≤ w.heap.size) (ho : w.ownsRow B 3 1 v acc.length (inRows acc).flatten) (hbd : Bd ts.length (.inr r0) acc.length) :
  Calls Tryz.prog 104 #[.pointer (some ⟨g, 0, none⟩), v] w fun e w' => ∃ v' acc', e = .returned v' ∧ Res (pBind (pNum r0) fun n r => pMore r.length (acc ++ [(n : Int)]) r) acc' ∧ Rd w' g V ts E (stX (pBind (pNum r0) fun n r => pMore r.length (acc ++ [(n : Int)]) r)) ∧
   w'.ownsRow B 3 1 v' acc'.length (inRows acc').flatten ∧ Kp (fun k => k = g ∨ v.ownBlock = some k) w w' ∧ Bd ts.length (stX (pBind (pNum r0) fun n r => pMore r.length (acc ++ [(n : Int)]) r)) acc'.length := by
 obtain ⟨i0, hi, hz0, hz1, hz2⟩ := info_parts infoI
 have hfew := h.few
 obtain ⟨Z, hZ⟩ : ∃ Z, (pBind (pNum r0) fun n r => pMore r.length (acc ++ [(n : Int)]) r) = Z := ⟨_, rfl⟩
 have HZ0 : Hid (Z = pOn (stX (pNum r0)) fun r => pMore r.length (acc ++ [((res 0 (pNum r0) : Nat) : Int)]) r) := by
  show Z = _
  rw [← hZ]; exact bind_on 0 (pNum r0) _
 rw [hZ]
 clear hZ
 have HO : Hid (w.ownsRow B 3 1 v acc.length (inRows acc).flatten) := ho
 clear ho
 have hbs : Bd ts.length (stX (pNum r0)) (acc.length + 1) := hbd.step (num_lt r0)
 have HBS : Hid (Bd ts.length (stX (pNum r0)) (acc.length + 1)) := hbs
 have hacc : acc.length ≤ 100001 := by have := hbd.1; omega
 clear hbs hbd
 obtain ⟨nA, hnA⟩ : ∃ n, acc.length = n := ⟨_, rfl⟩
 rw [hnA] at hacc HO HBS
 have HNA : Hid (acc.length = nA) := hnA
 clear hnA
 go_enter Tryz.func104, Tryz.ntmps104
 go_wp2_with fail
 refine (rnumber_any h).mono ?_
 rintro e w1 ⟨rfl, h1, k1⟩
 have e0 : pOn (.inr r0) pNum = pNum r0 := rfl
 rw [e0] at h1 ⊢
 clear e0
 have HO1 : Hid (w1.ownsRow B 3 1 v nA (inRows acc).flatten) := own_kp HO.out k1 (fun k hk => by omega)
 have hBw1 : B ≤ w1.heap.size := Nat.le_trans hBw k1.size
 have K1 : Kp (fun k => k = g ∨ v.ownBlock = some k) w w1 := k1.weak (fun _ _ h => .inl h)
 clear k1 h HO
 generalize (res 0 (pNum r0) : Nat) = x0 at *
 generalize stX (pNum r0) = σ1 at *
 go_wp2_with (first
  | (at_builtin; refine wpList_append_own_at _ rfl _ _ 38 rfl B 3 i0 _ 1 8 Tryz.underlying38 hi hz0 hz1 hz2 rfl (by decide) _ _ _ rfl (HO1.out.alloc _) ⟨w1.heap.size, 0, none⟩ 1 1 [.int .i64 (x0 : Int)] rfl rfl (cells_new _ #[.int .i64 (x0 : Int)] _) ?c2 ?c3 ?c4 ?c5 ?_)
  | fail)
 case c2 => intro u hu; simp at hu; subst hu; rfl
 case c3 => unfold maxLen; omega
 case c4 => omega
 case c5 => simp; omega
 intro v2 w2 ho2 hg2 _ hat2
 have HO2 : Hid (w2.ownsRow B 3 1 v2 (acc ++ [(x0 : Int)]).length (inRows (acc ++ [(x0 : Int)])).flatten) := by
  show World.ownsRow _ _ _ _ _ _ _
  rw [in_snoc, List.length_append, HNA.out]; exact ho2
 have K2 : Kp (fun k => k = g ∨ v.ownBlock = some k) w w2 := (K1.alloc _).grown hg2 (fun k hk _ => .inr hk)
 have k12 : Kp (fun k => B ≤ k) w1 w2 := ((Kp.refl _ _).alloc _).grown hg2 (fun k hk _ => (HO1.out.lt k hk).1)
 have h2 : Rd w2 g V ts E σ1 := h1.kp k12 (fun k hk => by omega)
 have HL2 : Hid (∀ k, v2.ownBlock = some k → v.ownBlock = some k ∨ w.heap.size ≤ k) := by
  intro k hk
  rcases hat2 with e | e
  ·left; rw [← e]; exact hk
  ·right
   rw [hk] at e
   have e' : k = (w1.alloc (.cells #[.int .i64 (x0 : Int)] 3)).heap.size := by simpa using e
   rw [e']
   have := K1.size
   simp; omega
 have hBw2 : B ≤ w2.heap.size := Nat.le_trans hBw K2.size
 have HB2 : Hid (Bd ts.length σ1 (acc ++ [(x0 : Int)]).length) := by
  show Bd _ _ _
  rw [List.length_append, HNA.out]; exact HBS.out
 clear ho2 hg2 hat2 K1 k12 h1 HO1 hBw1 HBS
 generalize acc ++ [(x0 : Int)] = acc1 at *
 clear HNA hacc
 go_wp2_with fail
 go_loopw [1] (fun lv wr => ∃ acc σ1, Hid (Z = pOn σ1 fun r => pMore r.length acc r) ∧ Hid (wr.ownsRow B 3 1 lv acc.length (inRows acc).flatten) ∧ Rd wr g V ts E σ1 ∧ Kp (fun k => k = g ∨ v.ownBlock = some k) w wr ∧ Hid (Bd ts.length σ1 acc.length) ∧ Hid (∀ k, lv.ownBlock = some k → v.ownBlock = some k ∨ w.heap.size ≤ k)) (fun _ wr => msr g ts.length wr)
 case atStart => exact ⟨acc1, σ1, HZ0, HO2, h2, K2, HB2, HL2⟩
 case round =>
  obtain ⟨acc, σ, HZ, HO, hr, KR, HB, HL⟩ := hrel
  clear HZ0 HO2 h2 K2 HB2 HL2 hBw2
  have hBr : B ≤ wr.heap.size := Nat.le_trans hBw KR.size
  have hms := msr_rd hr
  rcases comma_cases acc σ with ⟨t, r, rfl, e1, e2, e3⟩ | ⟨e1, e2, e3⟩
  ·have HE1 : Hid (pOn (.inr (t :: r)) (pOne [kComma, kSemi]) = .inr (t, r)) := e1
   have hd : (t.toList == [44]) = true := by rw [ByteArray.toList_eq]; exact e2
   have HZ2 : Hid (Z = pOn (stX (pNum r)) fun r' => pMore r'.length (acc ++ [((res 0 (pNum r) : Nat) : Int)]) r') := by
    show Z = _
    rw [HZ.out, e3]; exact bind_on 0 (pNum r) _
   have hb2 : Bd ts.length (.inr r) acc.length := HB.out.keep (x := (.inr ((), r) : PR Unit)) (fun a r' e => by simp at e; rw [← e]; simp)
   have HB2 : Hid (Bd ts.length (stX (pNum r)) (acc.length + 1)) := hb2.step (num_lt r)
   have hacc : acc.length ≤ 100001 := by have := hb2.1; omega
   have hwg : weigh (stX (pNum r)) < weigh (.inr (t :: r)) := by
    have := weigh_lt (num_lt r) (num_in r)
    have e : weigh (.inr r) ≤ weigh (.inr (t :: r)) := by simp [weigh, leftS, badS]; omega
    omega
   have HW : Hid (weigh (stX (pNum r)) < msr g ts.length wr) := by show _ < _; rw [hms]; exact hwg
   clear e1 e2 e3 hb2 HB HZ hms hwg
   obtain ⟨nA, hnA⟩ : ∃ n, acc.length = n := ⟨_, rfl⟩
   rw [hnA] at hacc HO HB2
   have HNA : Hid (acc.length = nA) := hnA
   clear hnA
   go_wp2_with fail
   refine (one_new2 kComma kSemi _ rfl hr (by decide +kernel)).mono ?_
   rintro e w1 ⟨rfl, h1, k1⟩
   rw [HE1.out] at h1 ⊢
   simp only [res, stX] at h1 ⊢
   have HO1 : Hid (w1.ownsRow B 3 1 _ nA (inRows acc).flatten) := own_kp HO.out k1 (fun k hk => by omega)
   have K1 := KR.trans (k1.weak (fun _ _ h => .inl h))
   clear HE1 hr HO KR k1 hBr
   go_wp2_with fail
   refine (rnumber_any h1).mono ?_
   rintro e w2 ⟨rfl, h2, k2⟩
   have e0 : pOn (.inr r) pNum = pNum r := rfl
   rw [e0] at h2 ⊢
   clear e0
   have HO2 : Hid (w2.ownsRow B 3 1 _ nA (inRows acc).flatten) := own_kp HO1.out k2 (fun k hk => by omega)
   have K2 := K1.trans (k2.weak (fun _ _ h => .inl h))
   have hBr : B ≤ w2.heap.size := Nat.le_trans hBw K2.size
   clear h1 HO1 K1 k2
   generalize (res 0 (pNum r) : Nat) = x0 at *
   generalize stX (pNum r) = σ1 at *
   go_wp2_with (first
    | (at_builtin; refine wpList_append_own_at _ rfl _ _ 38 rfl B 3 i0 _ 1 8 Tryz.underlying38 hi hz0 hz1 hz2 rfl (by decide) _ _ _ rfl (HO2.out.alloc _) ⟨w2.heap.size, 0, none⟩ 1 1 [.int .i64 (x0 : Int)] rfl rfl (cells_new _ #[.int .i64 (x0 : Int)] _) ?c2 ?c3 ?c4 ?c5 ?_)
    | fail)
   case c2 => intro u hu; simp at hu; subst hu; rfl
   case c3 => unfold maxLen; omega
   case c4 => omega
   case c5 => simp; omega
   intro v3 w3 ho3 hg3 _ hat3
   have HO3 : Hid (w3.ownsRow B 3 1 v3 (acc ++ [(x0 : Int)]).length (inRows (acc ++ [(x0 : Int)])).flatten) := by
    show World.ownsRow _ _ _ _ _ _ _
    rw [in_snoc, List.length_append, HNA.out]; exact ho3
   have K3 : Kp (fun k => k = g ∨ v.ownBlock = some k) w w3 := (K2.alloc _).grown hg3 (fun k hk hlt => by
    rcases HL.out k hk with e | e
    ·exact .inr e
    ·omega)
   have k23 : Kp (fun k => B ≤ k) w2 w3 := ((Kp.refl _ _).alloc _).grown hg3 (fun k hk _ => (HO2.out.lt k hk).1)
   have h3 : Rd w3 g V ts E σ1 := h2.kp k23 (fun k hk => by omega)
   have HL3 : Hid (∀ k, v3.ownBlock = some k → v.ownBlock = some k ∨ w.heap.size ≤ k) := by
    intro k hk
    rcases hat3 with e | e
    ·exact HL.out k (by rw [← e]; exact hk)
    ·right
     rw [hk] at e
     have e' : k = (w2.alloc (.cells #[.int .i64 (x0 : Int)] 3)).heap.size := by simpa using e
     rw [e']
     have := K2.size
     simp; omega
   have HB3 : Hid (Bd ts.length σ1 (acc ++ [(x0 : Int)]).length) := by
    show Bd _ _ _
    rw [List.length_append, HNA.out]; exact HB2.out
   have HM : Hid (msr g ts.length w3 < msr g ts.length wr) := by
    show _ < _
    rw [msr_rd h3]; exact HW.out
   clear ho3 hg3 hat3 K2 k23 h2 HO2 HB2 HW HL
   generalize acc ++ [(x0 : Int)] = acc1 at *
   go_wp2_with fail
   go_roundw
   case rel => exact ⟨acc1, σ1, HZ2, HO3, h3, K3, HB3, HL3⟩
   case measure => exact HM.out
  ·obtain ⟨x, hx⟩ : ∃ x, res noT (pOn σ (pOne [kComma, kSemi])) = x := ⟨_, rfl⟩
   rw [hx] at e1
   have hd : (x.toList == [44]) = false := by rw [ByteArray.toList_eq]; exact e1
   have HX : Hid (res noT (pOn σ (pOne [kComma, kSemi])) = x) := hx
   have HZ2 : Hid (stX Z = stX (pOn σ (pOne [kComma, kSemi])) ∧ Res Z acc ∧ Bd ts.length (stX Z) acc.length) := by
    show _ ∧ _ ∧ _
    refine ⟨by rw [HZ.out]; exact e2, by rw [HZ.out]; exact e3, ?_⟩
    rw [HZ.out]
    cases σ with
    | inl n => exact HB.out
    | inr r => exact HB.out.keep (more_le _ _ _)
   clear e1 e2 e3 hx HZ HB hms
   go_wp2_with fail
   refine (one_new2 kComma kSemi _ rfl hr (by decide +kernel)).mono ?_
   rintro e w1 ⟨rfl, h1, k1⟩
   rw [HX.out]
   have HO1 : Hid (w1.ownsRow B 3 1 _ acc.length (inRows acc).flatten) := own_kp HO.out k1 (fun k hk => by omega)
   have K1 := KR.trans (k1.weak (fun _ _ h => .inl h))
   rw [← HZ2.out.1] at h1
   clear hr HO KR k1 HX
   go_wp2_with fail
   go_ret
   exact ⟨_, acc, rfl, HZ2.out.2.1, h1, HO1.out, K1, HZ2.out.2.2⟩
end Go.Proofs.YtcjfeandnmochaaGreatDoor

/- What the reader's 'call' answers: a method. -/
import Derived.Test.YtfffjfccochccaaDoorIdSteps
namespace Go.Proofs.YtfffjfccochccaaDoor
open Go.ChangeShapes Go.WideShapes Go.ChangeAt Go.RowKit
set_option linter.unusedVariables false
set_option linter.unusedSimpArgs false
set_option maxRecDepth 20000

theorem results_cell {fn : Func} {p : Tmp} {ty : TypeId} (h : fn.results = #[.cell p ty]) (tmps : Array Value) (P : Program) (w : World) (a : Addr) (x : Value) (ha : (asAddr (tmps.getD p undef)).run P w = .ok a w) (hl : (loadVar ty a).run P w = .ok x w) :
    (results fn tmps).run P w = .ok x w := by
  simp only [results, h]
  simp only [Array.getD_eq_getD_getElem?] at ha
  simp [Sem.run_bind, Result.andThen, ha, hl]
theorem Rd.alloc {w : World} {g : Nat} {V : Value} {ts : List Tk} {E : Nat} {σ : Sg} (h : Rd w g V ts E σ) (o : Obj) : Rd (w.alloc o) g V ts E σ := h.below ((Below.refl _ _).alloc (Nat.le_refl _) _)
/-- A cell of a later block is written. -/
theorem Rd.other {w : World} {g : Nat} {V : Value} {ts : List Tk} {E : Nat} {σ : Sg} (h : Rd w g V ts E σ) {p : Addr} (hp : g < p.block) (u : Value) : Rd (w.setCell p u) g V ts E σ := by
  obtain ⟨a, cap, h1, h2, h3, h4, h5⟩ := h.row
  have hk : Kp (fun k => k = p.block) w (w.setCell p u) := Kp.setCell (S := fun k => k = p.block) (Kp.refl _ w) (fun _ => rfl) u
  refine ⟨h.glob.kp hk (by have := h.pos; omega), h.pos, (hk.block g h.lt (by omega)).trans h.blk, h.left, h.rest, ⟨a, cap, h1, h2, h3, h4, ?_⟩, h.small, h.few⟩
  by_cases hne : ts = []
  · subst hne; exact HoldsT.nil
  refine h5.kp hk ?_
  intro b hb' e
  obtain ⟨q, hq, hqg⟩ := h4 hne
  rw [hb'] at hq
  cases hq
  simp only at e
  omega
/-- Cells that lie in a block. -/
def Blk (w : World) (b : Nat) (cs : Array Value) (t : TypeId) : Prop := w.heap[b]? = some (.cells cs t (0, 0))
theorem Blk.new (w : World) (cs : Array Value) (t : TypeId) : Blk (w.alloc (.cells cs t)) w.heap.size cs t := heap_alloc_new w _
theorem Blk.kp {S : Nat → Prop} {w w' : World} {b : Nat} {cs : Array Value} {t : TypeId} (h : Blk w b cs t) (hk : Kp S w w') (hs : ¬ S b) : Blk w' b cs t := (hk.block b (Array.getElem?_eq_some_iff.1 h).1 hs).trans h
theorem Blk.lt {w : World} {b : Nat} {cs : Array Value} {t : TypeId} (h : Blk w b cs t) : b < w.heap.size := (Array.getElem?_eq_some_iff.1 h).1
theorem Blk.below {w w' : World} {b : Nat} {cs : Array Value} {t : TypeId} (h : Blk w b cs t) (hb : Below w.heap.size w w') : Blk w' b cs t := (hb.block b h.lt).trans h
theorem Blk.set {w : World} {b : Nat} {cs cs' : Array Value} {t : TypeId} (h : Blk w b cs t) (i : Nat) (u : Value) (hc : cs.setIfInBounds i u = cs') : Blk (w.setCell ⟨b, i, none⟩ u) b cs' t := by subst hc; exact block_set h i u
theorem Blk.other {w : World} {b : Nat} {cs : Array Value} {t : TypeId} (h : Blk w b cs t) {a : Addr} (hne : b ≠ a.block) (u : Value) : Blk (w.setCell a u) b cs t := by
  show _ = _
  rw [Below.heap_setCell _ _ _ _ hne]; exact h
theorem Blk.cell {w : World} {b : Nat} {cs : Array Value} {t : TypeId} (h : Blk w b cs t) (i : Nat) : w.cell? ⟨b, i, none⟩ = cs[i]? := block_cell h i
theorem Blk.froz {w : World} {b : Nat} {cs : Array Value} {t : TypeId} (h : Blk w b cs t) (i : Nat) : w.frozen? ⟨b, i, none⟩ = false := block_froz h i

set_option maxHeartbeats 1000000 in
theorem rcall_any {w : World} {g : Nat} {V : Value} {ts : List Tk} {E : Nat} {σ : Sg} (h : Rd w g V ts E σ) :
    Calls Tryd.prog 34 #[.pointer (some ⟨g, 0, none⟩)] w fun e w' => ∃ m : MtS, e = .returned (.agg #[.string m.name, .string m.inn, .string m.out]) ∧ Res (pOn σ pCall) m ∧ Rd w' g V ts E (stX (pOn σ pCall)) ∧ Kp (fun k => k = g) w w' := by
  have HV : Hid (∀ a b : ByteArray, Res (pOn (stX (pOn σ pName)) pIn) a → Res (pOn (stX (pOn (stX (pOn (stX (pOn σ pName)) pIn)) (pMust kReturns))) pIn) b →
    stX (pOn (stX (pOn (stX (pOn (stX (pOn (stX (pOn σ pName)) pIn)) (pMust kReturns))) pIn)) (pMust kSemi)) = stX (pOn σ pCall) ∧ Res (pOn σ pCall) ⟨res noT (pOn σ pName), a, b⟩) := call_st σ
  have hg := h.lt
  go_enter Tryd.func34, Tryd.ntmps34
  go_wp2_with fail
  refine (rname_any (h.alloc _)).mono ?_
  rintro e w1 ⟨rfl, h1, k1⟩
  have B1 := (Blk.new w #[.string ⟨#[]⟩, .string ⟨#[]⟩, .string ⟨#[]⟩] 73).kp k1 (by omega)
  have K1 : Kp (fun k => k = g) w w1 := (Kp.ofBelow ((Below.refl _ _).alloc (Nat.le_refl _) _)).trans k1
  have L1 := B1.lt
  clear k1 h
  generalize res noT (pOn σ pName) = x1 at *
  generalize stX (pOn σ pName) = σ1 at *
  obtain ⟨R, hR⟩ : ∃ R, w.heap.size = R := ⟨_, rfl⟩
  rw [hR] at B1 L1 hg ⊢
  have HR : Hid (w.heap.size = R) := hR
  clear hR
  go_wp2_with fail
  refine (inner_any (h1.alloc _)).mono ?_
  rintro e w2 ⟨x2, rfl, r2, h2, k2⟩
  have BM2 := (Blk.new w1 #[.string x1, .string ⟨#[]⟩, .string ⟨#[]⟩] 73).kp k2 (by have := h1.lt; omega)
  have BR2 := (B1.below ((Below.refl _ _).alloc (Nat.le_refl _) _)).kp k2 (by omega)
  have K2 := (K1.alloc _).trans k2
  have hgM : g < w1.heap.size := h1.lt
  have hRM : R < w1.heap.size := L1
  clear k2 h1 K1 B1 L1
  generalize stX (pOn σ1 pIn) = σ2 at *
  generalize w1.heap.size = M at *
  have m1 := BM2.cell 1
  have fm1 := BM2.froz 1
  simp only [List.getElem?_toArray, List.getElem?_cons_succ, List.getElem?_cons_zero] at m1
  have h3 : Rd (w2.setCell ⟨M, 1, none⟩ (.string x2)) g V ts E σ2 := h2.other hgM _
  have BM3 : Blk (w2.setCell ⟨M, 1, none⟩ (.string x2)) M #[.string x1, .string x2, .string ⟨#[]⟩] 73 := BM2.set 1 _ rfl
  have BR3 : Blk (w2.setCell ⟨M, 1, none⟩ (.string x2)) R #[.string ⟨#[]⟩, .string ⟨#[]⟩, .string ⟨#[]⟩] 73 := BR2.other (by simp only; omega) _
  have K3 : Kp (fun k => k = g) w (w2.setCell ⟨M, 1, none⟩ (.string x2)) := K2.setCell (fun hlt => by have := HR.out; simp only at hlt; omega) _
  clear h2 BM2 BR2 K2
  go_wp2_with fail
  clear m1 fm1
  refine (one_new kReturns _ (by simp [World.setCell]) h3 (by decide +kernel)).mono ?_
  rintro e w3 ⟨x3, rfl, h4, k4⟩
  have BM4 := BM3.kp k4 (by omega)
  have BR4 := BR3.kp k4 (by omega)
  have K4 := K3.trans k4
  clear k4 h3 K3 BM3 BR3
  generalize stX (pOn σ2 (pMust kReturns)) = σ3 at *
  go_wp2_with fail
  refine (inner_any h4).mono ?_
  rintro e w4 ⟨x4, rfl, r4, h5, k5⟩
  have BM5 := BM4.kp k5 (by omega)
  have BR5 := BR4.kp k5 (by omega)
  have K5 := K4.trans k5
  clear k5 h4 K4 BM4 BR4
  generalize stX (pOn σ3 pIn) = σ4 at *
  have m1 := BM5.cell 2
  have fm1 := BM5.froz 2
  simp only [List.getElem?_toArray, List.getElem?_cons_succ, List.getElem?_cons_zero] at m1
  have h6 : Rd (w4.setCell ⟨M, 2, none⟩ (.string x4)) g V ts E σ4 := h5.other hgM _
  have BM6 : Blk (w4.setCell ⟨M, 2, none⟩ (.string x4)) M #[.string x1, .string x2, .string x4] 73 := BM5.set 2 _ rfl
  have BR6 : Blk (w4.setCell ⟨M, 2, none⟩ (.string x4)) R #[.string ⟨#[]⟩, .string ⟨#[]⟩, .string ⟨#[]⟩] 73 := BR5.other (by simp only; omega) _
  have K6 : Kp (fun k => k = g) w (w4.setCell ⟨M, 2, none⟩ (.string x4)) := K5.setCell (fun hlt => by have := HR.out; simp only at hlt; omega) _
  clear h5 BM5 BR5 K5
  go_wp2_with fail
  clear m1 fm1
  refine (one_new kSemi _ (by simp [World.setCell]) h6 (by decide +kernel)).mono ?_
  rintro e w5 ⟨x5, rfl, h7, k7⟩
  have BM7 := BM6.kp k7 (by omega)
  have BR7 := BR6.kp k7 (by omega)
  have K7 := K6.trans k7
  clear k7 h6 K6 BM6 BR6
  obtain ⟨hz1, hz2⟩ := HV.out x2 x4 r2 r4
  rw [hz1] at h7
  have HZ : Hid (Res (pOn σ pCall) ⟨x1, x2, x4⟩) := hz2
  clear HV hz1 hz2
  have m0 := BM7.cell 0
  have m1 := BM7.cell 1
  have m2 := BM7.cell 2
  have r0 := BR7.cell 0
  have r1 := BR7.cell 1
  have r2 := BR7.cell 2
  have f0 := BR7.froz 0
  have f1 := BR7.froz 1
  have f2 := BR7.froz 2
  simp only [List.getElem?_toArray, List.getElem?_cons_succ, List.getElem?_cons_zero] at m0 m1 m2 r0 r1 r2
  go_wp2_with fail
  refine bodyPost_ret (results_cell rfl _ _ _ ⟨R, 0, none⟩ (.agg #[.string x1, .string x2, .string x4]) (by go_simp) (by go_simp)) rfl ?_
  refine ⟨⟨x1, x2, x4⟩, rfl, HZ.out, ?_, ?_⟩
  · exact ((h7.other hg _).other hg _).other hg _
  · have hlt : R < w.heap.size → R = g := fun hlt => by have := HR.out; omega
    exact ((K7.setCell hlt _).setCell hlt _).setCell hlt _
end Go.Proofs.YtfffjfccochccaaDoor

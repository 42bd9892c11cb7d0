/- What slices' symMerge answers, of two runs in order. -/
import Derived.WalkKit
import Derived.Test.YtkfhlgajeejgeaaGreatDoorPkH
import Derived.Test.YtkfhlgajeejgeaaGreatDoorPkI
import Derived.Test.YtkfhlgajeejgeaaGreatDoorPkE
import Derived.Test.YtkfhlgajeejgeaaGreatDoorPkF
import Derived.Test.YtkfhlgajeejgeaaGreatDoorPkC
import Derived.Test.YtkfhlgajeejgeaaGreatDoorPkD
namespace Go.Proofs.YtkfhlgajeejgeaaGreatDoor
theorem symG_any {X Y : List NmS} (hx2 : 2 ≤ X.length) (hy2 : 2 ≤ Y.length) (ih : ∀ X' Y' : List NmS, X'.length + Y'.length < X.length + Y.length → SymC X' Y') : SymC X Y := by
  intro w B q n cap A Z a m b h1 h2 h3 h4 h5 h6 h7 h8 h9 h10
  by_cases hc : (a + b) / 2 < m
  · exact symGA hx2 hy2 ih w B q n cap A Z a m b h1 h2 h3 h4 h5 h6 h7 h8 h9 h10 hc
  · exact symGB hx2 hy2 ih w B q n cap A Z a m b h1 h2 h3 h4 h5 h6 h7 h8 h9 h10 hc
end Go.Proofs.YtkfhlgajeejgeaaGreatDoor

/- What the library's sorts answer, at rows of one's own: integers; fields, at most 20; named ones, at most 20. -/
namespace Go.Proofs.YtkfhlgajeejgeaaGreatDoor
open Go.ChangeShapes Go.WideShapes Go.ChangeAt Go.RowKit Go.Sort Go.Lib
set_option linter.unusedVariables false
set_option linter.unusedSimpArgs false
set_option maxRecDepth 20000

theorem sortI_any {w : World} {B : Nat} {v : Value} {ns : List Int} (h : w.ownsRow B 3 1 v ns.length (inRows ns).flatten) (hn : ns.length ≤ 1000000) :
    Calls Tryz.prog 49 #[v] w fun e w' => e = .returned (.tuple #[]) ∧ w'.ownsRow B 3 1 v ns.length (inRows (srtF (fun x => x) ns)).flatten ∧ Kp (fun b => v.ownBlock = some b) w w' := by
  rcases h.2 with ⟨rfl, h0⟩ | ⟨g, cap, cur, rfl, hB, hg, h4, h5, _⟩
  · have : ns = [] := List.eq_nil_of_length_eq_zero h0
    subst this
    refine (Any.slices_Sort_int_none lays189 none 0 w).mono ?_
    rintro e w' ⟨rfl, rfl⟩
    exact ⟨rfl, h, Kp.refl _ _⟩
  · refine (Any.slices_Sort_int lays189 g 0 cap ns w (own_holdsI h) (Array.getElem?_eq_some_iff.1 hg).1 (by omega)).mono ?_
    rintro e w' ⟨rfl, n, os, rfl⟩
    rw [merge_srt]
    obtain ⟨a1, a2⟩ := own_sortedI (m := n) (os := os) h (srtF_len (fun x => x) ns)
    exact ⟨rfl, a1, a2.weak (fun b _ e => by rw [e]; rfl)⟩

theorem cmpLaysF (g off size : Nat) (w : World) (ih : Inhabited FlS) : @CmpLays FlS ih Tryz.prog 48 #[] FlS.cells 5 (fun x y => cmpI (FlS.tag x) (FlS.tag y)) g off size w :=
  fun m os dk _ x y => byTag_any x y _
theorem ltOfF : (ltOf fun x y : FlS => cmpI (FlS.tag x) (FlS.tag y)) = ltK FlS.tag := by
  funext x y
  exact cmpI_lt _ _
theorem entersF (args : Array Value) (w : World) : (callFunc 48 args).run Tryz.prog w = .ok (.enter 48 args) w := enters_of Tryz.func48 (by kernel_rfl) rfl args w
theorem insF_any (ih : Inhabited FlS) {w : World} {g cap : Nat} (a b : Nat) (d : Array FlS) (hH : @HoldsK FlS ih FlS.cells 5 w g 0 d) (hg : g < w.heap.size) (hab : a ≤ b) (hb : b ≤ d.size) (hsz : d.size < 4611686018427387904) :
    Calls Tryz.prog 120 #[.slice (some ⟨g, 0, none⟩) d.size cap, .int .i64 a, .int .i64 b, .func (.func 48) #[] #[]] w fun e w' => e = .returned (.tuple #[]) ∧ ∃ n os, w' = @sortWorldK FlS ih FlS.cells 5 w g 0 n (@Sort.insertionSort FlS ih (ltK FlS.tag) d a b) os := by
  have := @AnyQ.insertionSortCmpFunc Tryz.prog laysF_ren FlS ih laysF 5 Tryz.isAgg44 Tryz.sizeOf44 FlS.cells (fun _ => rfl) (fun x v hv => by simp only [FlS.cells, List.mem_cons, List.not_mem_nil, or_false] at hv; rcases hv with rfl | rfl | rfl | rfl | rfl <;> rfl) (fun x y => cmpI (FlS.tag x) (FlS.tag y)) 48 #[] g 0 cap a b d w entersF (cmpLaysF g 0 d.size w ih) hH hg hab hb hsz
  rw [ltOfF] at this
  exact this

theorem cmpLaysN (g off size : Nat) (w : World) (ih : Inhabited NmS) : @CmpLays NmS ih Tryz.prog 52 #[] NmS.cells 2 (fun x y => cmpI (NmS.n x) (NmS.n y)) g off size w :=
  fun m os dk _ x y => byNumber_any x y _
theorem ltOfN : (ltOf fun x y : NmS => cmpI (NmS.n x) (NmS.n y)) = ltK NmS.n := by
  funext x y
  exact cmpI_lt _ _
theorem entersN (args : Array Value) (w : World) : (callFunc 52 args).run Tryz.prog w = .ok (.enter 52 args) w := enters_of Tryz.func52 (by kernel_rfl) rfl args w
theorem insN_any (ih : Inhabited NmS) {w : World} {g cap : Nat} (a b : Nat) (d : Array NmS) (hH : @HoldsK NmS ih NmS.cells 2 w g 0 d) (hg : g < w.heap.size) (hab : a ≤ b) (hb : b ≤ d.size) (hsz : d.size < 4611686018427387904) :
    Calls Tryz.prog 134 #[.slice (some ⟨g, 0, none⟩) d.size cap, .int .i64 a, .int .i64 b, .func (.func 52) #[] #[]] w fun e w' => e = .returned (.tuple #[]) ∧ ∃ n os, w' = @sortWorldK NmS ih NmS.cells 2 w g 0 n (@Sort.insertionSort NmS ih (ltK NmS.n) d a b) os := by
  have := @AnyQ.insertionSortCmpFunc Tryz.prog laysN_ren NmS ih laysN 2 Tryz.isAgg49 Tryz.sizeOf49 NmS.cells (fun _ => rfl) (fun x v hv => by simp only [NmS.cells, List.mem_cons, List.not_mem_nil, or_false] at hv; rcases hv with rfl | rfl <;> rfl) (fun x y => cmpI (NmS.n x) (NmS.n y)) 52 #[] g 0 cap a b d w entersN (cmpLaysN g 0 d.size w ih) hH hg hab hb hsz
  rw [ltOfN] at this
  exact this
end Go.Proofs.YtkfhlgajeejgeaaGreatDoor

/- What the library's sorts answer, stable ones, at most 20 elements. -/
namespace Go.Proofs.YtkfhlgajeejgeaaGreatDoor
open Go.ChangeShapes Go.WideShapes Go.ChangeAt Go.RowKit Go.Sort Go.Lib
set_option linter.unusedVariables false
set_option linter.unusedSimpArgs false
set_option maxRecDepth 20000


/-- No element: nothing is done. -/
theorem insF_none (p : Option Addr) (n cap k : Nat) (hk : k ≤ 1000000) (w : World) : Calls Tryz.prog 120 #[.slice p n cap, .int .i64 (k : Int), .int .i64 (k : Int), .func (.func 48) #[] #[]] w fun e w' => e = .returned (.tuple #[]) ∧ w' = w := by
  go_enter Tryz.func120, Tryz.ntmps120
  go_wp2_with fail
  refine wp_loop_rounds 1 ?_
  rw [rounds_succ]
  go_wp2_with fail
  go_end0
  exact ⟨rfl, rfl⟩
set_option maxHeartbeats 2000000 in
theorem stabF_few {w : World} {B : Nat} {v : Value} {l : List FlS} (h : w.ownsRow B 44 5 v l.length (l.map FlS.cells).flatten) (hl : l.length ≤ 20) :
    Calls Tryz.prog 82 #[v, .int .i64 (l.length : Int), .func (.func 48) #[] #[]] w fun e w' => e = .returned (.tuple #[]) ∧ w'.ownsRow B 44 5 v l.length ((srtF FlS.tag l).map FlS.cells).flatten ∧ Kp (fun b => v.ownBlock = some b) w w' := by
  have ih : Inhabited FlS := ⟨⟨⟨#[]⟩, 0, 0, 0, ⟨#[]⟩⟩⟩
  obtain ⟨n, hn⟩ : ∃ n, l.length = n := ⟨_, rfl⟩
  have H : Hid (w.ownsRow B 44 5 v l.length (l.map FlS.cells).flatten) := h
  have HR : Hid (∀ (m n : Nat) (os : Array Obj), n = l.length → ∀ (g cap : Nat), v = .slice (some ⟨g, 0, none⟩) n cap → (@sortWorldK FlS ih FlS.cells 5 w g 0 m (@Sort.insertionSort FlS ih (ltK FlS.tag) l.toArray 0 l.toArray.size) os).ownsRow B 44 5 v n ((srtF FlS.tag l).map FlS.cells).flatten ∧ Kp (fun b => v.ownBlock = some b) w (@sortWorldK FlS ih FlS.cells 5 w g 0 m (@Sort.insertionSort FlS ih (ltK FlS.tag) l.toArray 0 l.toArray.size) os)) := by
    intro m n os hn g cap hv
    subst hv hn
    have e1 : (@Sort.insertionSort FlS ih (ltK FlS.tag) l.toArray 0 l.toArray.size).size = l.length := by
      rw [← Array.length_toList, @insSort_srt FlS ih, srtF_len]
    obtain ⟨a1, a2⟩ := @own_sortedK FlS ih FlS.cells 5 (by decide) (fun _ => rfl) w B 44 g l.length cap m _ (@Sort.insertionSort FlS ih (ltK FlS.tag) l.toArray 0 l.toArray.size) os h e1
    rw [@insSort_srt FlS ih] at a1
    exact ⟨a1, a2.weak (fun b _ e => by rw [e]; rfl)⟩
  rcases h.2 with ⟨hv, h0⟩ | ⟨g, cap, cur, hv, hB, hg, h4, h5, _⟩
  · have : l = [] := List.eq_nil_of_length_eq_zero h0
    subst this
    subst hv
    go_enter Tryz.func82, Tryz.ntmps82
    go_wp2_with fail
    refine wp_loop_rounds 1 ?_
    rw [rounds_succ]
    go_wp2_with (go_at_call 120; refine (insF_none none 0 0 0 (by decide) _).mono ?_; rintro e w1 ⟨rfl, rfl⟩)
    refine wp_loop_rounds 1 ?_
    rw [rounds_succ]
    go_wp2_with fail
    go_end0
    exact ⟨rfl, H.out, Kp.refl _ _⟩
  · have HB := @own_holdsK FlS ih FlS.cells 5 (by decide) (fun _ => rfl) w B 44 g l.length cap l (by rw [← hv]; exact h)
    have hgs := (Array.getElem?_eq_some_iff.1 hg).1
    have HC0 : Calls Tryz.prog 120 #[.slice (some ⟨g, 0, none⟩) n cap, .int .i64 (0 : Nat), .int .i64 n, .func (.func 48) #[] #[]] w fun e w' => e = .returned (.tuple #[]) ∧ ∃ m os, w' = @sortWorldK FlS ih FlS.cells 5 w g 0 m (@Sort.insertionSort FlS ih (ltK FlS.tag) l.toArray 0 l.toArray.size) os := by
      have := insF_any ih (cap := cap) 0 l.toArray.size l.toArray HB hgs (Nat.zero_le _) (Nat.le_refl _) (by simp; omega)
      simpa [hn] using this
    have HC : Hid (Calls Tryz.prog 120 #[.slice (some ⟨g, 0, none⟩) n cap, .int .i64 (0 : Nat), .int .i64 n, .func (.func 48) #[] #[]] w fun e w' => e = .returned (.tuple #[]) ∧ ∃ m os, w' = @sortWorldK FlS ih FlS.cells 5 w g 0 m (@Sort.insertionSort FlS ih (ltK FlS.tag) l.toArray 0 l.toArray.size) os) := HC0
    clear HC0
    have HV := HR.out
    rw [hn] at hv hl ⊢
    subst hv
    have HV : Hid (∀ (m : Nat) (os : Array Obj), (@sortWorldK FlS ih FlS.cells 5 w g 0 m (@Sort.insertionSort FlS ih (ltK FlS.tag) l.toArray 0 l.toArray.size) os).ownsRow B 44 5 (.slice (some ⟨g, 0, none⟩) n cap) n ((srtF FlS.tag l).map FlS.cells).flatten ∧ Kp (fun b => (Value.slice (some ⟨g, 0, none⟩) n cap).ownBlock = some b) w (@sortWorldK FlS ih FlS.cells 5 w g 0 m (@Sort.insertionSort FlS ih (ltK FlS.tag) l.toArray 0 l.toArray.size) os)) := fun m os => HV m n os hn.symm g cap rfl
    clear H HR HB hg hn h h5
    generalize hD : (@Sort.insertionSort FlS ih (ltK FlS.tag) l.toArray 0 l.toArray.size) = D at *
    clear hD
    rcases Nat.lt_or_ge n 20 with h20 | h20
    · go_enter Tryz.func82, Tryz.ntmps82
      go_wp2_with fail
      refine wp_loop_rounds 1 ?_
      rw [rounds_succ]
      go_wp2_with (go_at_call 120; refine HC.out.mono ?_; rintro e w1 ⟨rfl, m, os, rfl⟩)
      refine wp_loop_rounds 1 ?_
      rw [rounds_succ]
      go_wp2_with fail
      go_end0
      exact ⟨rfl, HV.out m os⟩
    · obtain rfl : n = 20 := by omega
      go_enter Tryz.func82, Tryz.ntmps82
      go_wp2_with fail
      refine wp_loop_rounds 2 ?_
      rw [rounds_succ]
      go_wp2_with (go_at_call 120; refine HC.out.mono ?_; rintro e w1 ⟨rfl, m, os, rfl⟩)
      rw [rounds_succ]
      go_wp2_with (go_at_call 120; refine (insF_none (some ⟨g, 0, none⟩) 20 cap 20 (by decide) _).mono ?_; rintro e w1 ⟨rfl, rfl⟩)
      refine wp_loop_rounds 1 ?_
      rw [rounds_succ]
      go_wp2_with fail
      go_end0
      exact ⟨rfl, HV.out m os⟩

/-- No element: nothing is done. -/
theorem insN_none (p : Option Addr) (n cap k : Nat) (hk : k ≤ 1000000) (w : World) : Calls Tryz.prog 134 #[.slice p n cap, .int .i64 (k : Int), .int .i64 (k : Int), .func (.func 52) #[] #[]] w fun e w' => e = .returned (.tuple #[]) ∧ w' = w := by
  go_enter Tryz.func134, Tryz.ntmps134
  go_wp2_with fail
  refine wp_loop_rounds 1 ?_
  rw [rounds_succ]
  go_wp2_with fail
  go_end0
  exact ⟨rfl, rfl⟩
set_option maxHeartbeats 2000000 in
theorem stabN_few {w : World} {B : Nat} {v : Value} {l : List NmS} (h : w.ownsRow B 49 2 v l.length (l.map NmS.cells).flatten) (hl : l.length ≤ 20) :
    Calls Tryz.prog 86 #[v, .int .i64 (l.length : Int), .func (.func 52) #[] #[]] w fun e w' => e = .returned (.tuple #[]) ∧ w'.ownsRow B 49 2 v l.length ((srtF NmS.n l).map NmS.cells).flatten ∧ Kp (fun b => v.ownBlock = some b) w w' := by
  have ih : Inhabited NmS := ⟨⟨⟨#[]⟩, 0⟩⟩
  obtain ⟨n, hn⟩ : ∃ n, l.length = n := ⟨_, rfl⟩
  have H : Hid (w.ownsRow B 49 2 v l.length (l.map NmS.cells).flatten) := h
  have HR : Hid (∀ (m n : Nat) (os : Array Obj), n = l.length → ∀ (g cap : Nat), v = .slice (some ⟨g, 0, none⟩) n cap → (@sortWorldK NmS ih NmS.cells 2 w g 0 m (@Sort.insertionSort NmS ih (ltK NmS.n) l.toArray 0 l.toArray.size) os).ownsRow B 49 2 v n ((srtF NmS.n l).map NmS.cells).flatten ∧ Kp (fun b => v.ownBlock = some b) w (@sortWorldK NmS ih NmS.cells 2 w g 0 m (@Sort.insertionSort NmS ih (ltK NmS.n) l.toArray 0 l.toArray.size) os)) := by
    intro m n os hn g cap hv
    subst hv hn
    have e1 : (@Sort.insertionSort NmS ih (ltK NmS.n) l.toArray 0 l.toArray.size).size = l.length := by
      rw [← Array.length_toList, @insSort_srt NmS ih, srtF_len]
    obtain ⟨a1, a2⟩ := @own_sortedK NmS ih NmS.cells 2 (by decide) (fun _ => rfl) w B 49 g l.length cap m _ (@Sort.insertionSort NmS ih (ltK NmS.n) l.toArray 0 l.toArray.size) os h e1
    rw [@insSort_srt NmS ih] at a1
    exact ⟨a1, a2.weak (fun b _ e => by rw [e]; rfl)⟩
  rcases h.2 with ⟨hv, h0⟩ | ⟨g, cap, cur, hv, hB, hg, h4, h5, _⟩
  · have : l = [] := List.eq_nil_of_length_eq_zero h0
    subst this
    subst hv
    go_enter Tryz.func86, Tryz.ntmps86
    go_wp2_with fail
    refine wp_loop_rounds 1 ?_
    rw [rounds_succ]
    go_wp2_with (go_at_call 134; refine (insN_none none 0 0 0 (by decide) _).mono ?_; rintro e w1 ⟨rfl, rfl⟩)
    refine wp_loop_rounds 1 ?_
    rw [rounds_succ]
    go_wp2_with fail
    go_end0
    exact ⟨rfl, H.out, Kp.refl _ _⟩
  · have HB := @own_holdsK NmS ih NmS.cells 2 (by decide) (fun _ => rfl) w B 49 g l.length cap l (by rw [← hv]; exact h)
    have hgs := (Array.getElem?_eq_some_iff.1 hg).1
    have HC0 : Calls Tryz.prog 134 #[.slice (some ⟨g, 0, none⟩) n cap, .int .i64 (0 : Nat), .int .i64 n, .func (.func 52) #[] #[]] w fun e w' => e = .returned (.tuple #[]) ∧ ∃ m os, w' = @sortWorldK NmS ih NmS.cells 2 w g 0 m (@Sort.insertionSort NmS ih (ltK NmS.n) l.toArray 0 l.toArray.size) os := by
      have := insN_any ih (cap := cap) 0 l.toArray.size l.toArray HB hgs (Nat.zero_le _) (Nat.le_refl _) (by simp; omega)
      simpa [hn] using this
    have HC : Hid (Calls Tryz.prog 134 #[.slice (some ⟨g, 0, none⟩) n cap, .int .i64 (0 : Nat), .int .i64 n, .func (.func 52) #[] #[]] w fun e w' => e = .returned (.tuple #[]) ∧ ∃ m os, w' = @sortWorldK NmS ih NmS.cells 2 w g 0 m (@Sort.insertionSort NmS ih (ltK NmS.n) l.toArray 0 l.toArray.size) os) := HC0
    clear HC0
    have HV := HR.out
    rw [hn] at hv hl ⊢
    subst hv
    have HV : Hid (∀ (m : Nat) (os : Array Obj), (@sortWorldK NmS ih NmS.cells 2 w g 0 m (@Sort.insertionSort NmS ih (ltK NmS.n) l.toArray 0 l.toArray.size) os).ownsRow B 49 2 (.slice (some ⟨g, 0, none⟩) n cap) n ((srtF NmS.n l).map NmS.cells).flatten ∧ Kp (fun b => (Value.slice (some ⟨g, 0, none⟩) n cap).ownBlock = some b) w (@sortWorldK NmS ih NmS.cells 2 w g 0 m (@Sort.insertionSort NmS ih (ltK NmS.n) l.toArray 0 l.toArray.size) os)) := fun m os => HV m n os hn.symm g cap rfl
    clear H HR HB hg hn h h5
    generalize hD : (@Sort.insertionSort NmS ih (ltK NmS.n) l.toArray 0 l.toArray.size) = D at *
    clear hD
    rcases Nat.lt_or_ge n 20 with h20 | h20
    · go_enter Tryz.func86, Tryz.ntmps86
      go_wp2_with fail
      refine wp_loop_rounds 1 ?_
      rw [rounds_succ]
      go_wp2_with (go_at_call 134; refine HC.out.mono ?_; rintro e w1 ⟨rfl, m, os, rfl⟩)
      refine wp_loop_rounds 1 ?_
      rw [rounds_succ]
      go_wp2_with fail
      go_end0
      exact ⟨rfl, HV.out m os⟩
    · obtain rfl : n = 20 := by omega
      go_enter Tryz.func86, Tryz.ntmps86
      go_wp2_with fail
      refine wp_loop_rounds 2 ?_
      rw [rounds_succ]
      go_wp2_with (go_at_call 134; refine HC.out.mono ?_; rintro e w1 ⟨rfl, m, os, rfl⟩)
      rw [rounds_succ]
      go_wp2_with (go_at_call 134; refine (insN_none (some ⟨g, 0, none⟩) 20 cap 20 (by decide) _).mono ?_; rintro e w1 ⟨rfl, rfl⟩)
      refine wp_loop_rounds 1 ?_
      rw [rounds_succ]
      go_wp2_with fail
      go_end0
      exact ⟨rfl, HV.out m os⟩
end Go.Proofs.YtkfhlgajeejgeaaGreatDoor

/- What slices' symMerge answers, of any two runs in order, and the stable sort, of at most 39 named ones. -/
namespace Go.Proofs.YtkfhlgajeejgeaaGreatDoor
open Go.ChangeShapes Go.WideShapes Go.ChangeAt Go.RowKit Go.Sort Go.Lib
set_option linter.unusedVariables false
set_option linter.unusedSimpArgs false
set_option maxRecDepth 20000

theorem symM_any : ∀ (k : Nat) (X Y : List NmS), X.length + Y.length ≤ k → SymC X Y
  | 0, X, Y, hk => by
    intro w B q n cap A Z a m b _ _ _ _ _ _ h1 h2 _ _
    omega
  | k + 1, X, Y, hk => by
    rcases Nat.lt_or_ge X.length 2 with hx | hx
    · intro w B q n cap A Z a m b h hl hn ha hm hb h1 h2 ux uy
      obtain ⟨x, rfl⟩ := List.length_eq_one_iff.1 (show X.length = 1 by omega)
      exact symA_any h hl hn a m b ha (by simpa using hm) (by simp at hm; omega) uy
    · rcases Nat.lt_or_ge Y.length 2 with hy | hy
      · intro w B q n cap A Z a m b h hl hn ha hm hb h1 h2 ux uy
        obtain ⟨y, rfl⟩ := List.length_eq_one_iff.1 (show Y.length = 1 by omega)
        exact symB_any h hl hn a m b ha hm (by simpa using hb) hx ux
      · exact symG_any hx hy (fun X' Y' h => symM_any k X' Y' (by omega))
theorem insSort_part {α : Type} [Inhabited α] (key : α → Int) (d : Array α) (a b : Nat) (hab : a ≤ b) (hb : b ≤ d.size) : (Go.Sort.insertionSort (ltK key) d a b).toList = d.toList.take a ++ srtF key ((d.toList.drop a).take (b - a)) ++ d.toList.drop b := by
  obtain ⟨⟨hz, ho, _⟩, hs⟩ := Go.Sort.insertionSort_holds (lt := ltK key) (swo_ltK key) d a b hab hb
  have hf := fun t => insSort_filter key a b t d hb
  generalize Go.Sort.insertionSort (ltK key) d a b = D at *
  have ho' : ∀ i, i < a ∨ b ≤ i → D.toList[i]? = d.toList[i]? := by
    intro i hi
    rcases Nat.lt_or_ge i d.size with h | h
    · have := ho i hi
      rw [getElem!_pos D i (by omega), getElem!_pos d i (by omega)] at this
      rw [List.getElem?_eq_getElem (by simp; omega), List.getElem?_eq_getElem (by simp; omega)]
      simpa using this
    · rw [List.getElem?_eq_none (by simp; omega), List.getElem?_eq_none (by simp; omega)]
  have e1 : D.toList.take a = d.toList.take a := by
    apply List.ext_getElem?
    intro i
    rcases Nat.lt_or_ge i a with hi | hi
    · rw [List.getElem?_take_of_lt hi, List.getElem?_take_of_lt hi, ho' i (.inl hi)]
    · rw [List.getElem?_eq_none (by simp; omega), List.getElem?_eq_none (by simp; omega)]
  have e2 : D.toList.drop b = d.toList.drop b := by
    apply List.ext_getElem?
    intro i
    rw [List.getElem?_drop, List.getElem?_drop, ho' _ (.inr (by omega))]
  have e3 : ∀ l : List α, l = l.take a ++ ((l.drop a).take (b - a) ++ l.drop b) := by
    intro l
    have h2 := List.take_append_drop (b - a) (l.drop a)
    rw [List.drop_drop, show a + (b - a) = b by omega] at h2
    rw [h2, List.take_append_drop]
  have e4 : (D.toList.drop a).take (b - a) = srtF key ((d.toList.drop a).take (b - a)) := by
    refine srtK_eq key ⟨?_, fun t => ?_⟩
    · unfold UpK
      rw [List.pairwise_iff_getElem]
      intro i j hi hj hij
      have hj' : a + j < b := by
        rw [List.length_take, List.length_drop] at hj
        omega
      have := hs (a + i) (a + j) (by omega) (by omega) hj'
      rw [getElem!_pos D (a + j) (by omega), getElem!_pos D (a + i) (by omega)] at this
      simp only [ltK, decide_eq_false_iff_not] at this
      simp only [List.getElem_take, List.getElem_drop, Array.getElem_toList]
      omega
    · have := hf t
      rw [e3 D.toList, e3 d.toList] at this
      simp only [List.filter_append, e1, e2] at this
      exact List.append_cancel_right (List.append_cancel_left this)
  conv => lhs; rw [e3 D.toList]
  rw [e1, e2, e4, List.append_assoc]
theorem srt_two {α : Type} (key : α → Int) (X Y : List α) : srtF key (srtF key X ++ srtF key Y) = srtF key (X ++ Y) := by
  have h := srtF_srt key (srtF key X ++ srtF key Y)
  refine srtK_eq key ⟨h.1, fun t => ?_⟩
  rw [h.2 t, List.filter_append, (srtF_srt key X).2 t, (srtF_srt key Y).2 t, List.filter_append]
theorem insP_any {w : World} {B q n cap : Nat} {l : List NmS} (h : w.ownsRow B 49 2 (.slice (some ⟨q, 0, none⟩) n cap) n (nmRows l).flatten) (hl : l.length = n) (hn : n ≤ 1000) (a b : Nat) (hab : a ≤ b) (hb : b ≤ n) :
    Calls Tryz.prog 134 #[.slice (some ⟨q, 0, none⟩) n cap, .int .i64 (a : Int), .int .i64 (b : Int), .func (.func 52) #[] #[]] w fun e w' => e = .returned (.tuple #[]) ∧ w'.ownsRow B 49 2 (.slice (some ⟨q, 0, none⟩) n cap) n (nmRows (l.take a ++ srtF NmS.n ((l.drop a).take (b - a)) ++ l.drop b)).flatten ∧ Kp (fun x => x = q) w w' := by
  have ih : Inhabited NmS := ⟨⟨⟨#[]⟩, 0⟩⟩
  have HB := @own_holdsK NmS ih NmS.cells 2 (by decide) (fun _ => rfl) w B 49 q n cap l h
  have hgs : q < w.heap.size := by
    rcases h.2 with ⟨hv, h0⟩ | ⟨g, c', cur, hv, hB, hg, _⟩
    · cases hv
    · cases hv
      exact (Array.getElem?_eq_some_iff.1 hg).1
  have hs : l.toArray.size = n := by simpa using hl
  have := insN_any ih (cap := cap) a b l.toArray HB hgs hab (by omega) (by omega)
  rw [hs] at this
  refine this.mono ?_
  rintro e w' ⟨rfl, m, os, rfl⟩
  have ep := @insSort_part NmS ih NmS.n l.toArray a b hab (by omega)
  have e1 : (@Sort.insertionSort NmS ih (ltK NmS.n) l.toArray a b).size = n := by
    rw [← Array.length_toList, ep]
    simp only [List.length_append, srtF_len, List.length_take, List.length_drop]
    omega
  obtain ⟨a1, a2⟩ := @own_sortedK NmS ih NmS.cells 2 (by decide) (fun _ => rfl) w B 49 q n cap m _ _ os h e1
  rw [ep] at a1
  exact ⟨rfl, a1, a2⟩
set_option maxHeartbeats 2000000 in
theorem stabN_many {w : World} {B : Nat} {v : Value} {l : List NmS} (h : w.ownsRow B 49 2 v l.length (l.map NmS.cells).flatten) (h20 : 20 < l.length) (hl : l.length < 40) :
    Calls Tryz.prog 86 #[v, .int .i64 (l.length : Int), .func (.func 52) #[] #[]] w fun e w' => e = .returned (.tuple #[]) ∧ w'.ownsRow B 49 2 v l.length ((srtF NmS.n l).map NmS.cells).flatten ∧ Kp (fun b => v.ownBlock = some b) w w' := by
  obtain ⟨n, hn⟩ : ∃ n, l.length = n := ⟨_, rfl⟩
  rw [hn] at h h20 hl ⊢
  obtain ⟨q, cap, hv⟩ : ∃ q cap, v = .slice (some ⟨q, 0, none⟩) n cap := by
    rcases h.2 with ⟨hv, h0⟩ | ⟨g, cap, cur, hv, _⟩
    · omega
    · exact ⟨g, cap, hv⟩
  subst hv
  have hw : ∀ W : World, Kp (fun x => x = q) w W → Kp (fun b => (Value.slice (some ⟨q, 0, none⟩) n cap).ownBlock = some b) w W := fun W k => k.weak (fun b _ e => by rw [e]; rfl)
  have C1 := insP_any h hn (by omega) 0 20 (by omega) (by omega)
  have C2 := fun (W : World) hW => insP_any (w := W) (B := B) (q := q) (n := n) (cap := cap) (l := l.take 0 ++ srtF NmS.n ((l.drop 0).take (20 - 0)) ++ l.drop 20) hW (by simp only [List.length_append, srtF_len, List.length_take, List.length_drop]; omega) (by omega) 20 n (by omega) (by omega)
  have l1 : (srtF NmS.n (l.take 20)).length = 20 := by rw [srtF_len, List.length_take]; omega
  have l2 : (srtF NmS.n (l.drop 20)).length = n - 20 := by rw [srtF_len, List.length_drop]; omega
  have e1 : l.take 0 ++ srtF NmS.n ((l.drop 0).take (20 - 0)) ++ l.drop 20 = srtF NmS.n (l.take 20) ++ l.drop 20 := by simp
  rw [e1] at C1 C2
  have e2 : (srtF NmS.n (l.take 20) ++ l.drop 20).take 20 ++ srtF NmS.n (((srtF NmS.n (l.take 20) ++ l.drop 20).drop 20).take (n - 20)) ++ (srtF NmS.n (l.take 20) ++ l.drop 20).drop n = srtF NmS.n (l.take 20) ++ srtF NmS.n (l.drop 20) := by
    have t1 : (l.drop 20).take (n - 20) = l.drop 20 := List.take_of_length_le (by rw [List.length_drop]; omega)
    have t2 : (srtF NmS.n (l.take 20) ++ l.drop 20).drop n = [] := List.drop_of_length_le (by rw [List.length_append, l1, List.length_drop]; omega)
    rw [t2, List.take_left' l1, List.drop_left' l1, t1, List.append_nil]
  rw [e2] at C2
  have C3 := fun (W : World) hW => symM_any _ (srtF NmS.n (l.take 20)) (srtF NmS.n (l.drop 20)) (Nat.le_refl _) W B q n cap [] [] 0 20 n hW (by simp only [List.nil_append, List.append_nil, List.length_append, l1, l2]; omega) (by omega) rfl (by rw [l1]) (by rw [l2]; omega) (by rw [l1]; omega) (by rw [l2]; omega) (srtF_srt _ _).1 (srtF_srt _ _).1
  have e3 : srtF NmS.n (srtF NmS.n (l.take 20) ++ srtF NmS.n (l.drop 20)) = srtF NmS.n l := by rw [srt_two, List.take_append_drop]
  rw [List.nil_append, List.append_nil, e3, List.nil_append, List.append_nil] at C3
  change w.ownsRow B 49 2 (.slice (some ⟨q, 0, none⟩) n cap) n (nmRows l).flatten at h
  show Calls _ _ _ _ fun e w' => _ ∧ w'.ownsRow B 49 2 (.slice (some ⟨q, 0, none⟩) n cap) n (nmRows (srtF NmS.n l)).flatten ∧ _
  generalize srtF NmS.n (l.take 20) ++ srtF NmS.n (l.drop 20) = L2 at *
  generalize srtF NmS.n (l.take 20) ++ l.drop 20 = L1 at *
  generalize srtF NmS.n l = L3 at *
  have C1 : Hid _ := C1
  have C2 : Hid _ := C2
  have C3 : Hid _ := C3
  have HW : Hid _ := hw
  clear h hn l1 l2 e1 e2 e3 hw
  have z1 : (20 : Int) ≤ (n : Int) := by omega
  have z2 : ¬ (40 : Int) ≤ (n : Int) := by omega
  have z3 : (20 : Int) < (n : Int) := by omega
  have z4 : ¬ (40 : Int) < (n : Int) := by omega
  go_enter Tryz.func86, Tryz.ntmps86
  go_wp2_with fail
  refine wp_loop_rounds 2 ?_
  rw [rounds_succ]
  go_wp2_with (go_at_call 134; refine Calls.mono C1.out ?_; rintro e w1 ⟨rfl, h1, k1⟩)
  have H1 : Hid _ := h1
  have K1 : Hid _ := k1
  clear h1 k1
  rw [rounds_succ]
  go_wp2_with (go_at_call 134; refine Calls.mono (C2.out w1 H1.out) ?_; rintro e w2 ⟨rfl, h2, k2⟩)
  have H2 : Hid _ := h2
  have K2 : Hid (Kp (fun x => x = q) w w2) := K1.out.trans k2
  clear h2 k2
  refine wp_loop_rounds 2 ?_
  rw [rounds_succ]
  go_wp2_with fail
  refine wp_loop_rounds 1 ?_
  rw [rounds_succ]
  go_wp2_with (go_at_call 135; refine Calls.mono (C3.out w2 H2.out) ?_; rintro e w3 ⟨rfl, h3, k3⟩)
  have H3 : Hid _ := h3
  have K3 : Hid (Kp (fun x => x = q) w w3) := K2.out.trans k3
  clear h3 k3
  rw [rounds_succ]
  go_wp2_with fail
  go_end0
  exact ⟨rfl, H3.out, HW.out _ K3.out⟩
end Go.Proofs.YtkfhlgajeejgeaaGreatDoor

/- What slices.SortStableFunc answers, at rows of one's own. -/
namespace Go.Proofs.YtkfhlgajeejgeaaGreatDoor
open Go.ChangeShapes Go.WideShapes Go.ChangeAt Go.RowKit Go.Sort Go.Lib
set_option linter.unusedVariables false
set_option linter.unusedSimpArgs false
set_option maxRecDepth 20000

/-- So many named ones at most. -/
def capN : Nat := 24
theorem stabN_any {w : World} {B : Nat} {v : Value} {l : List NmS} (h : w.ownsRow B 49 2 v l.length (l.map NmS.cells).flatten) (hl : l.length ≤ capN) :
    Calls Tryz.prog 86 #[v, .int .i64 (l.length : Int), .func (.func 52) #[] #[]] w fun e w' => e = .returned (.tuple #[]) ∧ w'.ownsRow B 49 2 v l.length ((srtF NmS.n l).map NmS.cells).flatten ∧ Kp (fun b => v.ownBlock = some b) w w' := by
  rcases Nat.lt_or_ge 20 l.length with h1 | h1
  · exact stabN_many h h1 (Nat.lt_of_le_of_lt hl (by decide))
  · exact stabN_few h h1
theorem sortF_any {w : World} {B : Nat} {v : Value} {l : List FlS} (h : w.ownsRow B 44 5 v l.length (flRows l).flatten) (hl : l.length ≤ 20) :
    Calls Tryz.prog 47 #[v, .func (.func 48) #[] #[]] w fun e w' => e = .returned (.tuple #[]) ∧ w'.ownsRow B 44 5 v l.length (flRows (srtF FlS.tag l)).flatten ∧ Kp (fun b => v.ownBlock = some b) w w' := by
  obtain ⟨a, c, hv⟩ := own_form h
  subst hv
  have HC := stabF_few h hl
  obtain ⟨N, hN⟩ : ∃ N, l.length = N := ⟨_, rfl⟩
  rw [hN] at HC ⊢
  have HC : Hid _ := HC
  clear h hl hN
  go_enter Tryz.func47, Tryz.ntmps47
  go_wp2_with (go_at_call 82; refine Calls.mono HC.out ?_; rintro e w1 ⟨rfl, h1, h2⟩)
  go_end0
  exact ⟨rfl, h1, h2⟩
theorem sortN_any {w : World} {B : Nat} {v : Value} {l : List NmS} (h : w.ownsRow B 49 2 v l.length (nmRows l).flatten) (hl : l.length ≤ capN) :
    Calls Tryz.prog 51 #[v, .func (.func 52) #[] #[]] w fun e w' => e = .returned (.tuple #[]) ∧ w'.ownsRow B 49 2 v l.length (nmRows (srtF NmS.n l)).flatten ∧ Kp (fun b => v.ownBlock = some b) w w' := by
  obtain ⟨a, c, hv⟩ := own_form h
  subst hv
  have HC := stabN_any h hl
  obtain ⟨N, hN⟩ : ∃ N, l.length = N := ⟨_, rfl⟩
  rw [hN] at HC ⊢
  have HC : Hid _ := HC
  clear h hl hN
  go_enter Tryz.func51, Tryz.ntmps51
  go_wp2_with (go_at_call 86; refine Calls.mono HC.out ?_; rintro e w1 ⟨rfl, h1, h2⟩)
  go_end0
  exact ⟨rfl, h1, h2⟩
end Go.Proofs.YtkfhlgajeejgeaaGreatDoor

/- What print's fresh answers: a list in memory of its own. -/
namespace Go.Proofs.YtkfhlgajeejgeaaGreatDoor
open Go.ChangeShapes Go.WideShapes Go.ChangeAt Go.RowKit
set_option linter.unusedVariables false
set_option linter.unusedSimpArgs false
set_option maxRecDepth 20000

set_option maxHeartbeats 1000000 in
theorem pfreshM_any {w : World} {v : Value} {rs : List (List Value)} (hr : RowG w v 3 rs) (hl : ∀ r ∈ rs, r.length = 3) (h1 : ∀ u ∈ rs.flatten, u.oneCell' = true) (hn : rs.length ≤ 1000000) :
    Calls Tryz.prog 25 #[v] w fun e w' => ∃ u, e = .returned u ∧ w'.ownsRow w.heap.size 40 3 u rs.length rs.flatten ∧ Below w.heap.size w w' := by
  have HR : Hid (RowG w v 3 rs) := hr
  obtain ⟨a, c, rfl, q1, q2⟩ := hr.form2
  clear hr
  go_enter Tryz.func25, Tryz.ntmps25
  go_wp2_with (at_builtin; refine wpList_joinG rfl _ _ 22 40 3 64 _ rfl Tryz.underlying22 infoMs rfl (by decide) w.heap.size (.slice none 0 0) 0 [] rfl (World.ownsRow_nil _ _ _ _) (.slice a rs.length c) rs rfl HR.out hl h1 (by omega) (by decide) (Nat.le_refl _) ?_)
  intro u w1 h2 h3
  have hb : Below w.heap.size w w1 := (Below.refl _ _).grown h3 (Nat.le_refl _) (fun k hk => by cases hk)
  go_wp2_with fail
  go_ret
  exact ⟨u, rfl, h2, hb⟩
set_option maxHeartbeats 1000000 in
theorem pfreshE_any {w : World} {v : Value} {rs : List (List Value)} (hr : RowG w v 2 rs) (hl : ∀ r ∈ rs, r.length = 2) (h1 : ∀ u ∈ rs.flatten, u.oneCell' = true) (hn : rs.length ≤ 1000000) :
    Calls Tryz.prog 26 #[v] w fun e w' => ∃ u, e = .returned u ∧ w'.ownsRow w.heap.size 47 2 u rs.length rs.flatten ∧ Below w.heap.size w w' := by
  have HR : Hid (RowG w v 2 rs) := hr
  obtain ⟨a, c, rfl, q1, q2⟩ := hr.form2
  clear hr
  go_enter Tryz.func26, Tryz.ntmps26
  go_wp2_with (at_builtin; refine wpList_joinG rfl _ _ 23 47 2 40 _ rfl Tryz.underlying23 infoEn rfl (by decide) w.heap.size (.slice none 0 0) 0 [] rfl (World.ownsRow_nil _ _ _ _) (.slice a rs.length c) rs rfl HR.out hl h1 (by omega) (by decide) (Nat.le_refl _) ?_)
  intro u w1 h2 h3
  have hb : Below w.heap.size w w1 := (Below.refl _ _).grown h3 (Nat.le_refl _) (fun k hk => by cases hk)
  go_wp2_with fail
  go_ret
  exact ⟨u, rfl, h2, hb⟩
set_option maxHeartbeats 1000000 in
theorem pfreshT_any {w : World} {v : Value} {rs : List (List Value)} (hr : RowG w v 3 rs) (hl : ∀ r ∈ rs, r.length = 3) (h1 : ∀ u ∈ rs.flatten, u.oneCell' = true) (hn : rs.length ≤ 1000000) :
    Calls Tryz.prog 27 #[v] w fun e w' => ∃ u, e = .returned u ∧ w'.ownsRow w.heap.size 54 3 u rs.length rs.flatten ∧ Below w.heap.size w w' := by
  have HR : Hid (RowG w v 3 rs) := hr
  obtain ⟨a, c, rfl, q1, q2⟩ := hr.form2
  clear hr
  go_enter Tryz.func27, Tryz.ntmps27
  go_wp2_with (at_builtin; refine wpList_joinG rfl _ _ 24 54 3 48 _ rfl Tryz.underlying24 infoMt rfl (by decide) w.heap.size (.slice none 0 0) 0 [] rfl (World.ownsRow_nil _ _ _ _) (.slice a rs.length c) rs rfl HR.out hl h1 (by omega) (by decide) (Nat.le_refl _) ?_)
  intro u w1 h2 h3
  have hb : Below w.heap.size w w1 := (Below.refl _ _).grown h3 (Nat.le_refl _) (fun k hk => by cases hk)
  go_wp2_with fail
  go_ret
  exact ⟨u, rfl, h2, hb⟩
set_option maxHeartbeats 1000000 in
theorem pfreshF_any {w : World} {v : Value} {rs : List (List Value)} (hr : RowG w v 5 rs) (hl : ∀ r ∈ rs, r.length = 5) (h1 : ∀ u ∈ rs.flatten, u.oneCell' = true) (hn : rs.length ≤ 1000000) :
    Calls Tryz.prog 45 #[v] w fun e w' => ∃ u, e = .returned u ∧ w'.ownsRow w.heap.size 44 5 u rs.length rs.flatten ∧ Below w.heap.size w w' := by
  have HR : Hid (RowG w v 5 rs) := hr
  obtain ⟨a, c, rfl, q1, q2⟩ := hr.form2
  clear hr
  go_enter Tryz.func45, Tryz.ntmps45
  go_wp2_with (at_builtin; refine wpList_joinG rfl _ _ 37 44 5 56 _ rfl Tryz.underlying37 infoFl rfl (by decide) w.heap.size (.slice none 0 0) 0 [] rfl (World.ownsRow_nil _ _ _ _) (.slice a rs.length c) rs rfl HR.out hl h1 (by omega) (by decide) (Nat.le_refl _) ?_)
  intro u w1 h2 h3
  have hb : Below w.heap.size w w1 := (Below.refl _ _).grown h3 (Nat.le_refl _) (fun k hk => by cases hk)
  go_wp2_with fail
  go_ret
  exact ⟨u, rfl, h2, hb⟩
set_option maxHeartbeats 1000000 in
theorem pfreshI_any {w : World} {v : Value} {rs : List (List Value)} (hr : RowG w v 1 rs) (hl : ∀ r ∈ rs, r.length = 1) (h1 : ∀ u ∈ rs.flatten, u.oneCell' = true) (hn : rs.length ≤ 1000000) :
    Calls Tryz.prog 46 #[v] w fun e w' => ∃ u, e = .returned u ∧ w'.ownsRow w.heap.size 3 1 u rs.length rs.flatten ∧ Below w.heap.size w w' := by
  have HR : Hid (RowG w v 1 rs) := hr
  obtain ⟨a, c, rfl, q1, q2⟩ := hr.form2
  clear hr
  go_enter Tryz.func46, Tryz.ntmps46
  go_wp2_with (at_builtin; refine wpList_joinG rfl _ _ 38 3 1 8 _ rfl Tryz.underlying38 infoIn rfl (by decide) w.heap.size (.slice none 0 0) 0 [] rfl (World.ownsRow_nil _ _ _ _) (.slice a rs.length c) rs rfl HR.out hl h1 (by omega) (by decide) (Nat.le_refl _) ?_)
  intro u w1 h2 h3
  have hb : Below w.heap.size w w1 := (Below.refl _ _).grown h3 (Nat.le_refl _) (fun k hk => by cases hk)
  go_wp2_with fail
  go_ret
  exact ⟨u, rfl, h2, hb⟩
set_option maxHeartbeats 1000000 in
theorem pfreshN_any {w : World} {v : Value} {rs : List (List Value)} (hr : RowG w v 2 rs) (hl : ∀ r ∈ rs, r.length = 2) (h1 : ∀ u ∈ rs.flatten, u.oneCell' = true) (hn : rs.length ≤ 1000000) :
    Calls Tryz.prog 50 #[v] w fun e w' => ∃ u, e = .returned u ∧ w'.ownsRow w.heap.size 49 2 u rs.length rs.flatten ∧ Below w.heap.size w w' := by
  have HR : Hid (RowG w v 2 rs) := hr
  obtain ⟨a, c, rfl, q1, q2⟩ := hr.form2
  clear hr
  go_enter Tryz.func50, Tryz.ntmps50
  go_wp2_with (at_builtin; refine wpList_joinG rfl _ _ 45 49 2 24 _ rfl Tryz.underlying45 infoNm rfl (by decide) w.heap.size (.slice none 0 0) 0 [] rfl (World.ownsRow_nil _ _ _ _) (.slice a rs.length c) rs rfl HR.out hl h1 (by omega) (by decide) (Nat.le_refl _) ?_)
  intro u w1 h2 h3
  have hb : Below w.heap.size w w1 := (Below.refl _ _).grown h3 (Nat.le_refl _) (fun k hk => by cases hk)
  go_wp2_with fail
  go_ret
  exact ⟨u, rfl, h2, hb⟩
end Go.Proofs.YtkfhlgajeejgeaaGreatDoor

/- A region that draws its order: behind the operation for which the condition is kept, one operation alone is ready. -/
namespace Go.Proofs.YtkfhlgajeejgeaaGreatDoor
set_option linter.unusedVariables false
set_option linter.unusedSimpArgs false
section
variable {P : Program} {md : Region.Mode} {ops : Array Oper} {Q : Exit → Act → World → Prop} {T : World → Prop} {m : Nat}
theorem M_runA {oi : Oper} {fuel : Nat} {listed listed' : Array Bool} {a : Act} {w : World} (i d : Nat) (v : Value) (w' : World) (hi : ops[i]? = some oi) (hd : oi.dst = some d)
    (hr : Region.ready md ops listed = [i]) (hwt : Region.wanted oi (yielded ops a.tmps) = true) (hl : listed.setIfInBounds i true = listed') (hx : (execOp a.eval oi).run P w = .ok (.value v) w') (hm : listed'.getD m true = true)
    (h : wpAnyM P md ops Q T m fuel listed' { a with tmps := a.tmps.setIfInBounds d v } w') : wpAnyM P md ops Q T m (fuel + 1) listed a w := by
  subst hl
  refine ⟨fun h0 => (by rw [hr] at h0; cases h0), fun j hj => ?_⟩
  rw [hr, List.mem_singleton] at hj
  subst hj
  unfold wpOp
  simp only [hi]
  rw [if_pos hwt]
  refine .inl ?_
  unfold Oper.wp
  rw [hx, Oper.upon_value, hd]
  exact ⟨fun h0 => (by rw [hm] at h0; cases h0), h⟩
end
end Go.Proofs.YtkfhlgajeejgeaaGreatDoor

/- What print's canonMessage and canonEnum answer. -/
namespace Go.Proofs.YtkfhlgajeejgeaaGreatDoor
open Go.ChangeShapes Go.WideShapes Go.ChangeAt Go.RowKit
set_option linter.unusedVariables false
set_option linter.unusedSimpArgs false
set_option maxRecDepth 20000

set_option maxHeartbeats 4000000 in
theorem canonM_any {w : World} {vf vr : Value} {m : MsS} (hf : RowG w vf 5 (flRows m.fields)) (hr : RowG w vr 1 (inRows m.reserved)) (h1 : m.fields.length ≤ 20) (h2 : m.reserved.length ≤ 1000) :
    Calls Tryz.prog 28 #[.agg #[.string m.name, vf, vr]] w fun e w' => ∃ uf ur, e = .returned (.agg #[.string m.name, uf, ur]) ∧ w'.ownsRow w.heap.size 44 5 uf m.fields.length (flRows (canonM m).fields).flatten ∧ w'.ownsRow w.heap.size 3 1 ur m.reserved.length (inRows (canonM m).reserved).flatten ∧ Below w.heap.size w w' := by
  obtain ⟨af, cf, rfl, p1, p2⟩ := hf.form2
  obtain ⟨ar, cr, rfl, q1, q2⟩ := hr.form2
  obtain ⟨nm, mf, mr⟩ := m
  simp only [canonM] at *
  have HF : Hid (RowG w (.slice af (flRows mf).length cf) 5 (flRows mf)) := hf
  have HR : Hid (RowG w (.slice ar (inRows mr).length cr) 1 (inRows mr)) := hr
  have HLF : Hid ((flRows mf).length = mf.length) := by show _ = _; simp [flRows]
  have HLR : Hid ((inRows mr).length = mr.length) := by show _ = _; simp [inRows]
  generalize hnF : (flRows mf).length = nF at *
  generalize hnR : (inRows mr).length = nR at *
  have HNF : Hid ((flRows mf).length = nF) := hnF
  have HNR : Hid ((inRows mr).length = nR) := hnR
  clear hf hr hnF hnR
  have H1 : Hid (mf.length ≤ 20) := h1
  have H2 : Hid (mr.length ≤ 1000) := h2
  clear h1 h2
  go_enter Tryz.func28, Tryz.ntmps28
  go_wp2_with fail
  refine M_region (T := fun W => W.cell? ⟨w.heap.size, 1, none⟩ = some (.slice af nF cf) ∧ W.cell? ⟨w.heap.size, 2, none⟩ = some (.slice ar nR cr)) (m := 7) (by kernel_rfl) ?_
  have HB0 : Hid (Below w.heap.size w ((w.alloc (.cells #[.string nm, .slice af nF cf, .slice ar nR cr] 40)).alloc (.cells #[.string ⟨#[]⟩, .slice none 0 0, .slice none 0 0] 40)).drew) := below_drewN 1 (((Below.refl _ _).alloc (Nat.le_refl _) _).alloc (by simp) _)
  have HX0 : Hid (Blk ((w.alloc (.cells #[.string nm, .slice af nF cf, .slice ar nR cr] 40)).alloc (.cells #[.string ⟨#[]⟩, .slice none 0 0, .slice none 0 0] 40)).drew w.heap.size #[.string nm, .slice af nF cf, .slice ar nR cr] 40) := (Blk.new w _ _).below (below_drewN 1 ((Below.refl _ _).alloc (Nat.le_refl _) _))
  have HR0 : Hid (Blk ((w.alloc (.cells #[.string nm, .slice af nF cf, .slice ar nR cr] 40)).alloc (.cells #[.string ⟨#[]⟩, .slice none 0 0, .slice none 0 0] 40)).drew (w.heap.size + 1) #[.string ⟨#[]⟩, .slice none 0 0, .slice none 0 0] 40) := by
    have := Blk.new (w.alloc (.cells #[.string nm, .slice af nF cf, .slice ar nR cr] 40)) #[.string ⟨#[]⟩, .slice none 0 0, .slice none 0 0] 40
    rw [show (w.alloc (.cells #[.string nm, .slice af nF cf, .slice ar nR cr] 40)).heap.size = w.heap.size + 1 by simp] at this
    exact this
  have HS0 : Hid (((w.alloc (.cells #[.string nm, .slice af nF cf, .slice ar nR cr] 40)).alloc (.cells #[.string ⟨#[]⟩, .slice none 0 0, .slice none 0 0] 40)).drew.heap.size = w.heap.size + 2) := by show _ = _; simp [World.drew]
  generalize ((w.alloc (.cells #[.string nm, .slice af nF cf, .slice ar nR cr] 40)).alloc (.cells #[.string ⟨#[]⟩, .slice none 0 0, .slice none 0 0] 40)).drew = W0 at *
  obtain ⟨b0, hb0⟩ : ∃ n, w.heap.size = n := ⟨_, rfl⟩
  rw [hb0] at HX0 HR0 HS0 ⊢
  have HBZ : Hid (w.heap.size = b0) := hb0
  clear hb0
  have hTW : ∀ W, Below W0.heap.size W0 W → W.cell? ⟨b0, 1, none⟩ = some (.slice af nF cf) ∧ W.cell? ⟨b0, 2, none⟩ = some (.slice ar nR cr) := fun W hW => ⟨(HX0.out.below hW).cell 1, (HX0.out.below hW).cell 2⟩
  have hT := hTW W0 (Below.refl _ _)
  refine M_take 0 3 (.pointer (some ⟨b0, 1, none⟩)) _ rfl rfl (by kernel_rfl) (by kernel_rfl) (by kernel_rfl) (by kernel_rfl) (by kernel_rfl) (fun _ _ _ h => h) (by rfl) (fun w' hw' => ?_) hT (listed' := #[true, false, false, false, false, false, false, false, false, false]) (by kernel_rfl) rfl ?_
  · obtain ⟨g1, g2⟩ := hw'; go_simp
  simp only [List.setIfInBounds_toArray, List.set_cons_zero, List.set_cons_succ]
  refine M_take 3 6 (.pointer (some ⟨b0, 2, none⟩)) _ rfl rfl (by kernel_rfl) (by kernel_rfl) (by kernel_rfl) (by kernel_rfl) (by kernel_rfl) (fun _ _ _ h => h) (by rfl) (fun w' hw' => ?_) hT (listed' := #[true, false, false, true, false, false, false, false, false, false]) (by kernel_rfl) rfl ?_
  · obtain ⟨g1, g2⟩ := hw'; go_simp
  simp only [List.setIfInBounds_toArray, List.set_cons_zero, List.set_cons_succ]
  refine M_take 1 4 (.slice af nF cf) _ rfl rfl (by kernel_rfl) (by kernel_rfl) (by kernel_rfl) (by kernel_rfl) (by kernel_rfl) (fun _ _ _ h => h) (by rfl) (fun w' hw' => ?_) hT (listed' := #[true, true, false, true, false, false, false, false, false, false]) (by kernel_rfl) rfl ?_
  · obtain ⟨g1, g2⟩ := hw'; go_simp
  simp only [List.setIfInBounds_toArray, List.set_cons_zero, List.set_cons_succ]
  refine M_take 4 7 (.slice ar nR cr) _ rfl rfl (by kernel_rfl) (by kernel_rfl) (by kernel_rfl) (by kernel_rfl) (by kernel_rfl) (fun _ _ _ h => h) (by rfl) (fun w' hw' => ?_) hT (listed' := #[true, true, false, true, true, false, false, false, false, false]) (by kernel_rfl) rfl ?_
  · obtain ⟨g1, g2⟩ := hw'; go_simp
  simp only [List.setIfInBounds_toArray, List.set_cons_zero, List.set_cons_succ]
  refine M_call 2 5 45 #[.slice af nF cf] rfl rfl (by kernel_rfl) (by rfl) (listed' := #[true, true, true, true, true, false, false, false, false, false]) (by kernel_rfl) (fun W => by go_simp) ?_
  refine (pfreshF_any (HF.out.below HB0.out) (flr_len _) (flr_one _) (by have := HLF.out; have := HNF.out; have := H1.out; omega)).mono ?_
  rintro e W1 ⟨uf, rfl, ho1, hb1⟩
  have hT := hTW W1 hb1
  rw [HNF.out] at ho1
  obtain ⟨fa, fc, hu⟩ := own_form ho1
  subst hu
  refine ⟨_, rfl, hT, ?_⟩
  simp only [List.setIfInBounds_toArray, List.set_cons_zero, List.set_cons_succ]
  have HO1 : Hid (W1.ownsRow W0.heap.size 44 5 (.slice fa nF fc) nF (flRows mf).flatten) := ho1
  clear ho1
  refine M_take 6 9 (.pointer (some ⟨b0, 1, none⟩)) _ rfl rfl (by kernel_rfl) (by kernel_rfl) (by kernel_rfl) (by kernel_rfl) (by kernel_rfl) (fun _ _ _ h => h) (by rfl) (fun w' hw' => ?_) hT (listed' := #[true, true, true, true, true, false, true, false, false, false]) (by kernel_rfl) rfl ?_
  · obtain ⟨g1, g2⟩ := hw'; go_simp
  simp only [List.setIfInBounds_toArray, List.set_cons_zero, List.set_cons_succ]
  refine M_call 5 8 46 #[.slice ar nR cr] rfl rfl (by kernel_rfl) (by rfl) (listed' := #[true, true, true, true, true, true, true, false, false, false]) (by kernel_rfl) (fun W => by go_simp) ?_
  refine (pfreshI_any ((HR.out.below HB0.out).below hb1) (inr_len _) (inr_one _) (by have := HLR.out; have := HNR.out; have := H2.out; omega)).mono ?_
  rintro e W2 ⟨ur, rfl, ho2, hb2⟩
  have hb02 : Below W0.heap.size W0 W2 := hb1.trans (hb2.mono hb1.size)
  have hT := hTW W2 hb02
  rw [HNR.out] at ho2
  obtain ⟨ra, rc, hu⟩ := own_form ho2
  subst hu
  refine ⟨_, rfl, hT, ?_⟩
  simp only [List.setIfInBounds_toArray, List.set_cons_zero, List.set_cons_succ]
  have HO2 : Hid (W2.ownsRow W0.heap.size 3 1 (.slice ra nR rc) nR (inRows mr).flatten) := own_base ho2 hb1.size
  have HO1 : Hid (W2.ownsRow W0.heap.size 44 5 (.slice fa nF fc) nF (flRows mf).flatten) := own_below HO1.out hb2
  clear ho2 hb2 hb1
  have BX2 := HX0.out.below hb02
  have BR2 := HR0.out.below hb02
  have hbw : Below w.heap.size w W2 := HB0.out.trans (hb02.mono HB0.out.size)
  have HSZ : Hid (b0 + 2 = W0.heap.size) := HS0.out.symm
  have x1 := (BX2.cell 1).trans rfl
  have x2 := (BX2.cell 2).trans rfl
  have z1 := BX2.froz 1
  have z2 := BX2.froz 2
  refine M_store 7 (W2.setCell ⟨b0, 1, none⟩ (.slice fa nF fc)) rfl rfl (by kernel_rfl) (by rfl) (listed' := #[true, true, true, true, true, true, true, true, false, false]) (by kernel_rfl) (by go_simp) (by kernel_rfl) ?_
  have BX3 : Blk (W2.setCell ⟨b0, 1, none⟩ (.slice fa nF fc)) b0 #[.string nm, .slice fa nF fc, .slice ar nR cr] 40 := BX2.set 1 _ rfl
  have y2 := (BX3.cell 2).trans rfl
  have z3 := BX3.froz 2
  refine M_runA 8 10 (.pointer (some ⟨b0, 2, none⟩)) (W2.setCell ⟨b0, 1, none⟩ (.slice fa nF fc)) rfl rfl (by kernel_rfl) (by rfl) (listed' := #[true, true, true, true, true, true, true, true, true, false]) (by kernel_rfl) (by go_simp) (by kernel_rfl) ?_
  simp only [List.setIfInBounds_toArray, List.set_cons_zero, List.set_cons_succ]
  refine M_store 9 ((W2.setCell ⟨b0, 1, none⟩ (.slice fa nF fc)).setCell ⟨b0, 2, none⟩ (.slice ra nR rc)) rfl rfl (by kernel_rfl) (by rfl) (listed' := #[true, true, true, true, true, true, true, true, true, true]) (by kernel_rfl) (by go_simp) (by kernel_rfl) ?_
  refine M_done (by kernel_rfl) ?_ _
  have KS : Kp (fun k => k = b0) W2 ((W2.setCell ⟨b0, 1, none⟩ (.slice fa nF fc)).setCell ⟨b0, 2, none⟩ (.slice ra nR rc)) := by
    refine Kp.setCell ?_ (fun _ => by simp) _
    refine Kp.setCell ?_ (fun _ => by simp) _
    exact Kp.refl _ _
  have BX4 : Blk ((W2.setCell ⟨b0, 1, none⟩ (.slice fa nF fc)).setCell ⟨b0, 2, none⟩ (.slice ra nR rc)) b0 #[.string nm, .slice fa nF fc, .slice ra nR rc] 40 := BX3.set 2 _ rfl
  have BR4 := BR2.kp KS (by omega)
  have HO1' : Hid (((W2.setCell ⟨b0, 1, none⟩ (.slice fa nF fc)).setCell ⟨b0, 2, none⟩ (.slice ra nR rc)).ownsRow W0.heap.size 44 5 (.slice fa nF fc) nF (flRows mf).flatten) := own_kp HO1.out KS (fun k hk => by have := HSZ.out; omega)
  have HO2' : Hid (((W2.setCell ⟨b0, 1, none⟩ (.slice fa nF fc)).setCell ⟨b0, 2, none⟩ (.slice ra nR rc)).ownsRow W0.heap.size 3 1 (.slice ra nR rc) nR (inRows mr).flatten) := own_kp HO2.out KS (fun k hk => by have := HSZ.out; omega)
  have hb4 : Below w.heap.size w ((W2.setCell ⟨b0, 1, none⟩ (.slice fa nF fc)).setCell ⟨b0, 2, none⟩ (.slice ra nR rc)) := hbw.trans (KS.toBelow hbw.size (fun k e => by have := HBZ.out; omega))
  generalize ((W2.setCell ⟨b0, 1, none⟩ (.slice fa nF fc)).setCell ⟨b0, 2, none⟩ (.slice ra nR rc)) = W4 at *
  clear x1 x2 z1 z2 y2 z3 BX3 KS HO1 HO2 BX2 BR2 hbw hT hTW HX0 HR0 HB0 hb02 HF HR
  have x1 := (BX4.cell 1).trans rfl
  go_wp2_with fail
  clear x1
  have HS1 := sortF_any (l := mf) (by rw [HLF.out.symm]; exact HO1'.out) H1.out
  rw [← HLF.out] at HS1
  refine HS1.mono ?_
  rintro e W5 ⟨rfl, ho5, k5⟩
  have HO5 : Hid (W5.ownsRow W0.heap.size 44 5 (.slice fa nF fc) nF (flRows (srtF FlS.tag mf)).flatten) := ho5
  have hlow : ∀ b, (Value.slice fa nF fc).ownBlock = some b → W0.heap.size ≤ b := fun b hb => (HO1'.out.lt b hb).1
  have BX5 := BX4.kp k5 (fun e => by have := hlow _ e; have := HSZ.out; omega)
  have BR5 := BR4.kp k5 (fun e => by have := hlow _ e; have := HSZ.out; omega)
  have HO6 : Hid (W5.ownsRow W0.heap.size 3 1 (.slice ra nR rc) nR (inRows mr).flatten) := own_kpV HO2'.out k5 (fun k hv hq => own_apart HO1'.out HO2'.out (by decide) k hq hv)
  have hb5 : Below w.heap.size w W5 := hb4.trans (k5.toBelow hb4.size (fun k e => by have := hlow _ e; have := HSZ.out; have := HBZ.out; omega))
  clear HO1' HO2' BX4 BR4 hb4 k5 hlow ho5 HS1
  have x2 := (BX5.cell 2).trans rfl
  go_wp2_with fail
  clear x2
  have HS1 := sortI_any (ns := mr) (by rw [HLR.out.symm]; exact HO6.out) (by have := H2.out; omega)
  rw [← HLR.out] at HS1
  refine HS1.mono ?_
  rintro e W7 ⟨rfl, ho7, k7⟩
  have hlow : ∀ b, (Value.slice ra nR rc).ownBlock = some b → W0.heap.size ≤ b := fun b hb => (HO6.out.lt b hb).1
  have BX7 := BX5.kp k7 (fun e => by have := hlow _ e; have := HSZ.out; omega)
  have BR7 := BR5.kp k7 (fun e => by have := hlow _ e; have := HSZ.out; omega)
  have HO7 : Hid (W7.ownsRow W0.heap.size 3 1 (.slice ra nR rc) nR (inRows (srtF (fun x => x) mr)).flatten) := ho7
  have HO8 : Hid (W7.ownsRow W0.heap.size 44 5 (.slice fa nF fc) nF (flRows (srtF FlS.tag mf)).flatten) := own_kpV HO5.out k7 (fun k hv hq => own_apart HO6.out HO5.out (by decide) k hq hv)
  have hb7 : Below w.heap.size w W7 := hb5.trans (k7.toBelow hb5.size (fun k e => by have := hlow _ e; have := HSZ.out; have := HBZ.out; omega))
  clear HO5 HO6 BX5 BR5 hb5 k7 hlow ho7 HS1
  have x0 := (BX7.cell 0).trans rfl
  have x1 := (BX7.cell 1).trans rfl
  have x2 := (BX7.cell 2).trans rfl
  have r0 := (BR7.cell 0).trans rfl
  have r1 := (BR7.cell 1).trans rfl
  have r2 := (BR7.cell 2).trans rfl
  have s0 := BR7.froz 0
  have s1 := BR7.froz 1
  have s2 := BR7.froz 2
  go_wp2_with fail
  refine bodyPost_ret (results_cell rfl _ _ _ ⟨b0 + 1, 0, none⟩ (.agg #[.string nm, .slice fa nF fc, .slice ra nR rc]) (by go_simp) (by go_simp)) rfl ?_
  have KS : Kp (fun k => k = b0 + 1) W7 (((W7.setCell ⟨b0 + 1, 0, none⟩ (.string nm)).setCell ⟨b0 + 1, 1, none⟩ (.slice fa nF fc)).setCell ⟨b0 + 1, 2, none⟩ (.slice ra nR rc)) := by
    refine Kp.setCell ?_ (fun _ => by simp) _
    refine Kp.setCell ?_ (fun _ => by simp) _
    refine Kp.setCell ?_ (fun _ => by simp) _
    exact Kp.refl _ _
  have hle : w.heap.size ≤ W0.heap.size := by have := HSZ.out; have := HBZ.out; omega
  refine ⟨_, _, rfl, ?_, ?_, hb7.trans (KS.toBelow hb7.size (fun k e => by have := HBZ.out; omega))⟩
  · rw [HLF.out.symm]
    exact own_base (own_kp HO8.out KS (fun k hk => by have := HSZ.out; omega)) hle
  · rw [HLR.out.symm]
    exact own_base (own_kp HO7.out KS (fun k hk => by have := HSZ.out; omega)) hle
set_option maxHeartbeats 4000000 in
theorem canonE_any {w : World} {vf : Value} {m : EnS} (hf : RowG w vf 2 (nmRows m.values)) (h1 : m.values.length ≤ capN) :
    Calls Tryz.prog 29 #[.agg #[.string m.name, vf]] w fun e w' => ∃ uf, e = .returned (.agg #[.string m.name, uf]) ∧ w'.ownsRow w.heap.size 49 2 uf m.values.length (nmRows (canonE m).values).flatten ∧ Below w.heap.size w w' := by
  obtain ⟨af, cf, rfl, p1, p2⟩ := hf.form2
  obtain ⟨nm, mf⟩ := m
  simp only [canonE] at *
  have HF : Hid (RowG w (.slice af (nmRows mf).length cf) 2 (nmRows mf)) := hf
  have HLF : Hid ((nmRows mf).length = mf.length) := by show _ = _; simp [nmRows]
  generalize hnF : (nmRows mf).length = nF at *
  have HNF : Hid ((nmRows mf).length = nF) := hnF
  clear hf hnF
  have H1 : Hid (mf.length ≤ capN) := h1
  have hcap : capN ≤ 1000 := by decide
  clear h1
  have HB0 : Hid (Below w.heap.size w ((w.alloc (.cells #[.string nm, .slice af nF cf] 47)).alloc (.cells #[.string ⟨#[]⟩, .slice none 0 0] 47))) := ((Below.refl _ _).alloc (Nat.le_refl _) _).alloc (by simp) _
  have HX0 : Hid (Blk ((w.alloc (.cells #[.string nm, .slice af nF cf] 47)).alloc (.cells #[.string ⟨#[]⟩, .slice none 0 0] 47)) w.heap.size #[.string nm, .slice af nF cf] 47) := (Blk.new w _ _).below ((Below.refl _ _).alloc (Nat.le_refl _) _)
  have HR0 : Hid (Blk ((w.alloc (.cells #[.string nm, .slice af nF cf] 47)).alloc (.cells #[.string ⟨#[]⟩, .slice none 0 0] 47)) (w.heap.size + 1) #[.string ⟨#[]⟩, .slice none 0 0] 47) := by
    have := Blk.new (w.alloc (.cells #[.string nm, .slice af nF cf] 47)) #[.string ⟨#[]⟩, .slice none 0 0] 47
    rw [show (w.alloc (.cells #[.string nm, .slice af nF cf] 47)).heap.size = w.heap.size + 1 by simp] at this
    exact this
  have HS0 : Hid (((w.alloc (.cells #[.string nm, .slice af nF cf] 47)).alloc (.cells #[.string ⟨#[]⟩, .slice none 0 0] 47)).heap.size = w.heap.size + 2) := by show _ = _; simp
  go_enter Tryz.func29, Tryz.ntmps29
  go_wp2_with fail
  generalize ((w.alloc (.cells #[.string nm, .slice af nF cf] 47)).alloc (.cells #[.string ⟨#[]⟩, .slice none 0 0] 47)) = W0 at *
  obtain ⟨b0, hb0⟩ : ∃ n, w.heap.size = n := ⟨_, rfl⟩
  rw [hb0] at HX0 HR0 HS0 ⊢
  have HBZ : Hid (w.heap.size = b0) := hb0
  clear hb0
  refine (pfreshN_any (HF.out.below HB0.out) (nmr_len _) (nmr_one _) (by have := HLF.out; have := HNF.out; have := H1.out; omega)).mono ?_
  rintro e W1 ⟨uf, rfl, ho1, hb1⟩
  rw [HNF.out] at ho1
  obtain ⟨fa, fc, hu⟩ := own_form ho1
  subst hu
  have HO1 : Hid (W1.ownsRow W0.heap.size 49 2 (.slice fa nF fc) nF (nmRows mf).flatten) := ho1
  clear ho1
  have BX1 := HX0.out.below hb1
  have BR1 := HR0.out.below hb1
  have hbw : Below w.heap.size w W1 := HB0.out.trans (hb1.mono HB0.out.size)
  have HSZ : Hid (b0 + 2 = W0.heap.size) := HS0.out.symm
  have x1 := (BX1.cell 1).trans rfl
  have z1 := BX1.froz 1
  have KS : Kp (fun k => k = b0) W1 (W1.setCell ⟨b0, 1, none⟩ (.slice fa nF fc)) := by
    refine Kp.setCell ?_ (fun _ => by simp) _
    exact Kp.refl _ _
  have BX4 : Blk (W1.setCell ⟨b0, 1, none⟩ (.slice fa nF fc)) b0 #[.string nm, .slice fa nF fc] 47 := BX1.set 1 _ rfl
  have BR4 := BR1.kp KS (by omega)
  have HO1' : Hid ((W1.setCell ⟨b0, 1, none⟩ (.slice fa nF fc)).ownsRow W0.heap.size 49 2 (.slice fa nF fc) nF (nmRows mf).flatten) := own_kp HO1.out KS (fun k hk => by have := HSZ.out; omega)
  have hb4 : Below w.heap.size w (W1.setCell ⟨b0, 1, none⟩ (.slice fa nF fc)) := hbw.trans (KS.toBelow hbw.size (fun k e => by have := HBZ.out; omega))
  have x1' := (BX4.cell 1).trans rfl
  clear HX0 HR0 HB0 hb1 HF BR1 HO1 hbw KS
  go_wp2_with fail
  generalize (W1.setCell ⟨b0, 1, none⟩ (.slice fa nF fc)) = W4 at *
  clear x1 z1 x1' BX1
  have HS1 := sortN_any (l := mf) (by rw [HLF.out.symm]; exact HO1'.out) H1.out
  rw [← HLF.out] at HS1
  refine HS1.mono ?_
  rintro e W5 ⟨rfl, ho5, k5⟩
  have HO5 : Hid (W5.ownsRow W0.heap.size 49 2 (.slice fa nF fc) nF (nmRows (srtF NmS.n mf)).flatten) := ho5
  have hlow : ∀ b, (Value.slice fa nF fc).ownBlock = some b → W0.heap.size ≤ b := fun b hb => (HO1'.out.lt b hb).1
  have BX5 := BX4.kp k5 (fun e => by have := hlow _ e; have := HSZ.out; omega)
  have BR5 := BR4.kp k5 (fun e => by have := hlow _ e; have := HSZ.out; omega)
  have hb5 : Below w.heap.size w W5 := hb4.trans (k5.toBelow hb4.size (fun k e => by have := hlow _ e; have := HSZ.out; have := HBZ.out; omega))
  clear HO1' BX4 BR4 hb4 k5 hlow ho5 HS1
  have x0 := (BX5.cell 0).trans rfl
  have x1 := (BX5.cell 1).trans rfl
  have r0 := (BR5.cell 0).trans rfl
  have r1 := (BR5.cell 1).trans rfl
  have s0 := BR5.froz 0
  have s1 := BR5.froz 1
  go_wp2_with fail
  refine bodyPost_ret (results_cell rfl _ _ _ ⟨b0 + 1, 0, none⟩ (.agg #[.string nm, .slice fa nF fc]) (by go_simp) (by go_simp)) rfl ?_
  have KS : Kp (fun k => k = b0 + 1) W5 ((W5.setCell ⟨b0 + 1, 0, none⟩ (.string nm)).setCell ⟨b0 + 1, 1, none⟩ (.slice fa nF fc)) := by
    refine Kp.setCell ?_ (fun _ => by simp) _
    refine Kp.setCell ?_ (fun _ => by simp) _
    exact Kp.refl _ _
  have hle : w.heap.size ≤ W0.heap.size := by have := HSZ.out; have := HBZ.out; omega
  refine ⟨_, rfl, ?_, hb5.trans (KS.toBelow hb5.size (fun k e => by have := HBZ.out; omega))⟩
  rw [HLF.out.symm]
  exact own_base (own_kp HO5.out KS (fun k hk => by have := HSZ.out; omega)) hle
end Go.Proofs.YtkfhlgajeejgeaaGreatDoor

/- Messages and enumerations in a row of one's own that are put in order one by one. -/
namespace Go.Proofs.YtkfhlgajeejgeaaGreatDoor
open Go.ChangeShapes Go.WideShapes Go.ChangeAt Go.RowKit
set_option linter.unusedVariables false
set_option linter.unusedSimpArgs false
set_option maxRecDepth 20000

/-- The first k are these, in rows of their own; the others stand as in rows0. -/
structure MsP (w : World) (B : Nat) (v : Value) (ms : List MsS) (rows0 : List (List Value)) (k : Nat) (rows : List (List Value)) (ps : List (Value × Value)) : Prop where
  len : ps.length = k
  le : k ≤ ms.length
  rl : rows.length = ms.length
  wide : ∀ r ∈ rows, r.length = 3
  own : w.ownsRow B 40 3 v ms.length rows.flatten
  done : ∀ (i : Nat) (m : MsS) (p : Value × Value), ms[i]? = some m → ps[i]? = some p → rows[i]? = some [.string m.name, p.1, p.2]
  rest : ∀ i, k ≤ i → rows[i]? = rows0[i]?
  each : ∀ (i : Nat) (m : MsS) (p : Value × Value), ms[i]? = some m → ps[i]? = some p → w.ownsRow B 44 5 p.1 m.fields.length (flRows m.fields).flatten ∧ w.ownsRow B 3 1 p.2 m.reserved.length (inRows m.reserved).flatten
  apart : ∀ (i j : Nat) (p q : Value × Value) (k : Nat), ps[i]? = some p → ps[j]? = some q → p.1.ownBlock = some k → q.1.ownBlock = some k → i = j
theorem MsP.start {w : World} {B : Nat} {v : Value} {ms : List MsS} {rows : List (List Value)} (h : w.ownsRow B 40 3 v ms.length rows.flatten) (hl : rows.length = ms.length) (hw : ∀ r ∈ rows, r.length = 3) : MsP w B v ms rows 0 rows [] :=
  ⟨rfl, Nat.zero_le _, hl, hw, h, fun i m p _ hp => by simp at hp, fun _ _ => rfl, fun i m p _ hp => by simp at hp, fun i j p q k hp => by simp at hp⟩
theorem MsP.below {w w1 : World} {B : Nat} {v : Value} {ms : List MsS} {rows0 : List (List Value)} {k : Nat} {rows : List (List Value)} {ps : List (Value × Value)} (h : MsP w B v ms rows0 k rows ps) (hb : Below w.heap.size w w1) : MsP w1 B v ms rows0 k rows ps :=
  ⟨h.len, h.le, h.rl, h.wide, own_below h.own hb, h.done, h.rest, fun i m p hm hp => ⟨own_below (h.each i m p hm hp).1 hb, own_below (h.each i m p hm hp).2 hb⟩, h.apart⟩
theorem MsP.kp {S : Nat → Prop} {w w1 : World} {B : Nat} {v : Value} {ms : List MsS} {rows0 : List (List Value)} {k : Nat} {rows : List (List Value)} {ps : List (Value × Value)} (h : MsP w B v ms rows0 k rows ps) (hk : Kp S w w1) (hs : ∀ b, B ≤ b → ¬ S b) : MsP w1 B v ms rows0 k rows ps :=
  ⟨h.len, h.le, h.rl, h.wide, own_kp h.own hk hs, h.done, h.rest, fun i m p hm hp => ⟨own_kp (h.each i m p hm hp).1 hk hs, own_kp (h.each i m p hm hp).2 hk hs⟩, h.apart⟩
theorem MsP.high {w : World} {B : Nat} {v : Value} {ms : List MsS} {rows0 : List (List Value)} {k : Nat} {rows : List (List Value)} {ps : List (Value × Value)} (h : MsP w B v ms rows0 k rows ps) : ∀ (i : Nat) (p : Value × Value) (b : Nat), ps[i]? = some p → p.1.ownBlock = some b → b < w.heap.size := by
  intro i p b hp hb
  have hi : i < k := by rw [← h.len]; exact (List.getElem?_eq_some_iff.1 hp).1
  exact ((h.each i _ p (List.getElem?_eq_getElem (by have := h.le; omega)) hp).1.lt b hb).2
theorem MsP.step {W : World} {B q M c : Nat} {ms : List MsS} {rows0 : List (List Value)} {k : Nat} {rows : List (List Value)} {ps : List (Value × Value)} {m : MsS} {uf ur : Value} {H : Nat} (h : MsP W B (.slice (some ⟨q, 0, none⟩) M c) ms rows0 k rows ps) (hM : ms.length = M) (hm : ms[k]? = some m)
    (hH : ∀ (i : Nat) (p : Value × Value) (b : Nat), ps[i]? = some p → p.1.ownBlock = some b → b < H) (hB : B ≤ H) (h1 : W.ownsRow H 44 5 uf m.fields.length (flRows m.fields).flatten) (h2 : W.ownsRow H 3 1 ur m.reserved.length (inRows m.reserved).flatten) :
    MsP (((W.setCell ⟨q, k * 3, none⟩ (.string m.name)).setCell ⟨q, k * 3 + 1, none⟩ uf).setCell ⟨q, k * 3 + 2, none⟩ ur) B (.slice (some ⟨q, 0, none⟩) M c) ms rows0 (k + 1) (rows.set k [.string m.name, uf, ur]) (ps ++ [(uf, ur)])
    ∧ Kp (fun b => b = q) W (((W.setCell ⟨q, k * 3, none⟩ (.string m.name)).setCell ⟨q, k * 3 + 1, none⟩ uf).setCell ⟨q, k * 3 + 2, none⟩ ur) := by
  have hk : k < ms.length := (List.getElem?_eq_some_iff.1 hm).1
  have KS : Kp (fun b => b = q) W (((W.setCell ⟨q, k * 3, none⟩ (.string m.name)).setCell ⟨q, k * 3 + 1, none⟩ uf).setCell ⟨q, k * 3 + 2, none⟩ ur) := by
    refine Kp.setCell ?_ (fun _ => by simp) _
    refine Kp.setCell ?_ (fun _ => by simp) _
    refine Kp.setCell ?_ (fun _ => by simp) _
    exact Kp.refl _ _
  have ho := h.own
  have kf : ∀ {B' : Nat} {u : Value} {n : Nat} {xs : List Value}, W.ownsRow B' 44 5 u n xs → (((W.setCell ⟨q, k * 3, none⟩ (.string m.name)).setCell ⟨q, k * 3 + 1, none⟩ uf).setCell ⟨q, k * 3 + 2, none⟩ ur).ownsRow B' 44 5 u n xs := fun hu => own_kpV hu KS (fun b hb e => by subst e; exact own_apart ho hu (by decide) b rfl hb)
  have kr : ∀ {B' : Nat} {u : Value} {n : Nat} {xs : List Value}, W.ownsRow B' 3 1 u n xs → (((W.setCell ⟨q, k * 3, none⟩ (.string m.name)).setCell ⟨q, k * 3 + 1, none⟩ uf).setCell ⟨q, k * 3 + 2, none⟩ ur).ownsRow B' 3 1 u n xs := fun hu => own_kpV hu KS (fun b hb e => by subst e; exact own_apart ho hu (by decide) b rfl hb)
  refine ⟨⟨by simp [h.len], by omega, by simp [h.rl], ?_, ?_, ?_, ?_, ?_, ?_⟩, KS⟩
  · intro r hr
    rcases List.mem_or_eq_of_mem_set hr with hr | rfl
    · exact h.wide r hr
    · rfl
  · rw [hM] at ho ⊢
    have a1 := own_set (own_set (own_set ho (j := k * 3) (.string m.name)) (j := k * 3 + 1) uf) (j := k * 3 + 2) ur
    rw [set3 h.wide (by rw [h.rl]; exact hk)] at a1
    exact a1
  · intro i m' p hm' hp
    rcases get_snoc hp with ⟨hi, hp⟩ | ⟨hi, rfl⟩
    · rw [h.len] at hi
      rw [List.getElem?_set_ne (by omega)]
      exact h.done i m' p hm' hp
    · rw [h.len] at hi
      subst hi
      rw [hm] at hm'
      cases hm'
      rw [List.getElem?_set_self (by rw [h.rl]; exact hk)]
  · intro i hi
    rw [List.getElem?_set_ne (by omega)]
    exact h.rest i (by omega)
  · intro i m' p hm' hp
    rcases get_snoc hp with ⟨hi, hp⟩ | ⟨hi, rfl⟩
    · exact ⟨kf (h.each i m' p hm' hp).1, kr (h.each i m' p hm' hp).2⟩
    · rw [h.len] at hi
      subst hi
      rw [hm] at hm'
      cases hm'
      exact ⟨own_base (kf h1) hB, own_base (kr h2) hB⟩
  · intro i j p q' b hp hq hpb hqb
    rcases get_snoc hp with ⟨hi, hp⟩ | ⟨hi, rfl⟩
    · rcases get_snoc hq with ⟨hj, hq⟩ | ⟨hj, rfl⟩
      · exact h.apart i j p q' b hp hq hpb hqb
      · have a1 := hH i p b hp hpb
        have a2 := (h1.lt b hqb).1
        omega
    · rcases get_snoc hq with ⟨hj, hq⟩ | ⟨hj, rfl⟩
      · have a1 := hH j q' b hq hqb
        have a2 := (h1.lt b hpb).1
        omega
      · omega
theorem MsP.all {w : World} {B : Nat} {v : Value} {ms : List MsS} {rows0 : List (List Value)} {rows : List (List Value)} {ps : List (Value × Value)} (h : MsP w B v ms rows0 ms.length rows ps) : MsO w B v ms ps := by
  have e : rows = msRows ms ps := by
    apply List.ext_getElem?
    intro i
    rcases Nat.lt_or_ge i ms.length with hi | hi
    · obtain ⟨m, hm⟩ : ∃ m, ms[i]? = some m := ⟨_, List.getElem?_eq_getElem hi⟩
      obtain ⟨p, hp⟩ : ∃ p, ps[i]? = some p := ⟨_, List.getElem?_eq_getElem (by rw [h.len]; exact hi)⟩
      rw [h.done i m p hm hp, ms_get hm hp]
    · rw [List.getElem?_eq_none (by rw [h.rl]; exact hi), List.getElem?_eq_none]
      unfold msRows
      rw [List.length_zipWith, h.len]
      omega
  exact ⟨h.len, by rw [← e]; exact h.own, h.each, h.apart⟩
structure EnP (w : World) (B : Nat) (v : Value) (ms : List EnS) (rows0 : List (List Value)) (k : Nat) (rows : List (List Value)) (ps : List Value) : Prop where
  len : ps.length = k
  le : k ≤ ms.length
  rl : rows.length = ms.length
  wide : ∀ r ∈ rows, r.length = 2
  own : w.ownsRow B 47 2 v ms.length rows.flatten
  done : ∀ (i : Nat) (m : EnS) (p : Value), ms[i]? = some m → ps[i]? = some p → rows[i]? = some [.string m.name, p]
  rest : ∀ i, k ≤ i → rows[i]? = rows0[i]?
  each : ∀ (i : Nat) (m : EnS) (p : Value), ms[i]? = some m → ps[i]? = some p → w.ownsRow B 49 2 p m.values.length (nmRows m.values).flatten
theorem EnP.start {w : World} {B : Nat} {v : Value} {ms : List EnS} {rows : List (List Value)} (h : w.ownsRow B 47 2 v ms.length rows.flatten) (hl : rows.length = ms.length) (hw : ∀ r ∈ rows, r.length = 2) : EnP w B v ms rows 0 rows [] :=
  ⟨rfl, Nat.zero_le _, hl, hw, h, fun i m p _ hp => by simp at hp, fun _ _ => rfl, fun i m p _ hp => by simp at hp⟩
theorem EnP.below {w w1 : World} {B : Nat} {v : Value} {ms : List EnS} {rows0 : List (List Value)} {k : Nat} {rows : List (List Value)} {ps : List Value} (h : EnP w B v ms rows0 k rows ps) (hb : Below w.heap.size w w1) : EnP w1 B v ms rows0 k rows ps :=
  ⟨h.len, h.le, h.rl, h.wide, own_below h.own hb, h.done, h.rest, fun i m p hm hp => own_below (h.each i m p hm hp) hb⟩
theorem EnP.kp {S : Nat → Prop} {w w1 : World} {B : Nat} {v : Value} {ms : List EnS} {rows0 : List (List Value)} {k : Nat} {rows : List (List Value)} {ps : List Value} (h : EnP w B v ms rows0 k rows ps) (hk : Kp S w w1) (hs : ∀ b, B ≤ b → ¬ S b) : EnP w1 B v ms rows0 k rows ps :=
  ⟨h.len, h.le, h.rl, h.wide, own_kp h.own hk hs, h.done, h.rest, fun i m p hm hp => own_kp (h.each i m p hm hp) hk hs⟩
theorem EnP.step {W : World} {B q M c : Nat} {ms : List EnS} {rows0 : List (List Value)} {k : Nat} {rows : List (List Value)} {ps : List Value} {m : EnS} {uf : Value} {H : Nat} (h : EnP W B (.slice (some ⟨q, 0, none⟩) M c) ms rows0 k rows ps) (hM : ms.length = M) (hm : ms[k]? = some m)
    (hB : B ≤ H) (h1 : W.ownsRow H 49 2 uf m.values.length (nmRows m.values).flatten) :
    EnP ((W.setCell ⟨q, k * 2, none⟩ (.string m.name)).setCell ⟨q, k * 2 + 1, none⟩ uf) B (.slice (some ⟨q, 0, none⟩) M c) ms rows0 (k + 1) (rows.set k [.string m.name, uf]) (ps ++ [uf])
    ∧ Kp (fun b => b = q) W ((W.setCell ⟨q, k * 2, none⟩ (.string m.name)).setCell ⟨q, k * 2 + 1, none⟩ uf) := by
  have hk : k < ms.length := (List.getElem?_eq_some_iff.1 hm).1
  have KS : Kp (fun b => b = q) W ((W.setCell ⟨q, k * 2, none⟩ (.string m.name)).setCell ⟨q, k * 2 + 1, none⟩ uf) := by
    refine Kp.setCell ?_ (fun _ => by simp) _
    refine Kp.setCell ?_ (fun _ => by simp) _
    exact Kp.refl _ _
  have ho := h.own
  have kf : ∀ {B' : Nat} {u : Value} {n : Nat} {xs : List Value}, W.ownsRow B' 49 2 u n xs → ((W.setCell ⟨q, k * 2, none⟩ (.string m.name)).setCell ⟨q, k * 2 + 1, none⟩ uf).ownsRow B' 49 2 u n xs := fun hu => own_kpV hu KS (fun b hb e => by subst e; exact own_apart ho hu (by decide) b rfl hb)
  refine ⟨⟨by simp [h.len], by omega, by simp [h.rl], ?_, ?_, ?_, ?_, ?_⟩, KS⟩
  · intro r hr
    rcases List.mem_or_eq_of_mem_set hr with hr | rfl
    · exact h.wide r hr
    · rfl
  · rw [hM] at ho ⊢
    have a1 := own_set (own_set ho (j := k * 2) (.string m.name)) (j := k * 2 + 1) uf
    rw [set2 h.wide (by rw [h.rl]; exact hk)] at a1
    exact a1
  · intro i m' p hm' hp
    rcases get_snoc hp with ⟨hi, hp⟩ | ⟨hi, rfl⟩
    · rw [h.len] at hi
      rw [List.getElem?_set_ne (by omega)]
      exact h.done i m' p hm' hp
    · rw [h.len] at hi
      subst hi
      rw [hm] at hm'
      cases hm'
      rw [List.getElem?_set_self (by rw [h.rl]; exact hk)]
  · intro i hi
    rw [List.getElem?_set_ne (by omega)]
    exact h.rest i (by omega)
  · intro i m' p hm' hp
    rcases get_snoc hp with ⟨hi, hp⟩ | ⟨hi, rfl⟩
    · exact kf (h.each i m' p hm' hp)
    · rw [h.len] at hi
      subst hi
      rw [hm] at hm'
      cases hm'
      exact own_base (kf h1) hB
theorem EnP.all {w : World} {B : Nat} {v : Value} {ms : List EnS} {rows0 : List (List Value)} {rows : List (List Value)} {ps : List Value} (h : EnP w B v ms rows0 ms.length rows ps) : EnO w B v ms ps := by
  have e : rows = enRows ms ps := by
    apply List.ext_getElem?
    intro i
    rcases Nat.lt_or_ge i ms.length with hi | hi
    · obtain ⟨m, hm⟩ : ∃ m, ms[i]? = some m := ⟨_, List.getElem?_eq_getElem hi⟩
      obtain ⟨p, hp⟩ : ∃ p, ps[i]? = some p := ⟨_, List.getElem?_eq_getElem (by rw [h.len]; exact hi)⟩
      rw [h.done i m p hm hp, en_get hm hp]
    · rw [List.getElem?_eq_none (by rw [h.rl]; exact hi), List.getElem?_eq_none]
      unfold enRows
      rw [List.length_zipWith, h.len]
      omega
  exact ⟨h.len, by rw [← e]; exact h.own, h.each⟩
/-- The rows of messages that came in. -/
theorem MsIn.rows {w : World} {v : Value} {ms : List MsS} (h : MsIn w v ms) : ∃ rows, RowG w v 3 rows ∧ rows.length = ms.length ∧ (∀ r ∈ rows, r.length = 3) ∧ (∀ u ∈ rows.flatten, u.oneCell' = true) ∧ ∀ (i : Nat) (m : MsS), ms[i]? = some m → ∃ vf vr, rows[i]? = some [.string m.name, vf, vr] ∧ RowG w vf 5 (flRows m.fields) ∧ RowG w vr 1 (inRows m.reserved) := by
  obtain ⟨rows, h1, h2, h3⟩ := h
  have hr : ∀ r ∈ rows, ∃ nm vf vr, r = [.string nm, vf, vr] ∧ vf.oneCell' = true ∧ vr.oneCell' = true := by
    intro r hr
    obtain ⟨i, hi⟩ := List.mem_iff_getElem?.1 hr
    have hlt : i < ms.length := by rw [← h2]; exact (List.getElem?_eq_some_iff.1 hi).1
    obtain ⟨vf, vr, g1, g2, g3⟩ := h3 i _ (List.getElem?_eq_getElem hlt)
    rw [hi] at g1
    cases g1
    obtain ⟨a, c, rfl, _⟩ := g2.form2
    obtain ⟨a', c', rfl, _⟩ := g3.form2
    exact ⟨_, _, _, rfl, rfl, rfl⟩
  refine ⟨rows, h1, h2, fun r h => ?_, fun u hu => ?_, h3⟩
  · obtain ⟨_, _, _, rfl, _⟩ := hr r h; rfl
  · obtain ⟨r, h, hu⟩ := List.mem_flatten.1 hu
    obtain ⟨_, _, _, rfl, a1, a2⟩ := hr r h
    simp only [List.mem_cons, List.not_mem_nil, or_false] at hu
    rcases hu with rfl | rfl | rfl
    · rfl
    · exact a1
    · exact a2
theorem EnIn.rows {w : World} {v : Value} {ms : List EnS} (h : EnIn w v ms) : ∃ rows, RowG w v 2 rows ∧ rows.length = ms.length ∧ (∀ r ∈ rows, r.length = 2) ∧ (∀ u ∈ rows.flatten, u.oneCell' = true) ∧ ∀ (i : Nat) (m : EnS), ms[i]? = some m → ∃ vf, rows[i]? = some [.string m.name, vf] ∧ RowG w vf 2 (nmRows m.values) := by
  obtain ⟨rows, h1, h2, h3⟩ := h
  have hr : ∀ r ∈ rows, ∃ nm vf, r = [.string nm, vf] ∧ vf.oneCell' = true := by
    intro r hr
    obtain ⟨i, hi⟩ := List.mem_iff_getElem?.1 hr
    have hlt : i < ms.length := by rw [← h2]; exact (List.getElem?_eq_some_iff.1 hi).1
    obtain ⟨vf, g1, g2⟩ := h3 i _ (List.getElem?_eq_getElem hlt)
    rw [hi] at g1
    cases g1
    obtain ⟨a, c, rfl, _⟩ := g2.form2
    exact ⟨_, _, rfl, rfl⟩
  refine ⟨rows, h1, h2, fun r h => ?_, fun u hu => ?_, h3⟩
  · obtain ⟨_, _, rfl, _⟩ := hr r h; rfl
  · obtain ⟨r, h, hu⟩ := List.mem_flatten.1 hu
    obtain ⟨_, _, rfl, a1⟩ := hr r h
    simp only [List.mem_cons, List.not_mem_nil, or_false] at hu
    rcases hu with rfl | rfl
    · rfl
    · exact a1
end Go.Proofs.YtkfhlgajeejgeaaGreatDoor

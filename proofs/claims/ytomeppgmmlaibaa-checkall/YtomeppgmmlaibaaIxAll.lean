/- What the reference's All answers, at every text of at most 20000 bytes. -/
import Derived.Test.YtomeppgmmlaibaaRuRefNext
import Derived.Test.YtomeppgmmlaibaaRuRefLeaf
import Derived.Test.YtomeppgmmlaibaaRuAllMath
import Derived.OwnWalk
namespace Go.Proofs.Ytomeppgmmlaibaa
open Go.ChangeShapes Go.WideShapes Go.ChangeAt Go.RowKit
set_option linter.unusedVariables false
set_option maxRecDepth 20000

theorem infoRune : (Try.prog.info? 21).map (fun i => (i.zero, i.size, i.bytes)) = some (some (.int .i32 0), 1, 4) := by kernel_rfl
def runeCells (rs : List Nat) : List Value := rs.map fun (c : Nat) => Value.int .i32 (c : Int)

theorem owns_cast {w : World} {b e : Nat} {v : Value} {n n' : Nat} {xs xs' : List Value} (h : w.ownsRow b e 1 v n xs) (hn : n' = n) (hx : xs' = xs) : w.ownsRow b e 1 v n' xs' := by
  rw [hn, hx]; exact h
theorem all_len {l : List UInt8} {pos c k : Nat} (hn : nxL (l.drop pos) = some (c, k)) (hp : pos ≤ l.length) : pos + k ≤ l.length ∧ 1 ≤ k ∧ k ≤ 4 := by
  obtain ⟨_, _, _, h4, h5, h6, _⟩ := nxL_some _ _ _ hn
  simp at h5
  omega

set_option maxHeartbeats 1000000 in
theorem rall_any (s : ByteArray) (w : World) (hs : s.size ≤ 20000) :
    Calls Try.prog 51 #[.string s] w fun e w' => ∃ v, e = .returned (.tuple #[v, .bool (validB s.data.toList)]) ∧
      w'.ownsRow w.heap.size 21 1 v (countN s.data.toList) (runeCells ((runesOf s.data.toList).getD [])) ∧ Below w.heap.size w w' := by
  obtain ⟨i0, hi, hz0, hz1, hz2⟩ := info_parts infoRune
  go_enter Try.func51, Try.ntmps51
  go_wp2_with fail
  go_loopw [4, 5] (fun v at' wr => ∃ (pos : Nat) (acc : List Nat), at' = .int .i64 pos ∧ pos ≤ s.size ∧ acc.length ≤ pos ∧ Hid (Gone s.data.toList pos acc) ∧ wr.ownsRow w.heap.size 21 1 v acc.length (runeCells acc) ∧ Below w.heap.size w wr)
    (fun _ at' _ => s.size - (intOf at').toNat)
  case atStart => exact ⟨0, [], rfl, by omega, by simp, Gone.start _, World.ownsRow_nil _ _ _ _, Below.refl _ _⟩
  case round =>
    obtain ⟨pos, acc, rfl, hps, hap, H, hown, hbel⟩ := hrel
    by_cases hp : pos < s.size
    · have HA : Hid (atL s pos = s.data.toList.drop pos) := by rw [atL_in s pos (by omega), Int.toNat_natCast]; rfl
      go_wp2_with fail
      refine (rnext_any s _ _ (by omega)).mono ?_
      rintro e w1 ⟨rfl, rfl⟩
      rw [HA.out]
      generalize hx : nxL (s.data.toList.drop pos) = x
      cases x with
      | none =>
        have HR : Hid (runesOf s.data.toList = none) := H.out.bad (by rw [len_data]; exact hp) hx
        have H1 : Hid (validB s.data.toList = false) := by show _ = _; unfold validB; rw [HR.out]; rfl
        have H2 : Hid (countN s.data.toList = 0) := by show _ = _; unfold countN; rw [HR.out]; rfl
        have H3 : Hid ((runesOf s.data.toList).getD [] = []) := by show _ = _; rw [HR.out]; rfl
        simp only [nxV]
        clear hx
        go_wp2_with fail
        go_ret2
        refine ⟨.slice none 0 0, ?_, ?_, hbel⟩
        · rw [H1.out]; rfl
        · rw [H2.out, H3.out]; exact World.ownsRow_nil _ _ _ _
      | some x =>
        obtain ⟨c, k⟩ := x
        obtain ⟨g1, g2, g3⟩ := all_len hx (by rw [len_data]; omega)
        rw [len_data] at g1
        have HG : Hid (Gone s.data.toList (pos + k) (acc ++ [c])) := H.out.step hx
        clear hx
        simp only [nxV]
        have hws := hbel.size
        go_wp2_with (first
          | (at_builtin; refine wpList_append_own _ rfl _ _ 95 rfl w.heap.size 21 i0 (.int .i32 0) 1 4 Try.underlying95 hi hz0 hz1 hz2 rfl (by decide) _ _ _ rfl (hown.alloc _) ⟨w1.heap.size, 0, none⟩ 1 1 [.int .i32 (c : Int)] rfl rfl ?c1 ?c2 ?c3 ?c4 ?c5 ?_)
          | fail)
        case c1 =>
          intro j u hj
          match j, hj with
          | 0, hj => simp at hj; subst hj; simp [Addr.add]
        case c2 => intro u hu; simp at hu; subst hu; rfl
        case c3 => unfold maxLen; omega
        case c4 => omega
        case c5 => simp; omega
        intro v' w2 hown' hgrow _
        have hb2 : Below w.heap.size w w2 := (hbel.alloc hws _).grown hgrow (by simp; omega) (fun k hk => (hown.lt k hk).1)
        have HO : Hid (w2.ownsRow w.heap.size 21 1 v' (acc ++ [c]).length (runeCells (acc ++ [c]))) := by
          have e1 : (acc ++ [c]).length = acc.length + 1 := by simp
          have e2 : runeCells (acc ++ [c]) = runeCells acc ++ [.int .i32 (c : Int)] := by simp [runeCells]
          show World.ownsRow _ _ _ _ _ _ _
          rw [e1, e2]
          exact hown'
        clear hown hown' hgrow
        go_wp2_with fail
        go_roundw
        case rel => exact ⟨pos + k, acc ++ [c], by go_num, by omega, by simp; omega, HG, HO.out, hb2⟩
        case measure => simp [intOf]; omega
    · have HR : Hid (runesOf s.data.toList = some acc) := H.out.done (by rw [len_data]; omega)
      have H1 : Hid (validB s.data.toList = true) := by show _ = _; unfold validB; rw [HR.out]; rfl
      have H2 : Hid (countN s.data.toList = acc.length) := by show _ = _; unfold countN; rw [HR.out]; rfl
      have H3 : Hid ((runesOf s.data.toList).getD [] = acc) := by show _ = _; rw [HR.out]; rfl
      have HO := owns_cast hown H2.out (congrArg runeCells H3.out)
      clear hown
      go_wp2_with fail
      go_ret2
      exact ⟨_, by rw [H1.out]; rfl, HO, hbel⟩

theorem owns_form {w : World} {base e : Nat} {v : Value} {n : Nat} {xs : List Value} (h : w.ownsRow base e 1 v n xs) :
    ∃ a cap, v = .slice a n cap ∧ (0 < n → ∃ g, a = some ⟨g, 0, none⟩ ∧ ∀ j, j < n → w.cell? ⟨g, j, none⟩ = xs[j]?) := by
  have h0 := h
  obtain ⟨h1, h2⟩ := h
  rcases h2 with ⟨rfl, rfl⟩ | ⟨g, cap, cur, rfl, _⟩
  · exact ⟨none, 0, rfl, by omega⟩
  · exact ⟨some ⟨g, 0, none⟩, cap, rfl, fun _ => ⟨g, rfl, fun j hj => h0.cellAt j (by omega)⟩⟩

end Go.Proofs.Ytomeppgmmlaibaa

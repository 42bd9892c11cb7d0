/- A tree that came in: none of its lists is shut. -/
import Derived.Test.YtgedelgdjcnogabVsSame
import Derived.Test.YtgedelgdjcnogabTvOpen
namespace Go.Proofs.Ytgedelgdjcnogab
open Go.ChangeShapes Go.WideShapes Go.ChangeAt Go.RowKit
set_option linter.unusedVariables false
set_option linter.unusedSimpArgs false
set_option maxRecDepth 20000

section
variable {H : Type} {enc : TypeId × Value → H} {W : World} {base : Nat} {spare : Nat → Bool} {held : Bool}
theorem noneF_sub {ps qs : List MemPlace} (h : W.noneFrozen ps) (hs : ∀ x ∈ qs, x ∈ ps) : W.noneFrozen qs := fun b off hx => h b off (hs _ hx)
theorem ensF_none (d : Nat) : EnsF d W (.slice none 0 0) := by
  cases d with
  | zero => intro g off n c e; cases e
  | succ d => exact ⟨fun g off n c e => (by cases e), fun i k hi => absurd hi (by simp [lenV])⟩
theorem spot_of {ad : Addr} {size : Nat} {cs : List Value} (h : W.cells? base (ad.add (0 * size)) size = some cs) (hl : cs.length = size) (hs : 0 < size) : ∃ g off, ad = ⟨g, off, none⟩ := by
  have h1 := (World.cells?_some h).2.2 0 hs
  rw [List.getElem?_eq_getElem (by omega)] at h1
  obtain ⟨g, off, spot⟩ := ad
  have hspot : spot = none := by simpa [Addr.add] using World.cell?_spot h1
  subst hspot
  exact ⟨g, off, rfl⟩
theorem cell_at {g off i size : Nat} {cs : List Value} (h : W.cells? base ((⟨g, off, none⟩ : Addr).add (i * size)) size = some cs) {k : Nat} {u : Value} (hk : cs[k]? = some u) (hks : k < size) : W.cell? ⟨g, off + i * size + k, none⟩ = some u := by
  have h1 := (World.cells?_some h).2.2 k hks
  rw [hk, Deep.add_add, Addr.add_lit] at h1
  rw [Nat.add_assoc]
  exact h1
theorem ensF_in (N : Nat) : ∀ fuel, fuel ≤ N → ∀ c y, DataW.trod enc Try.prog W base spare held fuel 22 [c] = some y → W.noneFrozen y.2 → ∀ d, EnsF d W c := by
  induction N with
  | zero =>
    intro fuel hf c y h hfz d
    obtain rfl : fuel = 0 := by omega
    simp [DataW.trod] at h
  | succ N ih =>
    intro fuel hf c y h hfz d
    rcases DataW.trod_slice Try.underlying22 h with ⟨hcs, -⟩ | ⟨ad, len, cap, elems, rest, n, hfu, hcs, hx, hb, hle, hm, hlen, hel, -, -⟩
    · obtain rfl : c = .slice none 0 0 := by simpa using hcs
      exact ensF_none d
    · obtain rfl : c = .slice (some ad) len cap := by simpa using hcs
      rw [cellsEnT] at hel hx
      rw [hx] at hfz
      have hhead : HeadF W (.slice (some ad) len cap) := fun g off n' c' e hn => by
        simp only [Value.slice.injEq, Option.some.injEq] at e
        obtain ⟨rfl, rfl, rfl⟩ := e
        refine hfz g off (List.mem_append.2 (.inl ?_))
        refine List.mem_map.2 ⟨0, List.mem_range.2 ?_, by simp⟩
        have : 0 < elems.length + rest.length := by omega
        omega
      cases d with
      | zero => exact hhead
      | succ d =>
        refine ⟨hhead, fun i k hi hk => ?_⟩
        simp only [lenV] at hi
        have h1 := hel i hi
        rw [List.getElem?_eq_getElem (by omega)] at h1
        obtain ⟨cs2, h2, h3⟩ := Option.bind_eq_some_iff.1 h1
        obtain ⟨xs2, n3, hn3, hy2, hc2, hlen2, hfs2⟩ := DataW.trod_struct Try.underlying33 h3
        rw [cellsEnT] at hc2
        match xs2, hlen2 with
        | [z0, z1], _ =>
          match cs2, hc2 with
          | [d0, d1], _ =>
            have g1 : DataW.trod enc Try.prog W base spare held n3 31 (List.take (Try.prog.cellsOf 31) [d1]) = some z1 := hfs2 1 _ rfl
            obtain ⟨g, off, rfl⟩ : ∃ g off, ad = ⟨g, off, none⟩ := by
              have e1 := hel 0 (by omega)
              rw [List.getElem?_eq_getElem (by omega)] at e1
              obtain ⟨cs0, e2, e3⟩ := Option.bind_eq_some_iff.1 e1
              obtain ⟨_, _, _, _, hc0, _⟩ := DataW.trod_struct Try.underlying33 e3
              exact spot_of e2 (hc0.trans cellsEnT) (by omega)
            have hcell := cell_at h2 (k := 1) (u := d1) rfl (by omega)
            rw [cellsOneT.2.2.2.1, List.take_succ_cons, List.take_zero] at g1
            have hE : cellE W (.slice (some ⟨g, off, none⟩) len cap) i = d1 := by simp only [cellE, hcell, Option.getD_some]
            rw [hE] at hk ⊢
            have hz1 : W.noneFrozen z1.2 := noneF_sub hfz fun x hx' => by
              refine List.mem_append.2 (.inr (List.mem_flatMap.2 ⟨elems[i]'(by omega), List.mem_append.2 (.inl (List.getElem_mem _)), ?_⟩))
              rw [hy2]
              simp [hx']
            rcases DataW.trod_slice Try.underlying31 g1 with ⟨hcs', -⟩ | ⟨ad', len', cap', elems', rest', n', hfu', hcs', hx', hb', hle', hm', hlen', hel', -, -⟩
            · obtain rfl : d1 = .slice none 0 0 := by simpa using hcs'
              exact absurd hk (by simp [lenV])
            · obtain rfl : d1 = .slice (some ad') len' cap' := by simpa using hcs'
              rw [cellsTrT] at hel' hx'
              rw [hx'] at hz1
              simp only [lenV] at hk
              have q1 := hel' k hk
              rw [List.getElem?_eq_getElem (by omega)] at q1
              obtain ⟨cs3, q2, q3⟩ := Option.bind_eq_some_iff.1 q1
              obtain ⟨xs3, n4, hn4, hy3, hc3, hlen3, hfs3⟩ := DataW.trod_struct Try.underlying25 q3
              rw [cellsTrT] at hc3
              match xs3, hlen3 with
              | [y0, y1, y2, y3, y4], _ =>
                match cs3, hc3 with
                | [c0, c1, c2, c3, c4], _ =>
                  have r3 : DataW.trod enc Try.prog W base spare held n4 22 (List.take (Try.prog.cellsOf 22) [c3, c4]) = some y3 := hfs3 3 _ rfl
                  rw [cellsOneT.2.2.2.2, List.take_succ_cons, List.take_zero] at r3
                  obtain ⟨g', off', rfl⟩ : ∃ g off, ad' = ⟨g, off, none⟩ := by
                    have e1 := hel' 0 (by omega)
                    rw [List.getElem?_eq_getElem (by omega)] at e1
                    obtain ⟨cs0, e2, e3⟩ := Option.bind_eq_some_iff.1 e1
                    obtain ⟨_, _, _, _, hc0, _⟩ := DataW.trod_struct Try.underlying25 e3
                    exact spot_of e2 (hc0.trans cellsTrT) (by omega)
                  have hcell' := cell_at q2 (k := 3) (u := c3) rfl (by omega)
                  have hT : cellT W (.slice (some ⟨g', off', none⟩) len' cap') k = c3 := by simp only [cellT, hcell', Option.getD_some]
                  rw [hT]
                  refine ih n4 (by omega) c3 y3 r3 (noneF_sub hz1 fun x hx2 => ?_) d
                  refine List.mem_append.2 (.inr (List.mem_flatMap.2 ⟨elems'[k]'(by omega), List.mem_append.2 (.inl (List.getElem_mem _)), ?_⟩))
                  rw [hy3]
                  simp [hx2]
/-- A tree by value. -/
theorem treeF_in {v : Value} {d : DataW H} {p : List MemPlace} (h : DataW.Trod enc Try.prog W base spare held 25 v d p) (hfz : W.noneFrozen p) (m : Nat) : TrF m W v := by
  obtain ⟨fuel, hf⟩ := h
  intro c0 c1 c2 ve vr hv
  subst hv
  obtain ⟨xs, n, hn, hy, hc, hlen, hfs⟩ := DataW.trod_struct Try.underlying25 hf
  match xs, hlen with
  | [y0, y1, y2, y3, y4], _ =>
    have h3 : DataW.trod enc Try.prog W base spare held n 22 (List.take (Try.prog.cellsOf 22) [ve, vr]) = some y3 := hfs 3 _ rfl
    rw [cellsOneT.2.2.2.2, List.take_succ_cons, List.take_zero] at h3
    refine ensF_in n n (Nat.le_refl _) ve y3 h3 (noneF_sub hfz fun x hx => ?_) m
    simp only [Prod.mk.injEq] at hy
    rw [hy.2]
    simp [hx]
end
end Go.Proofs.Ytgedelgdjcnogab

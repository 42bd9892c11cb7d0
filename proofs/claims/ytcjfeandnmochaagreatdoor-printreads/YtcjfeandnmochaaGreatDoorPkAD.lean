/- Part 4 of what the proof stands on. -/
import Derived.Test.YtcjfeandnmochaaGreatDoorPkAC
namespace Go.Proofs.YtcjfeandnmochaaGreatDoor
open Go.ChangeShapes Go.WideShapes Go.ChangeAt Go.RowKit
set_option linter.unusedVariables false
set_option linter.unusedSimpArgs false
set_option maxRecDepth 20000
set_option maxHeartbeats 40000000 in
theorem loopV {K K1 K2 K3 : Act → World → Prop} {post : Ending → World → Prop} (c : Code) (hc : Tryz.f15.body.bind (blkOf 12) = some c) {m0 nm : ByteArray} {a3 am at' : Option Addr} {c3 nV bx b0 g off ei M cm E ce T ct : Nat} {mf : List NmS} {tz0 tz2 tz3 tz4 tz5 tz6 tz7 tz8 tz9 tz10 tz14 tz15 tz16 tz17 tz18 tz19 tz20 tz21 tz22 tz23 tz24 tz25 tz26 tz27 tz28 tz29 tz30 tz31 tz32 tz33 tz34 tz35 tz36 tz37 tz38 tz39 tz40 tz41 tz42 tz43 tz44 tz45 tz46 tz47 tz48 tz49 tz50 tz51 tz52 tz53 tz54 tz55 tz56 tz57 tz58 tz59 tz60 tz61 tz62 tz63 tz64 tz65 tz66 tz67 tz68 tz69 tz70 tz71 tz72 tz73 tz74 tz75 tz76 tz77 tz78 tz79 tz80 tz81 tz82 tz83 tz84 tz85 tz86 tz87 tz88 tz89 tz90 tz91 tz92 tz93 tz94 tz95 tz96 tz97 tz98 tz99 tz100 tz101 tz102 tz103 tz104 tz105 tz106 tz107 tz108 tz109 tz110 tz111 tz112 tz113 tz114 tz115 tz116 tz117 tz118 tz119 tz120 tz121 tz122 tz123 tz124 tz125 tz126 tz127 tz128 tz129 tz130 tz131 tz132 tz133 tz134 tz135 tz136 tz137 tz138 tz139 tz140 tz141 tz142 tz143 tz144 tz145 tz146 tz147 tz148 tz149 tz150 tz151 tz152 tz153 tz154 tz155 tz156 tz157 tz158 tz159 tz160 tz161 tz162 tz163 tz164 tz165 tz166 tz167 tz168 tz169 tz170 tz171 tz172 tz173 tz174 tz175 tz176 tz177 tz178 tz179 tz180 tz181 tz182 tz183 tz184 tz185 tz186 tz187 tz188 tz189 tz190 tz191 tz192 tz193 tz194 tz195 tz196 tz197 tz198 tz199 tz200 tz201 tz202 tz203 tz204 tz205 tz206 tz207 tz208 tz209 tz210 tz211 tz212 tz213 tz214 tz215 tz216 tz217 tz218 tz219 tz220 tz221 tz222 tz223 tz224 tz225 tz226 tz227 tz228 tz229 tz230 tz231 tz232 tz233 tz234 tz235 tz236 tz237 tz238 tz239 tz240 tz241 tz242 tz243 tz244 tz245 tz246 tz247 tz248 tz249 tz250 tz251 : Value} {WB wr : World} (BX0 : Blk WB b0 #[.string nm, .slice am M cm, .slice (some ⟨g, off, none⟩) E ce, .slice at' T ct] 27) (C1 : Hid (WB.cell? ⟨g, off + ei * 2 + 1, none⟩ = some (.slice a3 nV c3))) (HV0 : Hid (RowG WB (.slice a3 nV c3) 2 (nmRows mf))) (HBX : Hid (WB.heap.size = bx)) (HNV : Hid (mf.length = nV)) (hnV24 : nV ≤ 24) (heiz : (ei : Int) < (E : Int)) (BZ : Blk wr bx #[.string m0, .slice none 0 0] 44) (HBW : Hid (Below WB.heap.size WB wr)) (HQ : Hid (∀ (fa : Option Addr) (fc : Nat) (wq : World) (ty13 ty14 ty176 ty177 ty178 ty179 ty180 ty181 ty182 ty183 ty184 ty185 ty186 ty187 ty188 ty189 ty190 ty191 ty192 ty193 ty194 ty195 ty196 ty197 ty198 ty199 ty200 ty201 ty202 ty203 ty204 ty205 ty206 ty207 ty208 ty209 ty210 ty211 ty212 ty213 ty214 ty215 ty216 ty217 ty218 ty219 ty220 ty221 ty222 ty223 ty224 ty225 ty226 ty227 ty228 ty229 ty230 ty231 ty232 ty233 ty234 ty235 ty236 ty237 ty238 ty239 ty240 ty241 ty242 ty243 ty244 : Value), Hid (wq.ownsRow (bx + 1) 96 2 (.slice fa nV fc) nV (nmRows (srtF NmS.n mf)).flatten) → Blk wq bx #[.string m0, .slice fa nV fc] 44 → Hid (Below WB.heap.size WB wq) → K { tmps := List.toArray (tz0 :: Value.pointer (some ⟨b0, 0, none⟩) :: tz2 :: tz3 :: tz4 :: tz5 :: tz6 :: tz7 :: tz8 :: tz9 :: tz10 :: Value.int .i64 (ei : Int) :: Value.pointer (some ⟨bx, 0, none⟩) :: ty13 :: ty14 :: tz15 :: tz16 :: tz17 :: tz18 :: tz19 :: tz20 :: tz21 :: tz22 :: tz23 :: tz24 :: tz25 :: tz26 :: tz27 :: tz28 :: tz29 :: tz30 :: tz31 :: tz32 :: tz33 :: tz34 :: tz35 :: tz36 :: tz37 :: tz38 :: tz39 :: tz40 :: tz41 :: tz42 :: tz43 :: tz44 :: tz45 :: tz46 :: tz47 :: tz48 :: tz49 :: tz50 :: tz51 :: tz52 :: tz53 :: tz54 :: tz55 :: tz56 :: tz57 :: tz58 :: tz59 :: tz60 :: tz61 :: tz62 :: tz63 :: tz64 :: tz65 :: tz66 :: tz67 :: tz68 :: tz69 :: tz70 :: tz71 :: tz72 :: tz73 :: tz74 :: tz75 :: tz76 :: tz77 :: tz78 :: tz79 :: tz80 :: tz81 :: tz82 :: tz83 :: tz84 :: tz85 :: tz86 :: tz87 :: tz88 :: tz89 :: tz90 :: tz91 :: tz92 :: tz93 :: tz94 :: tz95 :: tz96 :: tz97 :: tz98 :: tz99 :: tz100 :: tz101 :: tz102 :: tz103 :: tz104 :: tz105 :: tz106 :: tz107 :: tz108 :: tz109 :: tz110 :: tz111 :: tz112 :: tz113 :: tz114 :: tz115 :: tz116 :: tz117 :: tz118 :: tz119 :: tz120 :: tz121 :: tz122 :: tz123 :: tz124 :: tz125 :: tz126 :: tz127 :: tz128 :: tz129 :: tz130 :: tz131 :: tz132 :: tz133 :: tz134 :: tz135 :: tz136 :: tz137 :: tz138 :: tz139 :: tz140 :: tz141 :: tz142 :: tz143 :: tz144 :: tz145 :: tz146 :: tz147 :: tz148 :: tz149 :: tz150 :: tz151 :: tz152 :: tz153 :: tz154 :: tz155 :: tz156 :: tz157 :: tz158 :: tz159 :: tz160 :: tz161 :: tz162 :: tz163 :: tz164 :: tz165 :: tz166 :: tz167 :: tz168 :: tz169 :: tz170 :: tz171 :: tz172 :: tz173 :: tz174 :: tz175 :: ty176 :: ty177 :: ty178 :: ty179 :: ty180 :: ty181 :: ty182 :: ty183 :: ty184 :: ty185 :: ty186 :: ty187 :: ty188 :: ty189 :: ty190 :: ty191 :: ty192 :: ty193 :: ty194 :: ty195 :: ty196 :: ty197 :: ty198 :: ty199 :: ty200 :: ty201 :: ty202 :: ty203 :: ty204 :: ty205 :: ty206 :: ty207 :: ty208 :: ty209 :: ty210 :: ty211 :: ty212 :: ty213 :: ty214 :: ty215 :: ty216 :: ty217 :: ty218 :: ty219 :: ty220 :: ty221 :: ty222 :: ty223 :: ty224 :: ty225 :: ty226 :: ty227 :: ty228 :: ty229 :: ty230 :: ty231 :: ty232 :: ty233 :: ty234 :: ty235 :: ty236 :: ty237 :: ty238 :: ty239 :: ty240 :: ty241 :: ty242 :: ty243 :: ty244 :: tz245 :: tz246 :: tz247 :: tz248 :: tz249 :: tz250 :: tz251 :: []), defers := [] } wq)) :
  Code.wp Tryz.prog c (Exit.inBlock 12 (Exit.then K (Exit.inBlock 11 (Exit.then K1 (Exit.then K2 (Exit.inBlock 10 (Exit.then K3 (bodyPost Tryz.prog Tryz.f15 post)))))))) { tmps := List.toArray (tz0 :: Value.pointer (some ⟨b0, 0, none⟩) :: tz2 :: tz3 :: tz4 :: tz5 :: tz6 :: tz7 :: tz8 :: tz9 :: tz10 :: Value.int .i64 (ei : Int) :: Value.pointer (some ⟨bx, 0, none⟩) :: Value.int .i64 0 :: tz14 :: tz15 :: tz16 :: tz17 :: tz18 :: tz19 :: tz20 :: tz21 :: tz22 :: tz23 :: tz24 :: tz25 :: tz26 :: tz27 :: tz28 :: tz29 :: tz30 :: tz31 :: tz32 :: tz33 :: tz34 :: tz35 :: tz36 :: tz37 :: tz38 :: tz39 :: tz40 :: tz41 :: tz42 :: tz43 :: tz44 :: tz45 :: tz46 :: tz47 :: tz48 :: tz49 :: tz50 :: tz51 :: tz52 :: tz53 :: tz54 :: tz55 :: tz56 :: tz57 :: tz58 :: tz59 :: tz60 :: tz61 :: tz62 :: tz63 :: tz64 :: tz65 :: tz66 :: tz67 :: tz68 :: tz69 :: tz70 :: tz71 :: tz72 :: tz73 :: tz74 :: tz75 :: tz76 :: tz77 :: tz78 :: tz79 :: tz80 :: tz81 :: tz82 :: tz83 :: tz84 :: tz85 :: tz86 :: tz87 :: tz88 :: tz89 :: tz90 :: tz91 :: tz92 :: tz93 :: tz94 :: tz95 :: tz96 :: tz97 :: tz98 :: tz99 :: tz100 :: tz101 :: tz102 :: tz103 :: tz104 :: tz105 :: tz106 :: tz107 :: tz108 :: tz109 :: tz110 :: tz111 :: tz112 :: tz113 :: tz114 :: tz115 :: tz116 :: tz117 :: tz118 :: tz119 :: tz120 :: tz121 :: tz122 :: tz123 :: tz124 :: tz125 :: tz126 :: tz127 :: tz128 :: tz129 :: tz130 :: tz131 :: tz132 :: tz133 :: tz134 :: tz135 :: tz136 :: tz137 :: tz138 :: tz139 :: tz140 :: tz141 :: tz142 :: tz143 :: tz144 :: tz145 :: tz146 :: tz147 :: tz148 :: tz149 :: tz150 :: tz151 :: tz152 :: tz153 :: tz154 :: tz155 :: tz156 :: tz157 :: tz158 :: tz159 :: tz160 :: tz161 :: tz162 :: tz163 :: tz164 :: tz165 :: tz166 :: tz167 :: tz168 :: tz169 :: tz170 :: tz171 :: tz172 :: tz173 :: tz174 :: tz175 :: tz176 :: tz177 :: tz178 :: tz179 :: tz180 :: tz181 :: tz182 :: tz183 :: tz184 :: tz185 :: tz186 :: tz187 :: tz188 :: tz189 :: tz190 :: tz191 :: tz192 :: tz193 :: tz194 :: tz195 :: tz196 :: tz197 :: tz198 :: tz199 :: tz200 :: tz201 :: tz202 :: tz203 :: tz204 :: tz205 :: tz206 :: tz207 :: tz208 :: tz209 :: tz210 :: tz211 :: tz212 :: tz213 :: tz214 :: tz215 :: tz216 :: tz217 :: tz218 :: tz219 :: tz220 :: tz221 :: tz222 :: tz223 :: tz224 :: tz225 :: tz226 :: tz227 :: tz228 :: tz229 :: tz230 :: tz231 :: tz232 :: tz233 :: tz234 :: tz235 :: tz236 :: tz237 :: tz238 :: tz239 :: tz240 :: tz241 :: tz242 :: tz243 :: tz244 :: tz245 :: tz246 :: tz247 :: tz248 :: tz249 :: tz250 :: tz251 :: []), defers := [] } wr := by
 conv at hc => lhs; whnf
 obtain rfl := Option.some.inj hc
 clear hc
 go_loopw [13] (fun jv wr => ∃ (j : Nat) (fa : Option Addr) (fc : Nat), jv = .int .i64 (j : Int) ∧ j ≤ nV ∧ Hid (wr.ownsRow (bx + 1) 96 2 (.slice fa j fc) j (nmRows (srtF NmS.n (mf.take j))).flatten) ∧ Blk wr bx #[.string m0, .slice fa j fc] 44 ∧ Hid (Below WB.heap.size WB wr)) (fun jv _ => nV - (intOf jv).toNat)
 case atStart => exact ⟨0, none, 0, rfl, by omega, World.ownsRow_nil _ _ _ _, BZ, HBW⟩
 case round =>
  clear BZ HBW
  obtain ⟨j, fa, fc, rfl, hj, HO, BZ, HBW⟩ := hrel
  have x1 : wr.cell? ⟨b0, 2, none⟩ = some (.slice (some ⟨g, off, none⟩) E ce) := (BX0.below HBW.out).cell 2
  have x2 : wr.cell? ⟨g, off + ei * 2 + 1, none⟩ = some (.slice a3 nV c3) := (HBW.out.cell (World.block_lt_of_cell? _ _ C1.out)).trans C1.out
  by_cases hlt : j < nV
  ·have hltz : (j : Int) < (nV : Int) := by omega
   obtain ⟨f, hf⟩ : ∃ x, mf[j]? = some x := ⟨_, List.getElem?_eq_getElem (by rw [HNV.out]; exact hlt)⟩
   obtain ⟨g2, o2, hga, hcs⟩ := HV0.out.get (nm_get hf)
   subst hga
   have HFJ : Hid (mf[j]? = some f) := hf
   obtain ⟨f0, f1⟩ := f
   have HCW : Hid (∀ W : World, Below WB.heap.size WB W → W.cell? ⟨b0, 2, none⟩ = some (.slice (some ⟨g, off, none⟩) E ce) ∧ W.cell? ⟨g, off + ei * 2 + 1, none⟩ = some (.slice (some ⟨g2, o2, none⟩) nV c3) ∧ W.cell? ⟨g2, o2 + j * 2, none⟩ = some (.string f0) ∧ W.cell? ⟨g2, o2 + j * 2 + 1, none⟩ = some (.int .i64 f1)) := fun W hW => by
    have k0 : WB.cell? ⟨g2, o2 + j * 2, none⟩ = some (.string f0) := by have := hcs 0 _ rfl; rwa [Nat.add_zero] at this
    have k1 : WB.cell? ⟨g2, o2 + j * 2 + 1, none⟩ = some (.int .i64 f1) := hcs 1 _ rfl
    exact ⟨(BX0.below hW).cell 2, (hW.cell (World.block_lt_of_cell? _ _ C1.out)).trans C1.out, (hW.cell (World.block_lt_of_cell? _ _ k0)).trans k0, (hW.cell (World.block_lt_of_cell? _ _ k1)).trans k1⟩
   clear hcs hf
   go_wp2_with fail
   clear x1 x2
   refine M_region (T := fun W => W.cell? ⟨bx, 1, none⟩ = some (.slice fa j fc) ∧ W.cell? ⟨b0, 2, none⟩ = some (.slice (some ⟨g, off, none⟩) E ce) ∧ W.cell? ⟨g, off + ei * 2 + 1, none⟩ = some (.slice (some ⟨g2, o2, none⟩) nV c3) ∧ W.cell? ⟨g2, o2 + j * 2, none⟩ = some (.string f0) ∧ W.cell? ⟨g2, o2 + j * 2 + 1, none⟩ = some (.int .i64 f1)) (m := 14) (by kernel_rfl) ?_
   have hb0 : Below wr.heap.size wr wr.drew := below_drewN 1 (Below.refl _ _)
   generalize wr.drew = V0 at *
   have HBV : Hid (Below WB.heap.size WB V0) := HBW.out.trans (hb0.mono HBW.out.size)
   have BZ0 := BZ.below hb0
   have HO0 : Hid (V0.ownsRow (bx + 1) 96 2 (.slice fa j fc) j (nmRows (srtF NmS.n (mf.take j))).flatten) := own_below HO.out hb0
   have hbxV : bx < V0.heap.size := BZ0.lt
   have hTW : ∀ W : World, Below V0.heap.size V0 W → (fun W => W.cell? ⟨bx, 1, none⟩ = some (.slice fa j fc) ∧ W.cell? ⟨b0, 2, none⟩ = some (.slice (some ⟨g, off, none⟩) E ce) ∧ W.cell? ⟨g, off + ei * 2 + 1, none⟩ = some (.slice (some ⟨g2, o2, none⟩) nV c3) ∧ W.cell? ⟨g2, o2 + j * 2, none⟩ = some (.string f0) ∧ W.cell? ⟨g2, o2 + j * 2 + 1, none⟩ = some (.int .i64 f1)) W := fun W hW => ⟨(BZ0.below hW).cell 1, HCW.out W (HBV.out.trans (hW.mono HBV.out.size))⟩
   have hT := hTW V0 (Below.refl _ _)
   clear HO BZ hb0 HBW
   refine M_take 0 187 (.pointer (some ⟨bx, 1, none⟩)) _ rfl rfl (by kernel_rfl) (by kernel_rfl) (by kernel_rfl) (by kernel_rfl) (by kernel_rfl) (fun _ _ _ h => h) (by rfl) (fun w' hw' => ?_) hT (listed' := #[true, false, false, false, false, false, false, false, false, false, false, false, false, false, false]) (by kernel_rfl) rfl ?_
   ·obtain ⟨g10, g11, g12, g13, g14⟩ := hw'; go_simp
   simp only [List.setIfInBounds_toArray, List.set_cons_zero, List.set_cons_succ]
   refine M_take 2 189 (.pointer (some ⟨b0, 2, none⟩)) _ rfl rfl (by kernel_rfl) (by kernel_rfl) (by kernel_rfl) (by kernel_rfl) (by kernel_rfl) (fun _ _ _ h => h) (by rfl) (fun w' hw' => ?_) hT (listed' := #[true, false, true, false, false, false, false, false, false, false, false, false, false, false, false]) (by kernel_rfl) rfl ?_
   ·obtain ⟨g10, g11, g12, g13, g14⟩ := hw'; go_simp
   simp only [List.setIfInBounds_toArray, List.set_cons_zero, List.set_cons_succ]
   refine M_take 4 191 (.int .i64 (ei : Int)) _ rfl rfl (by kernel_rfl) (by kernel_rfl) (by kernel_rfl) (by kernel_rfl) (by kernel_rfl) (fun _ _ _ h => h) (by rfl) (fun w' hw' => ?_) hT (listed' := #[true, false, true, false, true, false, false, false, false, false, false, false, false, false, false]) (by kernel_rfl) rfl ?_
   ·obtain ⟨g10, g11, g12, g13, g14⟩ := hw'; go_simp
   simp only [List.setIfInBounds_toArray, List.set_cons_zero, List.set_cons_succ]
   refine M_take 8 195 (.int .i64 (j : Int)) _ rfl rfl (by kernel_rfl) (by kernel_rfl) (by kernel_rfl) (by kernel_rfl) (by kernel_rfl) (fun _ _ _ h => h) (by rfl) (fun w' hw' => ?_) hT (listed' := #[true, false, true, false, true, false, false, false, true, false, false, false, false, false, false]) (by kernel_rfl) rfl ?_
   ·obtain ⟨g10, g11, g12, g13, g14⟩ := hw'; go_simp
   simp only [List.setIfInBounds_toArray, List.set_cons_zero, List.set_cons_succ]
   refine M_take 1 188 (.slice fa j fc) _ rfl rfl (by kernel_rfl) (by kernel_rfl) (by kernel_rfl) (by kernel_rfl) (by kernel_rfl) (fun _ _ _ h => h) (by rfl) (fun w' hw' => ?_) hT (listed' := #[true, true, true, false, true, false, false, false, true, false, false, false, false, false, false]) (by kernel_rfl) rfl ?_
   ·obtain ⟨g10, g11, g12, g13, g14⟩ := hw'; go_simp
   simp only [List.setIfInBounds_toArray, List.set_cons_zero, List.set_cons_succ]
   refine M_take 3 190 (.slice (some ⟨g, off, none⟩) E ce) _ rfl rfl (by kernel_rfl) (by kernel_rfl) (by kernel_rfl) (by kernel_rfl) (by kernel_rfl) (fun _ _ _ h => h) (by rfl) (fun w' hw' => ?_) hT (listed' := #[true, true, true, true, true, false, false, false, true, false, false, false, false, false, false]) (by kernel_rfl) rfl ?_
   ·obtain ⟨g10, g11, g12, g13, g14⟩ := hw'; go_simp
   simp only [List.setIfInBounds_toArray, List.set_cons_zero, List.set_cons_succ]
   refine M_take 5 192 (.pointer (some ⟨g, off + ei * 2, none⟩)) _ rfl rfl (by kernel_rfl) (by kernel_rfl) (by kernel_rfl) (by kernel_rfl) (by kernel_rfl) (fun _ _ _ h => h) (by rfl) (fun w' hw' => ?_) hT (listed' := #[true, true, true, true, true, true, false, false, true, false, false, false, false, false, false]) (by kernel_rfl) rfl ?_
   ·obtain ⟨g10, g11, g12, g13, g14⟩ := hw'; go_simp
   simp only [List.setIfInBounds_toArray, List.set_cons_zero, List.set_cons_succ]
   refine M_take 6 193 (.pointer (some ⟨g, off + ei * 2 + 1, none⟩)) _ rfl rfl (by kernel_rfl) (by kernel_rfl) (by kernel_rfl) (by kernel_rfl) (by kernel_rfl) (fun _ _ _ h => h) (by rfl) (fun w' hw' => ?_) hT (listed' := #[true, true, true, true, true, true, true, false, true, false, false, false, false, false, false]) (by kernel_rfl) rfl ?_
   ·obtain ⟨g10, g11, g12, g13, g14⟩ := hw'; go_simp
   simp only [List.setIfInBounds_toArray, List.set_cons_zero, List.set_cons_succ]
   refine M_take 7 194 (.slice (some ⟨g2, o2, none⟩) nV c3) _ rfl rfl (by kernel_rfl) (by kernel_rfl) (by kernel_rfl) (by kernel_rfl) (by kernel_rfl) (fun _ _ _ h => h) (by rfl) (fun w' hw' => ?_) hT (listed' := #[true, true, true, true, true, true, true, true, true, false, false, false, false, false, false]) (by kernel_rfl) rfl ?_
   ·obtain ⟨g10, g11, g12, g13, g14⟩ := hw'; go_simp
   simp only [List.setIfInBounds_toArray, List.set_cons_zero, List.set_cons_succ]
   refine M_take 9 196 (.pointer (some ⟨g2, o2 + j * 2, none⟩)) _ rfl rfl (by kernel_rfl) (by kernel_rfl) (by kernel_rfl) (by kernel_rfl) (by kernel_rfl) (fun _ _ _ h => h) (by rfl) (fun w' hw' => ?_) hT (listed' := #[true, true, true, true, true, true, true, true, true, true, false, false, false, false, false]) (by kernel_rfl) rfl ?_
   ·obtain ⟨g10, g11, g12, g13, g14⟩ := hw'; go_simp
   simp only [List.setIfInBounds_toArray, List.set_cons_zero, List.set_cons_succ]
   refine M_take 10 197 (.agg #[.string f0, .int .i64 f1]) _ rfl rfl (by kernel_rfl) (by kernel_rfl) (by kernel_rfl) (by kernel_rfl) (by kernel_rfl) (fun _ _ _ h => h) (by rfl) (fun w' hw' => ?_) hT (listed' := #[true, true, true, true, true, true, true, true, true, true, true, false, false, false, false]) (by kernel_rfl) rfl ?_
   ·obtain ⟨g10, g11, g12, g13, g14⟩ := hw'; go_simp
   simp only [List.setIfInBounds_toArray, List.set_cons_zero, List.set_cons_succ]
   have hal : Below V0.heap.size V0 (V0.alloc (.cells #[.string f0, .int .i64 f1] 96)) := (Below.refl _ _).alloc (Nat.le_refl _) _
   have BE := Blk.new V0 #[.string f0, .int .i64 f1] 96
   obtain ⟨bz, hbz⟩ : ∃ n, V0.heap.size = n := ⟨_, rfl⟩
   refine M_run 11 198 (.slice (some ⟨V0.heap.size, 0, none⟩) 1 1) (V0.alloc (.cells #[.string f0, .int .i64 f1] 96)) rfl rfl (by kernel_rfl) (by rfl) (listed' := #[true, true, true, true, true, true, true, true, true, true, true, true, false, false, false]) (by kernel_rfl) (by go_simp) (hTW _ hal) ?_
   simp only [List.setIfInBounds_toArray, List.set_cons_zero, List.set_cons_succ]
   rw [hbz] at BE ⊢
   have HO1 : Hid ((V0.alloc (.cells #[.string f0, .int .i64 f1] 96)).ownsRow (bx + 1) 96 2 (.slice fa j fc) j (nmRows (srtF NmS.n (mf.take j))).flatten) := own_below HO0.out hal
   have BZ1 := BZ0.below hal
   have HB1 : Hid (Below WB.heap.size WB (V0.alloc (.cells #[.string f0, .int .i64 f1] 96))) := HBV.out.trans (hal.mono HBV.out.size)
   have hsz1 := hal.size
   generalize (V0.alloc (.cells #[.string f0, .int .i64 f1] 96)) = V1 at *
   clear hbz hal hTW hT HO0 BZ0 HBV
   obtain ⟨i0, hi0, hz0, hz1, hz2⟩ := info_parts infoNm
   obtain ⟨v', V2, r1, r2, r3, _⟩ := run_append_own V1 (bx + 1) 42 42 96 i0 _ 2 24 Tryz.underlying42 hi0 hz0 hz1 hz2 rfl (by decide) (.slice fa j fc) j _ HO1.out ⟨bz, 0, none⟩ 1 1 [.string f0, .int .i64 f1] rfl (fun k u hu => by
    have := BE.cell k
    rw [Addr.add_lit, Nat.zero_add, this]
    simpa using hu) (fun u hu => by
    simp only [List.mem_cons, List.not_mem_nil, or_false] at hu
    rcases hu with rfl | rfl <;> rfl) (by unfold maxLen; omega) (by omega) (by omega)
   have HRUN : Hid _ := r1
   have KA : Kp (fun q => (Value.slice fa j fc).ownBlock = some q) V1 V2 := (Kp.refl _ _).grown r3 (fun q hq _ => hq)
   obtain ⟨q, nc, hv', _, _, hq1, _⟩ := own_addr r2 (by omega)
   subst hv'
   obtain ⟨L, hL⟩ : ∃ L, srtF NmS.n (mf.take j) = L := ⟨_, rfl⟩
   have HL : Hid (srtF NmS.n (mf.take j) = L) := hL
   have HLn : Hid (L.length = j) := by show _ = _; rw [← hL, srtF_len, List.length_take, HNV.out]; omega
   have HO2 : Hid (V2.ownsRow (bx + 1) 96 2 (.slice (some ⟨q, 0, none⟩) (j + 1) nc) (j + 1) (nmRows (insL L (⟨f0, f1⟩ : NmS) j)).flatten) := by
    show World.ownsRow _ _ _ _ _ _ _
    rw [insL_end _ _ _ HLn.out, ← hL]
    have e1 : (nmRows (srtF NmS.n (mf.take j) ++ [(⟨f0, f1⟩ : NmS)])).flatten = (nmRows (srtF NmS.n (mf.take j))).flatten ++ [.string f0, .int .i64 f1] := by simp [nmRows, NmS.cells]
    rw [e1]; exact r2
   clear hL
   have hnob : ¬ (Value.slice fa j fc).ownBlock = some bx := fun hq => by have := (HO1.out.lt bx hq).1; omega
   have BZ2 := BZ1.kp KA hnob
   have HB2 : Hid (Below WB.heap.size WB V2) := HB1.out.grown r3 HB1.out.size (fun q hq => by have := (HO1.out.lt q hq).1; have := HBX.out; omega)
   have hTm : (fun W => W.cell? ⟨bx, 1, none⟩ = some (.slice fa j fc) ∧ W.cell? ⟨b0, 2, none⟩ = some (.slice (some ⟨g, off, none⟩) E ce) ∧ W.cell? ⟨g, off + ei * 2 + 1, none⟩ = some (.slice (some ⟨g2, o2, none⟩) nV c3) ∧ W.cell? ⟨g2, o2 + j * 2, none⟩ = some (.string f0) ∧ W.cell? ⟨g2, o2 + j * 2 + 1, none⟩ = some (.int .i64 f1)) V2 := ⟨BZ2.cell 1, HCW.out V2 HB2.out⟩
   clear r1 r2 r3 HO1 BZ1 HB1 KA hnob BE
   refine M_run 12 199 (.slice (some ⟨q, 0, none⟩) (j + 1) nc) (V2) rfl rfl (by kernel_rfl) (by rfl) (listed' := #[true, true, true, true, true, true, true, true, true, true, true, true, true, false, false]) (by kernel_rfl) (append_run rfl rfl rfl HRUN.out) hTm ?_
   simp only [List.setIfInBounds_toArray, List.set_cons_zero, List.set_cons_succ]
   clear HRUN
   have hT := hTm
   refine M_take 13 200 (.pointer (some ⟨bx, 1, none⟩)) _ rfl rfl (by kernel_rfl) (by kernel_rfl) (by kernel_rfl) (by kernel_rfl) (by kernel_rfl) (fun _ _ _ h => h) (by rfl) (fun w' hw' => ?_) hT (listed' := #[true, true, true, true, true, true, true, true, true, true, true, true, true, true, false]) (by kernel_rfl) rfl ?_
   ·obtain ⟨g10, g11, g12, g13, g14⟩ := hw'; go_simp
   simp only [List.setIfInBounds_toArray, List.set_cons_zero, List.set_cons_succ]
   have y1 := (BZ2.cell 1).trans rfl
   have z1 := BZ2.froz 1
   refine M_store 14 (V2.setCell ⟨bx, 1, none⟩ (.slice (some ⟨q, 0, none⟩) (j + 1) nc)) rfl rfl (by kernel_rfl) (by rfl) (listed' := #[true, true, true, true, true, true, true, true, true, true, true, true, true, true, true]) (by kernel_rfl) (by go_simp) (by kernel_rfl) ?_
   refine M_done (by kernel_rfl) ?_ _
   have KS : Kp (fun q => q = bx) V2 (V2.setCell ⟨bx, 1, none⟩ (.slice (some ⟨q, 0, none⟩) (j + 1) nc)) := by
    refine Kp.setCell ?_ (fun _ => by simp) _
    exact Kp.refl _ _
   have BZ3 : Blk (V2.setCell ⟨bx, 1, none⟩ (.slice (some ⟨q, 0, none⟩) (j + 1) nc)) bx #[.string m0, .slice (some ⟨q, 0, none⟩) (j + 1) nc] 44 := BZ2.set 1 _ rfl
   have HO3 : Hid ((V2.setCell ⟨bx, 1, none⟩ (.slice (some ⟨q, 0, none⟩) (j + 1) nc)).ownsRow (bx + 1) 96 2 (.slice (some ⟨q, 0, none⟩) (j + 1) nc) (j + 1) (nmRows (insL L (⟨f0, f1⟩ : NmS) j)).flatten) := own_blk HO2.out BZ2 (by decide) KS
   have HB3 : Hid (Below WB.heap.size WB (V2.setCell ⟨bx, 1, none⟩ (.slice (some ⟨q, 0, none⟩) (j + 1) nc))) := HB2.out.trans (KS.toBelow HB2.out.size (fun k e => by have := HBX.out; omega))
   generalize (V2.setCell ⟨bx, 1, none⟩ (.slice (some ⟨q, 0, none⟩) (j + 1) nc)) = V3 at *
   clear y1 z1 KS BZ2 HO2 HB2 hT hTm hsz1 hbxV
   obtain ⟨N, hN⟩ : ∃ N, j + 1 = N := ⟨_, rfl⟩
   have HNN : Hid (j + 1 = N) := hN
   rw [hN] at HO3 BZ3 ⊢
   have hNz : (N : Int) - 1 = (j : Int) := by omega
   have hjw : IntKind.i64.wrap (j : Int) = (j : Int) := wrapN _ (by omega) (by omega)
   have hjN : j < N := by omega
   clear hN
   have hqb : ¬ q = bx := by omega
   have hbq : ¬ bx = q := by omega
   have x3 : V3.cell? ⟨bx, 1, none⟩ = some (.slice (some ⟨q, 0, none⟩) N nc) := BZ3.cell 1
   go_wp2_with fail
   clear x3
   go_loopw [14] (fun iv wr => ∃ i : Nat, iv = .int .i64 (i : Int) ∧ i ≤ j ∧ Hid (∀ y ∈ L.drop i, NmS.n (⟨f0, f1⟩ : NmS) < NmS.n y) ∧ Hid (wr.ownsRow (bx + 1) 96 2 (.slice (some ⟨q, 0, none⟩) N nc) N (nmRows (insL L (⟨f0, f1⟩ : NmS) i)).flatten) ∧ Blk wr bx #[.string m0, .slice (some ⟨q, 0, none⟩) N nc] 44 ∧ Hid (Below WB.heap.size WB wr)) (fun iv _ => (intOf iv).toNat)
   case atStart => exact ⟨j, rfl, by omega, (by show ∀ y ∈ L.drop j, _; intro y hy; rw [List.drop_of_length_le (by rw [HLn.out]; omega)] at hy; cases hy), HO3, BZ3, HB3⟩
   case round =>
    clear HO3 BZ3 HB3
    obtain ⟨i, rfl, hi, HGT, HO, BZ, HBW⟩ := hrel
    have x1 : wr.cell? ⟨bx, 1, none⟩ = some (.slice (some ⟨q, 0, none⟩) N nc) := BZ.cell 1
    rcases i with _ | p
    ·have HEND : Hid (wr.ownsRow (bx + 1) 96 2 (.slice (some ⟨q, 0, none⟩) N nc) N (nmRows (srtF NmS.n (mf.take N))).flatten) := by
      show World.ownsRow _ _ _ _ _ _ _
      have eq : srtF NmS.n (mf.take N) = insL L (⟨f0, f1⟩ : NmS) 0 := by
       rw [← HNN.out, srt_more HFJ.out (Nat.zero_le _) (by rw [HNV.out]; omega) (by rw [HL.out]; exact HGT.out) (.inl rfl), HL.out]
      rw [eq]
      exact HO.out
     have hz0 : decide ((0 : Int) < ((0 : Nat) : Int)) = false := by decide
     go_wp2_with fail
     go_quiet (fail)
     go_wp2_with fail
     have HBN : Hid (Below WB.heap.size WB (wr.drewN nq)) := below_drewN nq HBW.out
     have HON : Hid ((wr.drewN nq).ownsRow (bx + 1) 96 2 (.slice (some ⟨q, 0, none⟩) N nc) N (nmRows (srtF NmS.n (mf.take N))).flatten) := own_below HEND.out (below_drewN nq (Below.refl _ _))
     have BZN := BZ.below (below_drewN nq (Below.refl _ _))
     go_roundw
     case rel => exact ⟨j + 1, _, _, by go_num, by omega, by rw [HNN.out]; exact HON, by rw [HNN.out]; exact BZN, HBN⟩
     case measure => simp [intOf]; omega
    ·obtain ⟨i, hpi⟩ : ∃ i, p + 1 = i := ⟨_, rfl⟩
     obtain ⟨y, hy⟩ : ∃ y, L[p]? = some y := ⟨_, List.getElem?_eq_getElem (by rw [HLn.out]; omega)⟩
     obtain ⟨s1, s2, s3⟩ := insL_step (x := (⟨f0, f1⟩ : NmS)) hy
     have HYP : Hid (L[p]? = some y) := hy
     have HPI : Hid (p + 1 = i) := hpi
     rw [hpi] at s1 s2 s3 HO HGT hi ⊢
     have hipz : (i : Int) - 1 = (p : Int) := by omega
     have hpw : IntKind.i64.wrap (p : Int) = (p : Int) := wrapN _ (by omega) (by omega)
     have hiN : (i : Int) < (N : Int) := by omega
     have hpN : (p : Int) < (N : Int) := by omega
     have hi0 : decide ((0 : Int) < (i : Int)) = true := decide_eq_true (by omega)
     have hi0' : 0 < i := by omega
     have hi0d : decide (0 < i) = true := decide_eq_true hi0'
     have hiL : i < (insL L (⟨f0, f1⟩ : NmS) i).length := by rw [insL_len _ _ _ (by rw [HLn.out]; omega), HLn.out]; omega
     have hpL : p < (insL L (⟨f0, f1⟩ : NmS) i).length := by omega
     have HS3 : Hid (((insL L (⟨f0, f1⟩ : NmS) i).set i y).set p (⟨f0, f1⟩ : NmS) = insL L (⟨f0, f1⟩ : NmS) p) := s3
     clear hpi hy s3
     obtain ⟨y0, y1⟩ := y
     have r1 := nm_get s1
     have r2 := nm_get s2
     have cc0 := own_at (nml_len _) HO.out r1 (j := 0) rfl
     have dd0 := own_at (nml_len _) HO.out r2 (j := 0) rfl
     rw [Nat.add_zero] at cc0 dd0
     have cc1 := own_at (nml_len _) HO.out r1 (j := 1) rfl
     have dd1 := own_at (nml_len _) HO.out r2 (j := 1) rfl
     by_cases hlv : f1 < y1
     ·have hlb : decide (f1 < y1) = true := decide_eq_true hlv
      have HG2 : Hid (∀ z ∈ L.drop p, NmS.n (⟨f0, f1⟩ : NmS) < NmS.n z) := more_step HYP.out (by rw [HPI.out]; exact HGT.out) hlv
      go_wp2_with fail
      go_quiet (fail)
      have hdr := below_drewN nq (Below.refl wr.heap.size wr)
      have hd : (wr.drewN nq).ownsRow (bx + 1) 96 2 (.slice (some ⟨q, 0, none⟩) N nc) N (nmRows (insL L (⟨f0, f1⟩ : NmS) i)).flatten := own_below HO.out hdr
      have BD := BZ.below hdr
      have HBD : Hid (Below WB.heap.size WB (wr.drewN nq)) := HBW.out.trans (hdr.mono HBW.out.size)
      clear cc0 dd0 cc1 dd1 x1 HO BZ HBW hdr HGT
      generalize wr.drewN nq = wd at *
      go_wp2_with fail
      have x1 : wd.cell? ⟨bx, 1, none⟩ = some (.slice (some ⟨q, 0, none⟩) N nc) := BD.cell 1
      have cc0 := own_at (nml_len _) hd r1 (j := 0) rfl
      have dd0 := own_at (nml_len _) hd r2 (j := 0) rfl
      rw [Nat.add_zero] at cc0 dd0
      have v0 : wd.frozen? ⟨q, i * 2, none⟩ = false := own_froz hd _
      have t0 : wd.frozen? ⟨q, p * 2, none⟩ = false := own_froz hd _
      have cc1 := own_at (nml_len _) hd r1 (j := 1) rfl
      have dd1 := own_at (nml_len _) hd r2 (j := 1) rfl
      have v1 : wd.frozen? ⟨q, i * 2 + 1, none⟩ = false := own_froz hd _
      have t1 : wd.frozen? ⟨q, p * 2 + 1, none⟩ = false := own_froz hd _
      have KT : Kp (fun x => x = q) wd ((((wd.setCell ⟨q, i * 2, none⟩ (.string y0)).setCell ⟨q, i * 2 + 1, none⟩ (.int .i64 y1)).setCell ⟨q, p * 2, none⟩ (.string f0)).setCell ⟨q, p * 2 + 1, none⟩ (.int .i64 f1)).drew := by
       refine Kp.trans ?_ (Kp.ofBelow (below_drewN 1 (Below.refl _ _)))
       refine Kp.setCell ?_ (fun _ => by simp) _
       refine Kp.setCell ?_ (fun _ => by simp) _
       refine Kp.setCell ?_ (fun _ => by simp) _
       refine Kp.setCell ?_ (fun _ => by simp) _
       exact Kp.refl _ _
      have HON : Hid (((((wd.setCell ⟨q, i * 2, none⟩ (.string y0)).setCell ⟨q, i * 2 + 1, none⟩ (.int .i64 y1)).setCell ⟨q, p * 2, none⟩ (.string f0)).setCell ⟨q, p * 2 + 1, none⟩ (.int .i64 f1)).drew.ownsRow (bx + 1) 96 2 (.slice (some ⟨q, 0, none⟩) N nc) N (nmRows (insL L (⟨f0, f1⟩ : NmS) p)).flatten) := by
       have h1 := own_putN hd hiL (⟨y0, y1⟩ : NmS)
       have h2 := own_putN h1 (i := p) (by rw [List.length_set]; exact hpL) (⟨f0, f1⟩ : NmS)
       rw [HS3.out] at h2
       exact own_below h2 (below_drewN 1 (Below.refl _ _))
      have BZN := BD.kp KT hbq
      have HBN : Hid (Below WB.heap.size WB ((((wd.setCell ⟨q, i * 2, none⟩ (.string y0)).setCell ⟨q, i * 2 + 1, none⟩ (.int .i64 y1)).setCell ⟨q, p * 2, none⟩ (.string f0)).setCell ⟨q, p * 2 + 1, none⟩ (.int .i64 f1)).drew) := HBD.out.trans (KT.toBelow HBD.out.size (fun k e => by have := HBX.out; omega))
      clear r1 r2 s1 s2 hd KT BD hiL hpL
      have mixed : Tryz.prog.follows Departure.mixedOrders = true := by kernel_rfl
      go_big_region_o
      all_goals go_wp2_with fail
      go_roundw
      case rel => exact ⟨p, by go_num, by omega, HG2, HON, BZN, HBN⟩
      case measure => simp [intOf]; omega
     ·have hlb : decide (f1 < y1) = false := decide_eq_false hlv
      have HEND : Hid (wr.ownsRow (bx + 1) 96 2 (.slice (some ⟨q, 0, none⟩) N nc) N (nmRows (srtF NmS.n (mf.take N))).flatten) := by
       show World.ownsRow _ _ _ _ _ _ _
       have eq : srtF NmS.n (mf.take N) = insL L (⟨f0, f1⟩ : NmS) i := by
        rw [← HNN.out, srt_more HFJ.out hi (by rw [HNV.out]; omega) (by rw [HL.out]; exact HGT.out) (.inr ⟨(⟨y0, y1⟩ : NmS), by rw [HL.out, ← HPI.out]; exact HYP.out, hlv⟩), HL.out]
       rw [eq]
       exact HO.out
      go_wp2_with fail
      go_quiet (fail)
      go_wp2_with fail
      have HBN : Hid (Below WB.heap.size WB (wr.drewN nq)) := below_drewN nq HBW.out
      have HON : Hid ((wr.drewN nq).ownsRow (bx + 1) 96 2 (.slice (some ⟨q, 0, none⟩) N nc) N (nmRows (srtF NmS.n (mf.take N))).flatten) := own_below HEND.out (below_drewN nq (Below.refl _ _))
      have BZN := BZ.below (below_drewN nq (Below.refl _ _))
      go_roundw
      case rel => exact ⟨j + 1, _, _, by go_num, by omega, by rw [HNN.out]; exact HON, by rw [HNN.out]; exact BZN, HBN⟩
      case measure => simp [intOf]; omega
  ·obtain rfl : nV = j := by omega
   have hltz : ¬ (nV : Int) < (nV : Int) := by omega
   have HOE : Hid (wr.ownsRow (bx + 1) 96 2 (.slice fa nV fc) nV (nmRows (srtF NmS.n mf)).flatten) := by
    have := HO.out
    rw [List.take_of_length_le (by rw [HNV.out]; omega)] at this
    exact this
   clear HO
   go_wp2_with fail
   exact HQ.out _ _ _ _ _ _ _ _ _ _ _ _ _ _ _ _ _ _ _ _ _ _ _ _ _ _ _ _ _ _ _ _ _ _ _ _ _ _ _ _ _ _ _ _ _ _ _ _ _ _ _ _ _ _ _ _ _ _ _ _ _ _ _ _ _ _ _ _ _ _ _ _ _ _ HOE BZ HBW
end Go.Proofs.YtcjfeandnmochaaGreatDoor

/- A loop of the reference's Canon: the elements put in, each from behind. -/
import Derived.Test.YtkfhlgajeejgeaaGreatDoorRcLoopCP
import Derived.Test.YtkfhlgajeejgeaaGreatDoorPkF
import Derived.Test.YtkfhlgajeejgeaaGreatDoorPkD
import Derived.BigQuiet
import Derived.Maps.AppendAt
import Derived.Shelf.RegionOpenPlain
namespace Go.Proofs.YtkfhlgajeejgeaaGreatDoor
open Go.ChangeShapes Go.WideShapes Go.ChangeAt Go.RowKit
set_option linter.unusedVariables false
set_option linter.unusedSimpArgs false
set_option maxRecDepth 20000

set_option maxHeartbeats 40000000 in
theorem loopR {K K1 K2 K3 : Act → World → Prop} {post : Ending → World → Prop} (c : Code) (hc : Tryz.f14.body.bind (blkOf 6) = some c) {m0 : ByteArray} {a3 a4 xa : Option Addr} {c3 c4 nF nR bm bx xc : Nat} {mf : List FlS} {mr : List Int} {tz0 tz1 tz2 tz3 tz4 tz7 tz8 tz10 tz11 tz12 tz13 tz14 tz15 tz16 tz17 tz18 tz19 tz20 tz21 tz22 tz23 tz24 tz25 tz26 tz27 tz28 tz29 tz30 tz31 tz32 tz33 tz34 tz35 tz36 tz37 tz38 tz39 tz40 tz41 tz42 tz43 tz44 tz45 tz46 tz47 tz48 tz49 tz50 tz51 tz52 tz53 tz54 tz55 tz56 tz57 tz58 tz59 tz60 tz61 tz62 tz63 tz64 tz65 tz66 tz67 tz68 tz69 tz70 tz71 tz72 tz73 tz74 tz75 tz76 tz77 tz78 tz79 tz80 tz81 tz82 tz83 tz84 tz85 tz86 tz87 tz88 tz89 tz90 tz91 tz92 tz93 tz94 tz95 tz96 tz97 tz98 tz99 tz100 tz101 tz102 tz103 tz104 tz105 tz106 tz107 tz108 tz109 tz110 tz111 tz112 tz113 tz114 tz115 tz116 tz117 tz118 tz119 tz120 tz121 tz122 tz123 tz124 tz125 tz126 tz127 tz128 tz129 tz130 tz131 tz132 tz133 tz134 tz135 tz136 tz137 tz138 tz139 tz140 tz141 tz142 tz143 tz144 tz145 tz146 tz147 tz148 tz149 tz150 tz151 tz152 tz153 tz154 tz155 tz156 tz157 tz158 tz159 tz160 tz161 tz162 tz163 tz164 tz165 tz166 tz167 tz168 tz169 tz170 tz171 tz172 tz173 tz174 tz175 tz176 tz177 tz178 tz179 tz180 tz181 tz182 tz183 tz184 tz185 tz186 tz187 tz188 tz189 tz190 tz191 tz192 tz193 tz194 tz195 tz196 tz197 tz198 tz199 tz200 tz201 tz202 tz203 tz204 tz205 tz206 tz207 tz208 tz209 tz210 tz211 tz212 tz213 tz214 tz215 tz216 tz217 tz218 tz219 tz220 tz221 tz222 tz223 tz224 tz225 tz226 tz227 tz228 tz229 tz230 tz231 tz232 tz233 tz234 tz235 tz236 tz237 tz238 tz239 tz240 tz241 tz242 tz243 tz244 tz245 tz246 tz247 tz248 tz249 tz250 tz251 : Value} {WB wr : World} (BM0 : Blk WB bm #[.string m0, .slice a3 nF c3, .slice a4 nR c4] 40) (HR0 : Hid (RowG WB (.slice a4 nR c4) 1 (inRows mr))) (HBX : Hid (WB.heap.size = bx)) (HNR : Hid (mr.length = nR)) (hnR40 : nR ≤ 40) (BZ : Blk wr bx #[.string m0, .slice xa nF xc, .slice none 0 0] 40) (HX : Hid (wr.ownsRow (bx + 1) 44 5 (.slice xa nF xc) nF (flRows (srtF FlS.tag mf)).flatten)) (HBW : Hid (Below WB.heap.size WB wr)) (HQ : Hid (∀ (fa : Option Addr) (fc : Nat) (wq : World) (ty9 ty10 ty97 ty98 ty99 ty100 ty101 ty102 ty103 ty104 ty105 ty106 ty107 ty108 ty109 ty110 ty111 ty112 ty113 ty114 ty115 ty116 ty117 ty118 ty119 ty120 ty121 ty122 ty123 ty124 ty125 ty126 ty127 ty128 ty129 ty130 ty131 ty132 ty133 ty134 ty135 ty136 ty137 ty138 ty139 ty140 ty141 ty142 ty143 ty144 ty145 ty146 ty147 ty148 ty149 ty150 ty151 ty152 ty153 ty154 ty155 : Value), Hid (wq.ownsRow (bx + 1) 3 1 (.slice fa nR fc) nR (inRows (srtF (fun x => x) mr)).flatten) → Blk wq bx #[.string m0, .slice xa nF xc, .slice fa nR fc] 40 → Hid (wq.ownsRow (bx + 1) 44 5 (.slice xa nF xc) nF (flRows (srtF FlS.tag mf)).flatten) → Hid (Below WB.heap.size WB wq) → K { tmps := List.toArray (tz0 :: tz1 :: tz2 :: tz3 :: tz4 :: Value.pointer (some ⟨bm, 0, none⟩) :: Value.pointer (some ⟨bx, 0, none⟩) :: tz7 :: tz8 :: ty9 :: ty10 :: tz11 :: tz12 :: tz13 :: tz14 :: tz15 :: tz16 :: tz17 :: tz18 :: tz19 :: tz20 :: tz21 :: tz22 :: tz23 :: tz24 :: tz25 :: tz26 :: tz27 :: tz28 :: tz29 :: tz30 :: tz31 :: tz32 :: tz33 :: tz34 :: tz35 :: tz36 :: tz37 :: tz38 :: tz39 :: tz40 :: tz41 :: tz42 :: tz43 :: tz44 :: tz45 :: tz46 :: tz47 :: tz48 :: tz49 :: tz50 :: tz51 :: tz52 :: tz53 :: tz54 :: tz55 :: tz56 :: tz57 :: tz58 :: tz59 :: tz60 :: tz61 :: tz62 :: tz63 :: tz64 :: tz65 :: tz66 :: tz67 :: tz68 :: tz69 :: tz70 :: tz71 :: tz72 :: tz73 :: tz74 :: tz75 :: tz76 :: tz77 :: tz78 :: tz79 :: tz80 :: tz81 :: tz82 :: tz83 :: tz84 :: tz85 :: tz86 :: tz87 :: tz88 :: tz89 :: tz90 :: tz91 :: tz92 :: tz93 :: tz94 :: tz95 :: tz96 :: ty97 :: ty98 :: ty99 :: ty100 :: ty101 :: ty102 :: ty103 :: ty104 :: ty105 :: ty106 :: ty107 :: ty108 :: ty109 :: ty110 :: ty111 :: ty112 :: ty113 :: ty114 :: ty115 :: ty116 :: ty117 :: ty118 :: ty119 :: ty120 :: ty121 :: ty122 :: ty123 :: ty124 :: ty125 :: ty126 :: ty127 :: ty128 :: ty129 :: ty130 :: ty131 :: ty132 :: ty133 :: ty134 :: ty135 :: ty136 :: ty137 :: ty138 :: ty139 :: ty140 :: ty141 :: ty142 :: ty143 :: ty144 :: ty145 :: ty146 :: ty147 :: ty148 :: ty149 :: ty150 :: ty151 :: ty152 :: ty153 :: ty154 :: ty155 :: tz156 :: tz157 :: tz158 :: tz159 :: tz160 :: tz161 :: tz162 :: tz163 :: tz164 :: tz165 :: tz166 :: tz167 :: tz168 :: tz169 :: tz170 :: tz171 :: tz172 :: tz173 :: tz174 :: tz175 :: tz176 :: tz177 :: tz178 :: tz179 :: tz180 :: tz181 :: tz182 :: tz183 :: tz184 :: tz185 :: tz186 :: tz187 :: tz188 :: tz189 :: tz190 :: tz191 :: tz192 :: tz193 :: tz194 :: tz195 :: tz196 :: tz197 :: tz198 :: tz199 :: tz200 :: tz201 :: tz202 :: tz203 :: tz204 :: tz205 :: tz206 :: tz207 :: tz208 :: tz209 :: tz210 :: tz211 :: tz212 :: tz213 :: tz214 :: tz215 :: tz216 :: tz217 :: tz218 :: tz219 :: tz220 :: tz221 :: tz222 :: tz223 :: tz224 :: tz225 :: tz226 :: tz227 :: tz228 :: tz229 :: tz230 :: tz231 :: tz232 :: tz233 :: tz234 :: tz235 :: tz236 :: tz237 :: tz238 :: tz239 :: tz240 :: tz241 :: tz242 :: tz243 :: tz244 :: tz245 :: tz246 :: tz247 :: tz248 :: tz249 :: tz250 :: tz251 :: []), defers := [] } wq)) :
    Code.wp Tryz.prog c (Exit.inBlock 6 (Exit.then K (Exit.inBlock 1 (Exit.then K1 (Exit.then K2 (Exit.inBlock 0 (Exit.then K3 (bodyPost Tryz.prog Tryz.f14 post)))))))) { tmps := List.toArray (tz0 :: tz1 :: tz2 :: tz3 :: tz4 :: Value.pointer (some ⟨bm, 0, none⟩) :: Value.pointer (some ⟨bx, 0, none⟩) :: tz7 :: tz8 :: Value.int .i64 0 :: tz10 :: tz11 :: tz12 :: tz13 :: tz14 :: tz15 :: tz16 :: tz17 :: tz18 :: tz19 :: tz20 :: tz21 :: tz22 :: tz23 :: tz24 :: tz25 :: tz26 :: tz27 :: tz28 :: tz29 :: tz30 :: tz31 :: tz32 :: tz33 :: tz34 :: tz35 :: tz36 :: tz37 :: tz38 :: tz39 :: tz40 :: tz41 :: tz42 :: tz43 :: tz44 :: tz45 :: tz46 :: tz47 :: tz48 :: tz49 :: tz50 :: tz51 :: tz52 :: tz53 :: tz54 :: tz55 :: tz56 :: tz57 :: tz58 :: tz59 :: tz60 :: tz61 :: tz62 :: tz63 :: tz64 :: tz65 :: tz66 :: tz67 :: tz68 :: tz69 :: tz70 :: tz71 :: tz72 :: tz73 :: tz74 :: tz75 :: tz76 :: tz77 :: tz78 :: tz79 :: tz80 :: tz81 :: tz82 :: tz83 :: tz84 :: tz85 :: tz86 :: tz87 :: tz88 :: tz89 :: tz90 :: tz91 :: tz92 :: tz93 :: tz94 :: tz95 :: tz96 :: tz97 :: tz98 :: tz99 :: tz100 :: tz101 :: tz102 :: tz103 :: tz104 :: tz105 :: tz106 :: tz107 :: tz108 :: tz109 :: tz110 :: tz111 :: tz112 :: tz113 :: tz114 :: tz115 :: tz116 :: tz117 :: tz118 :: tz119 :: tz120 :: tz121 :: tz122 :: tz123 :: tz124 :: tz125 :: tz126 :: tz127 :: tz128 :: tz129 :: tz130 :: tz131 :: tz132 :: tz133 :: tz134 :: tz135 :: tz136 :: tz137 :: tz138 :: tz139 :: tz140 :: tz141 :: tz142 :: tz143 :: tz144 :: tz145 :: tz146 :: tz147 :: tz148 :: tz149 :: tz150 :: tz151 :: tz152 :: tz153 :: tz154 :: tz155 :: tz156 :: tz157 :: tz158 :: tz159 :: tz160 :: tz161 :: tz162 :: tz163 :: tz164 :: tz165 :: tz166 :: tz167 :: tz168 :: tz169 :: tz170 :: tz171 :: tz172 :: tz173 :: tz174 :: tz175 :: tz176 :: tz177 :: tz178 :: tz179 :: tz180 :: tz181 :: tz182 :: tz183 :: tz184 :: tz185 :: tz186 :: tz187 :: tz188 :: tz189 :: tz190 :: tz191 :: tz192 :: tz193 :: tz194 :: tz195 :: tz196 :: tz197 :: tz198 :: tz199 :: tz200 :: tz201 :: tz202 :: tz203 :: tz204 :: tz205 :: tz206 :: tz207 :: tz208 :: tz209 :: tz210 :: tz211 :: tz212 :: tz213 :: tz214 :: tz215 :: tz216 :: tz217 :: tz218 :: tz219 :: tz220 :: tz221 :: tz222 :: tz223 :: tz224 :: tz225 :: tz226 :: tz227 :: tz228 :: tz229 :: tz230 :: tz231 :: tz232 :: tz233 :: tz234 :: tz235 :: tz236 :: tz237 :: tz238 :: tz239 :: tz240 :: tz241 :: tz242 :: tz243 :: tz244 :: tz245 :: tz246 :: tz247 :: tz248 :: tz249 :: tz250 :: tz251 :: []), defers := [] } wr := by
  conv at hc => lhs; whnf
  obtain rfl := Option.some.inj hc
  clear hc
  go_loopw [9] (fun jv wr => ∃ (j : Nat) (fa : Option Addr) (fc : Nat), jv = .int .i64 (j : Int) ∧ j ≤ nR ∧ Hid (wr.ownsRow (bx + 1) 3 1 (.slice fa j fc) j (inRows (srtF (fun x => x) (mr.take j))).flatten) ∧ Blk wr bx #[.string m0, .slice xa nF xc, .slice fa j fc] 40 ∧ Hid (wr.ownsRow (bx + 1) 44 5 (.slice xa nF xc) nF (flRows (srtF FlS.tag mf)).flatten) ∧ Hid (Below WB.heap.size WB wr)) (fun jv _ => nR - (intOf jv).toNat)
  case atStart => exact ⟨0, none, 0, rfl, by omega, World.ownsRow_nil _ _ _ _, BZ, HX, HBW⟩
  case round =>
    clear BZ HBW HX 
    obtain ⟨j, fa, fc, rfl, hj, HO, BZ, HX, HBW⟩ := hrel
    have x1 : wr.cell? ⟨bm, 2, none⟩ = some (.slice a4 nR c4) := (BM0.below HBW.out).cell 2
    by_cases hlt : j < nR
    · have hltz : (j : Int) < (nR : Int) := by omega
      obtain ⟨f, hf⟩ : ∃ x, mr[j]? = some x := ⟨_, List.getElem?_eq_getElem (by rw [HNR.out]; exact hlt)⟩
      obtain ⟨g2, o2, hga, hcs⟩ := HR0.out.get (in_get hf)
      subst hga
      have HFJ : Hid (mr[j]? = some f) := hf
      have HCW : Hid (∀ W : World, Below WB.heap.size WB W → W.cell? ⟨bm, 2, none⟩ = some (.slice (some ⟨g2, o2, none⟩) nR c4) ∧ W.cell? ⟨g2, o2 + j, none⟩ = some (.int .i64 f)) := fun W hW => by
        have k0 : WB.cell? ⟨g2, o2 + j, none⟩ = some (.int .i64 f) := by have := hcs 0 _ rfl; rwa [Nat.mul_one, Nat.add_zero] at this
        exact ⟨(BM0.below hW).cell 2, (hW.cell (World.block_lt_of_cell? _ _ k0)).trans k0⟩
      clear hcs hf
      go_wp2_with fail
      clear x1
      refine M_region (T := fun W => W.cell? ⟨bx, 2, none⟩ = some (.slice fa j fc) ∧ W.cell? ⟨bm, 2, none⟩ = some (.slice (some ⟨g2, o2, none⟩) nR c4) ∧ W.cell? ⟨g2, o2 + j, none⟩ = some (.int .i64 f)) (m := 10) (by kernel_rfl) ?_
      have hb0 : Below wr.heap.size wr wr.drew := below_drewN 1 (Below.refl _ _)
      generalize wr.drew = V0 at *
      have HBV : Hid (Below WB.heap.size WB V0) := HBW.out.trans (hb0.mono HBW.out.size)
      have BZ0 := BZ.below hb0
      have HO0 : Hid (V0.ownsRow (bx + 1) 3 1 (.slice fa j fc) j (inRows (srtF (fun x => x) (mr.take j))).flatten) := own_below HO.out hb0
      have HX0 : Hid (V0.ownsRow (bx + 1) 44 5 (.slice xa nF xc) nF (flRows (srtF FlS.tag mf)).flatten) := own_below HX.out hb0
      have hbxV : bx < V0.heap.size := BZ0.lt
      have hTW : ∀ W : World, Below V0.heap.size V0 W → (fun W => W.cell? ⟨bx, 2, none⟩ = some (.slice fa j fc) ∧ W.cell? ⟨bm, 2, none⟩ = some (.slice (some ⟨g2, o2, none⟩) nR c4) ∧ W.cell? ⟨g2, o2 + j, none⟩ = some (.int .i64 f)) W := fun W hW => ⟨(BZ0.below hW).cell 2, HCW.out W (HBV.out.trans (hW.mono HBV.out.size))⟩
      have hT := hTW V0 (Below.refl _ _)
      clear HO BZ HX hb0 HBW
      refine M_take 0 104 (.pointer (some ⟨bx, 2, none⟩)) _ rfl rfl (by kernel_rfl) (by kernel_rfl) (by kernel_rfl) (by kernel_rfl) (by kernel_rfl) (fun _ _ _ h => h) (by rfl) (fun w' hw' => ?_) hT (listed' := #[true, false, false, false, false, false, false, false, false, false, false]) (by kernel_rfl) rfl ?_
      · obtain ⟨g10, g11, g12⟩ := hw'; go_simp
      simp only [List.setIfInBounds_toArray, List.set_cons_zero, List.set_cons_succ]
      refine M_take 2 106 (.pointer (some ⟨bm, 2, none⟩)) _ rfl rfl (by kernel_rfl) (by kernel_rfl) (by kernel_rfl) (by kernel_rfl) (by kernel_rfl) (fun _ _ _ h => h) (by rfl) (fun w' hw' => ?_) hT (listed' := #[true, false, true, false, false, false, false, false, false, false, false]) (by kernel_rfl) rfl ?_
      · obtain ⟨g10, g11, g12⟩ := hw'; go_simp
      simp only [List.setIfInBounds_toArray, List.set_cons_zero, List.set_cons_succ]
      refine M_take 4 108 (.int .i64 (j : Int)) _ rfl rfl (by kernel_rfl) (by kernel_rfl) (by kernel_rfl) (by kernel_rfl) (by kernel_rfl) (fun _ _ _ h => h) (by rfl) (fun w' hw' => ?_) hT (listed' := #[true, false, true, false, true, false, false, false, false, false, false]) (by kernel_rfl) rfl ?_
      · obtain ⟨g10, g11, g12⟩ := hw'; go_simp
      simp only [List.setIfInBounds_toArray, List.set_cons_zero, List.set_cons_succ]
      refine M_take 1 105 (.slice fa j fc) _ rfl rfl (by kernel_rfl) (by kernel_rfl) (by kernel_rfl) (by kernel_rfl) (by kernel_rfl) (fun _ _ _ h => h) (by rfl) (fun w' hw' => ?_) hT (listed' := #[true, true, true, false, true, false, false, false, false, false, false]) (by kernel_rfl) rfl ?_
      · obtain ⟨g10, g11, g12⟩ := hw'; go_simp
      simp only [List.setIfInBounds_toArray, List.set_cons_zero, List.set_cons_succ]
      refine M_take 3 107 (.slice (some ⟨g2, o2, none⟩) nR c4) _ rfl rfl (by kernel_rfl) (by kernel_rfl) (by kernel_rfl) (by kernel_rfl) (by kernel_rfl) (fun _ _ _ h => h) (by rfl) (fun w' hw' => ?_) hT (listed' := #[true, true, true, true, true, false, false, false, false, false, false]) (by kernel_rfl) rfl ?_
      · obtain ⟨g10, g11, g12⟩ := hw'; go_simp
      simp only [List.setIfInBounds_toArray, List.set_cons_zero, List.set_cons_succ]
      refine M_take 5 109 (.pointer (some ⟨g2, o2 + j, none⟩)) _ rfl rfl (by kernel_rfl) (by kernel_rfl) (by kernel_rfl) (by kernel_rfl) (by kernel_rfl) (fun _ _ _ h => h) (by rfl) (fun w' hw' => ?_) hT (listed' := #[true, true, true, true, true, true, false, false, false, false, false]) (by kernel_rfl) rfl ?_
      · obtain ⟨g10, g11, g12⟩ := hw'; go_simp
      simp only [List.setIfInBounds_toArray, List.set_cons_zero, List.set_cons_succ]
      refine M_take 6 110 (.int .i64 f) _ rfl rfl (by kernel_rfl) (by kernel_rfl) (by kernel_rfl) (by kernel_rfl) (by kernel_rfl) (fun _ _ _ h => h) (by rfl) (fun w' hw' => ?_) hT (listed' := #[true, true, true, true, true, true, true, false, false, false, false]) (by kernel_rfl) rfl ?_
      · obtain ⟨g10, g11, g12⟩ := hw'; go_simp
      simp only [List.setIfInBounds_toArray, List.set_cons_zero, List.set_cons_succ]
      have hal : Below V0.heap.size V0 (V0.alloc (.cells #[.int .i64 f] 3)) := (Below.refl _ _).alloc (Nat.le_refl _) _
      have BE := Blk.new V0 #[.int .i64 f] 3
      obtain ⟨bz, hbz⟩ : ∃ n, V0.heap.size = n := ⟨_, rfl⟩
      refine M_run 7 111 (.slice (some ⟨V0.heap.size, 0, none⟩) 1 1) (V0.alloc (.cells #[.int .i64 f] 3)) rfl rfl (by kernel_rfl) (by rfl) (listed' := #[true, true, true, true, true, true, true, true, false, false, false]) (by kernel_rfl) (by go_simp) (hTW _ hal) ?_
      simp only [List.setIfInBounds_toArray, List.set_cons_zero, List.set_cons_succ]
      rw [hbz] at BE ⊢
      have HO1 : Hid ((V0.alloc (.cells #[.int .i64 f] 3)).ownsRow (bx + 1) 3 1 (.slice fa j fc) j (inRows (srtF (fun x => x) (mr.take j))).flatten) := own_below HO0.out hal
      have HX1 : Hid ((V0.alloc (.cells #[.int .i64 f] 3)).ownsRow (bx + 1) 44 5 (.slice xa nF xc) nF (flRows (srtF FlS.tag mf)).flatten) := own_below HX0.out hal
      have BZ1 := BZ0.below hal
      have HB1 : Hid (Below WB.heap.size WB (V0.alloc (.cells #[.int .i64 f] 3))) := HBV.out.trans (hal.mono HBV.out.size)
      have hsz1 := hal.size
      generalize (V0.alloc (.cells #[.int .i64 f] 3)) = V1 at *
      clear hbz hal hTW hT HO0 BZ0 HBV HX0
      obtain ⟨i0, hi0, hz0, hz1, hz2⟩ := info_parts infoIn
      obtain ⟨v', V2, r1, r2, r3, _⟩ := run_append_own V1 (bx + 1) 38 38 3 i0 _ 1 8 Tryz.underlying38 hi0 hz0 hz1 hz2 rfl (by decide) (.slice fa j fc) j _ HO1.out ⟨bz, 0, none⟩ 1 1 [.int .i64 f] rfl (fun k u hu => by
        have := BE.cell k
        rw [Addr.add_lit, Nat.zero_add, this]
        simpa using hu) (fun u hu => by
        simp only [List.mem_cons, List.not_mem_nil, or_false] at hu
        rw [hu]; rfl) (by unfold maxLen; omega) (by omega) (by omega)
      have HRUN : Hid _ := r1
      have KA : Kp (fun q => (Value.slice fa j fc).ownBlock = some q) V1 V2 := (Kp.refl _ _).grown r3 (fun q hq _ => hq)
      obtain ⟨q, nc, hv', _, _, hq1, _⟩ := own_addr r2 (by omega)
      subst hv'
      obtain ⟨L, hL⟩ : ∃ L, srtF (fun x => x) (mr.take j) = L := ⟨_, rfl⟩
      have HL : Hid (srtF (fun x => x) (mr.take j) = L) := hL
      have HLn : Hid (L.length = j) := by show _ = _; rw [← hL, srtF_len, List.length_take, HNR.out]; omega
      have HO2 : Hid (V2.ownsRow (bx + 1) 3 1 (.slice (some ⟨q, 0, none⟩) (j + 1) nc) (j + 1) (inRows (insL L f j)).flatten) := by
        show World.ownsRow _ _ _ _ _ _ _
        rw [insL_end _ _ _ HLn.out, ← hL]
        have e1 : (inRows (srtF (fun x => x) (mr.take j) ++ [f])).flatten = (inRows (srtF (fun x => x) (mr.take j))).flatten ++ [.int .i64 f] := by simp [inRows]
        rw [e1]; exact r2
      clear hL
      have hnob : ¬ (Value.slice fa j fc).ownBlock = some bx := fun hq => by have := (HO1.out.lt bx hq).1; omega
      have BZ2 := BZ1.kp KA hnob
      have HB2 : Hid (Below WB.heap.size WB V2) := HB1.out.grown r3 HB1.out.size (fun q hq => by have := (HO1.out.lt q hq).1; have := HBX.out; omega)
      have HX2 : Hid (V2.ownsRow (bx + 1) 44 5 (.slice xa nF xc) nF (flRows (srtF FlS.tag mf)).flatten) := own_kpV HX1.out KA (fun q hv hq => own_apart HO1.out HX1.out (by decide) q hq hv)
      have hTm : (fun W => W.cell? ⟨bx, 2, none⟩ = some (.slice fa j fc) ∧ W.cell? ⟨bm, 2, none⟩ = some (.slice (some ⟨g2, o2, none⟩) nR c4) ∧ W.cell? ⟨g2, o2 + j, none⟩ = some (.int .i64 f)) V2 := ⟨BZ2.cell 2, HCW.out V2 HB2.out⟩
      clear r1 r2 r3 HO1 BZ1 HB1 KA hnob BE HX1
      refine M_run 8 112 (.slice (some ⟨q, 0, none⟩) (j + 1) nc) (V2) rfl rfl (by kernel_rfl) (by rfl) (listed' := #[true, true, true, true, true, true, true, true, true, false, false]) (by kernel_rfl) (append_run rfl rfl rfl HRUN.out) hTm ?_
      simp only [List.setIfInBounds_toArray, List.set_cons_zero, List.set_cons_succ]
      clear HRUN
      have hT := hTm
      refine M_take 9 113 (.pointer (some ⟨bx, 2, none⟩)) _ rfl rfl (by kernel_rfl) (by kernel_rfl) (by kernel_rfl) (by kernel_rfl) (by kernel_rfl) (fun _ _ _ h => h) (by rfl) (fun w' hw' => ?_) hT (listed' := #[true, true, true, true, true, true, true, true, true, true, false]) (by kernel_rfl) rfl ?_
      · obtain ⟨g10, g11, g12⟩ := hw'; go_simp
      simp only [List.setIfInBounds_toArray, List.set_cons_zero, List.set_cons_succ]
      have y1 := (BZ2.cell 2).trans rfl
      have z1 := BZ2.froz 2
      refine M_store 10 (V2.setCell ⟨bx, 2, none⟩ (.slice (some ⟨q, 0, none⟩) (j + 1) nc)) rfl rfl (by kernel_rfl) (by rfl) (listed' := #[true, true, true, true, true, true, true, true, true, true, true]) (by kernel_rfl) (by go_simp) (by kernel_rfl) ?_
      refine M_done (by kernel_rfl) ?_ _
      have KS : Kp (fun q => q = bx) V2 (V2.setCell ⟨bx, 2, none⟩ (.slice (some ⟨q, 0, none⟩) (j + 1) nc)) := by
        refine Kp.setCell ?_ (fun _ => by simp) _
        exact Kp.refl _ _
      have BZ3 : Blk (V2.setCell ⟨bx, 2, none⟩ (.slice (some ⟨q, 0, none⟩) (j + 1) nc)) bx #[.string m0, .slice xa nF xc, .slice (some ⟨q, 0, none⟩) (j + 1) nc] 40 := BZ2.set 2 _ rfl
      have HO3 : Hid ((V2.setCell ⟨bx, 2, none⟩ (.slice (some ⟨q, 0, none⟩) (j + 1) nc)).ownsRow (bx + 1) 3 1 (.slice (some ⟨q, 0, none⟩) (j + 1) nc) (j + 1) (inRows (insL L f j)).flatten) := own_blk HO2.out BZ2 (by decide) KS
      have HB3 : Hid (Below WB.heap.size WB (V2.setCell ⟨bx, 2, none⟩ (.slice (some ⟨q, 0, none⟩) (j + 1) nc))) := HB2.out.trans (KS.toBelow HB2.out.size (fun k e => by have := HBX.out; omega))
      have HX3 : Hid ((V2.setCell ⟨bx, 2, none⟩ (.slice (some ⟨q, 0, none⟩) (j + 1) nc)).ownsRow (bx + 1) 44 5 (.slice xa nF xc) nF (flRows (srtF FlS.tag mf)).flatten) := own_blk HX2.out BZ2 (by decide) KS
      generalize (V2.setCell ⟨bx, 2, none⟩ (.slice (some ⟨q, 0, none⟩) (j + 1) nc)) = V3 at *
      clear y1 z1 KS BZ2 HO2 HB2 hT hTm HX2 hsz1 hbxV
      obtain ⟨N, hN⟩ : ∃ N, j + 1 = N := ⟨_, rfl⟩
      have HNN : Hid (j + 1 = N) := hN
      rw [hN] at HO3 BZ3 ⊢
      have hNz : (N : Int) - 1 = (j : Int) := by omega
      have hjw : IntKind.i64.wrap (j : Int) = (j : Int) := wrapN _ (by omega) (by omega)
      have hjN : j < N := by omega
      clear hN
      have hqb : ¬ q = bx := by omega
      have hbq : ¬ bx = q := by omega
      have x3 : V3.cell? ⟨bx, 2, none⟩ = some (.slice (some ⟨q, 0, none⟩) N nc) := BZ3.cell 2
      go_wp2_with fail
      clear x3
      go_loopw [10] (fun iv wr => ∃ i : Nat, iv = .int .i64 (i : Int) ∧ i ≤ j ∧ Hid (∀ y ∈ L.drop i, f < y) ∧ Hid (wr.ownsRow (bx + 1) 3 1 (.slice (some ⟨q, 0, none⟩) N nc) N (inRows (insL L f i)).flatten) ∧ Blk wr bx #[.string m0, .slice xa nF xc, .slice (some ⟨q, 0, none⟩) N nc] 40 ∧ Hid (wr.ownsRow (bx + 1) 44 5 (.slice xa nF xc) nF (flRows (srtF FlS.tag mf)).flatten) ∧ Hid (Below WB.heap.size WB wr)) (fun iv _ => (intOf iv).toNat)
      case atStart => exact ⟨j, rfl, by omega, (by show ∀ y ∈ L.drop j, _; intro y hy; rw [List.drop_of_length_le (by rw [HLn.out]; omega)] at hy; cases hy), HO3, BZ3, HX3, HB3⟩
      case round =>
        clear HO3 BZ3 HB3 HX3
        obtain ⟨i, rfl, hi, HGT, HO, BZ, HX, HBW⟩ := hrel
        have x1 : wr.cell? ⟨bx, 2, none⟩ = some (.slice (some ⟨q, 0, none⟩) N nc) := BZ.cell 2
        rcases i with _ | p
        · have HEND : Hid (wr.ownsRow (bx + 1) 3 1 (.slice (some ⟨q, 0, none⟩) N nc) N (inRows (srtF (fun x => x) (mr.take N))).flatten) := by
            show World.ownsRow _ _ _ _ _ _ _
            have eq : srtF (fun x => x) (mr.take N) = insL L f 0 := by
              rw [← HNN.out, srt_more HFJ.out (Nat.zero_le _) (by rw [HNR.out]; omega) (by rw [HL.out]; exact HGT.out) (.inl rfl), HL.out]
            rw [eq]
            exact HO.out
          have hz0 : decide ((0 : Int) < ((0 : Nat) : Int)) = false := by decide
          go_wp2_with fail
          go_quiet (fail)
          go_wp2_with fail
          have HBN : Hid (Below WB.heap.size WB (wr.drewN nq)) := below_drewN nq HBW.out
          have HON : Hid ((wr.drewN nq).ownsRow (bx + 1) 3 1 (.slice (some ⟨q, 0, none⟩) N nc) N (inRows (srtF (fun x => x) (mr.take N))).flatten) := own_below HEND.out (below_drewN nq (Below.refl _ _))
          have BZN := BZ.below (below_drewN nq (Below.refl _ _))
          have HXN : Hid ((wr.drewN nq).ownsRow (bx + 1) 44 5 (.slice xa nF xc) nF (flRows (srtF FlS.tag mf)).flatten) := own_below HX.out (below_drewN nq (Below.refl _ _))
          go_roundw
          case rel => exact ⟨j + 1, _, _, by go_num, by omega, by rw [HNN.out]; exact HON, by rw [HNN.out]; exact BZN, HXN, HBN⟩
          case measure => simp [intOf]; omega
        · obtain ⟨i, hpi⟩ : ∃ i, p + 1 = i := ⟨_, rfl⟩
          obtain ⟨y, hy⟩ : ∃ y, L[p]? = some y := ⟨_, List.getElem?_eq_getElem (by rw [HLn.out]; omega)⟩
          obtain ⟨s1, s2, s3⟩ := insL_step (x := f) hy
          have HYP : Hid (L[p]? = some y) := hy
          have HPI : Hid (p + 1 = i) := hpi
          rw [hpi] at s1 s2 s3 HO HGT hi ⊢
          have hipz : (i : Int) - 1 = (p : Int) := by omega
          have hpw : IntKind.i64.wrap (p : Int) = (p : Int) := wrapN _ (by omega) (by omega)
          have hiN : (i : Int) < (N : Int) := by omega
          have hpN : (p : Int) < (N : Int) := by omega
          have hi0 : decide ((0 : Int) < (i : Int)) = true := decide_eq_true (by omega)
          have hi0' : 0 < i := by omega
          have hi0d : decide (0 < i) = true := decide_eq_true hi0'
          have hiL : i < (insL L f i).length := by rw [insL_len _ _ _ (by rw [HLn.out]; omega), HLn.out]; omega
          have hpL : p < (insL L f i).length := by omega
          have HS3 : Hid (((insL L f i).set i y).set p f = insL L f p) := s3
          clear hpi hy s3
          have r1 := in_get s1
          have r2 := in_get s2
          have cc0 := own_at (inl_len _) HO.out r1 (j := 0) rfl
          have dd0 := own_at (inl_len _) HO.out r2 (j := 0) rfl
          rw [Nat.mul_one, Nat.add_zero] at cc0 dd0
          by_cases hlv : f < y
          · have hlb : decide (f < y) = true := decide_eq_true hlv
            have HG2 : Hid (∀ z ∈ L.drop p, f < z) := more_step HYP.out (by rw [HPI.out]; exact HGT.out) hlv
            go_wp2_with fail
            go_quiet (fail)
            have hdr := below_drewN nq (Below.refl wr.heap.size wr)
            have hd : (wr.drewN nq).ownsRow (bx + 1) 3 1 (.slice (some ⟨q, 0, none⟩) N nc) N (inRows (insL L f i)).flatten := own_below HO.out hdr
            have BD := BZ.below hdr
            have HBD : Hid (Below WB.heap.size WB (wr.drewN nq)) := HBW.out.trans (hdr.mono HBW.out.size)
            have HXD : Hid ((wr.drewN nq).ownsRow (bx + 1) 44 5 (.slice xa nF xc) nF (flRows (srtF FlS.tag mf)).flatten) := own_below HX.out hdr
            clear cc0 dd0  x1 HO BZ HBW HX hdr HGT
            generalize wr.drewN nq = wd at *
            go_wp2_with fail
            have x1 : wd.cell? ⟨bx, 2, none⟩ = some (.slice (some ⟨q, 0, none⟩) N nc) := BD.cell 2
            have cc0 := own_at (inl_len _) hd r1 (j := 0) rfl
            have dd0 := own_at (inl_len _) hd r2 (j := 0) rfl
            rw [Nat.mul_one, Nat.add_zero] at cc0 dd0
            have v0 : wd.frozen? ⟨q, i, none⟩ = false := own_froz hd _
            have t0 : wd.frozen? ⟨q, p, none⟩ = false := own_froz hd _
            have KT : Kp (fun x => x = q) wd ((wd.setCell ⟨q, i, none⟩ (.int .i64 y)).setCell ⟨q, p, none⟩ (.int .i64 f)).drew := by
              refine Kp.trans ?_ (Kp.ofBelow (below_drewN 1 (Below.refl _ _)))
              refine Kp.setCell ?_ (fun _ => by simp) _
              refine Kp.setCell ?_ (fun _ => by simp) _
              exact Kp.refl _ _
            have HON : Hid (((wd.setCell ⟨q, i, none⟩ (.int .i64 y)).setCell ⟨q, p, none⟩ (.int .i64 f)).drew.ownsRow (bx + 1) 3 1 (.slice (some ⟨q, 0, none⟩) N nc) N (inRows (insL L f p)).flatten) := by
              have h1 := own_putI hd hiL y
              have h2 := own_putI h1 (i := p) (by rw [List.length_set]; exact hpL) f
              rw [HS3.out] at h2
              exact own_below h2 (below_drewN 1 (Below.refl _ _))
            have BZN := BD.kp KT hbq
            have HBN : Hid (Below WB.heap.size WB ((wd.setCell ⟨q, i, none⟩ (.int .i64 y)).setCell ⟨q, p, none⟩ (.int .i64 f)).drew) := HBD.out.trans (KT.toBelow HBD.out.size (fun k e => by have := HBX.out; omega))
            have HXN : Hid (((wd.setCell ⟨q, i, none⟩ (.int .i64 y)).setCell ⟨q, p, none⟩ (.int .i64 f)).drew.ownsRow (bx + 1) 44 5 (.slice xa nF xc) nF (flRows (srtF FlS.tag mf)).flatten) := own_kpV HXD.out KT (fun k hv hk => own_apart hd HXD.out (by decide) k (by rw [hk]; rfl) hv)
            clear r1 r2 s1 s2 hd KT BD hiL hpL
            have mixed : Tryz.prog.follows Departure.mixedOrders = true := by kernel_rfl
            go_big_region_o
            all_goals go_wp2_with fail
            go_roundw
            case rel => exact ⟨p, by go_num, by omega, HG2, HON, BZN, HXN, HBN⟩
            case measure => simp [intOf]; omega
          · have hlb : decide (f < y) = false := decide_eq_false hlv
            have HEND : Hid (wr.ownsRow (bx + 1) 3 1 (.slice (some ⟨q, 0, none⟩) N nc) N (inRows (srtF (fun x => x) (mr.take N))).flatten) := by
              show World.ownsRow _ _ _ _ _ _ _
              have eq : srtF (fun x => x) (mr.take N) = insL L f i := by
                rw [← HNN.out, srt_more HFJ.out hi (by rw [HNR.out]; omega) (by rw [HL.out]; exact HGT.out) (.inr ⟨y, by rw [HL.out, ← HPI.out]; exact HYP.out, hlv⟩), HL.out]
              rw [eq]
              exact HO.out
            go_wp2_with fail
            go_quiet (fail)
            go_wp2_with fail
            have HBN : Hid (Below WB.heap.size WB (wr.drewN nq)) := below_drewN nq HBW.out
            have HON : Hid ((wr.drewN nq).ownsRow (bx + 1) 3 1 (.slice (some ⟨q, 0, none⟩) N nc) N (inRows (srtF (fun x => x) (mr.take N))).flatten) := own_below HEND.out (below_drewN nq (Below.refl _ _))
            have BZN := BZ.below (below_drewN nq (Below.refl _ _))
            have HXN : Hid ((wr.drewN nq).ownsRow (bx + 1) 44 5 (.slice xa nF xc) nF (flRows (srtF FlS.tag mf)).flatten) := own_below HX.out (below_drewN nq (Below.refl _ _))
            go_roundw
            case rel => exact ⟨j + 1, _, _, by go_num, by omega, by rw [HNN.out]; exact HON, by rw [HNN.out]; exact BZN, HXN, HBN⟩
            case measure => simp [intOf]; omega
    · obtain rfl : nR = j := by omega
      have hltz : ¬ (nR : Int) < (nR : Int) := by omega
      have HOE : Hid (wr.ownsRow (bx + 1) 3 1 (.slice fa nR fc) nR (inRows (srtF (fun x => x) mr)).flatten) := by
        have := HO.out
        rw [List.take_of_length_le (by rw [HNR.out]; omega)] at this
        exact this
      clear HO
      go_wp2_with fail
      exact HQ.out _ _ _ _ _ _ _ _ _ _ _ _ _ _ _ _ _ _ _ _ _ _ _ _ _ _ _ _ _ _ _ _ _ _ _ _ _ _ _ _ _ _ _ _ _ _ _ _ _ _ _ _ _ _ _ _ _ _ _ _ _ _ _ _ HOE BZ HX HBW
end Go.Proofs.YtkfhlgajeejgeaaGreatDoor

/- Part 6 of what the proof stands on. -/
import Derived.Test.YtfnjbbaphmmjlaaGreatPkAE
import Derived.Deep.LoopGhost
namespace Go.Proofs.YtfnjbbaphmmjlaaGreat
set_option linter.unusedVariables false
set_option linter.unusedSimpArgs false
section
open Go.ChangeShapes Go.WideShapes Go.ChangeAt Go.RowKit
set_option maxRecDepth 20000
set_option maxHeartbeats 1000000 in
theorem kindc_any (n : Nat) (x : Tr) (r : List Value) (b g off Kt tc : Nat) (k0 : Int) (W : World) (h : TrQ n W r x) (hB : Blk W b #[.slice (some ⟨g,off,none⟩) Kt tc] 43) (hc : W.cell? ⟨g,off,none⟩ = some (.int .i64 k0)) (hk : 0 < Kt) :
  Calls Tryz.prog 125 #[.agg r.toArray,.pointer (some ⟨b,0,none⟩)] W fun e w' => e = .returned (.bool (x.kind != k0)) ∧ Below W.heap.size W w' := by
 obtain ⟨ea,el,ec,ra,rl,rc,e1, -⟩ := TrV2.open ⟨_,rfl,h⟩
 rw [e1]
 clear e1 h
 have q0 := (hB.cell 0).trans rfl
 have hb := hB.lt
 have hg : g < W.heap.size := World.block_lt_of_cell? _ _ hc
 clear hB
 generalize x.kind = K at *
 generalize x.n = N at *
 generalize x.s = S at *
 go_enter Tryz.func125,Tryz.ntmps125
 go_wp2_with fail
 go_quiet (fail)
 go_wp2_with fail
 go_ret
 exact ⟨rfl,below_drewN nq ((Below.refl _ _).alloc (Nat.le_refl _) _)⟩
def okB (ts : List Tr) : Bool := decide (1 ≤ ts.length) && decide (ts.length ≤ 64) && (ts.all fun x => x.kind == (ts.head?.map Tr.kind).getD 0)
set_option maxHeartbeats 1000000 in
theorem oneKind_any (n : Nat) (v : Value) (ts : List Tr) (w : World) (h : TrsQ n w v ts) :
  Calls Tryz.prog 115 #[v] w fun e w' => e = .returned (.bool (okB ts)) ∧ Below w.heap.size w w' := by
 have hmf : ∀ (fn : Fn) (first cap : Array Value) (w : World),(Instr.makeFunc fn first cap).run Tryz.prog w = .ok (.func fn first cap) w := fun _ _ _ _ => rfl
 obtain ⟨a,cap,rfl,h1,h2,h3, -, -⟩ := RowP.open h
 obtain ⟨N,hN⟩ : ∃ N,ts.length = N := ⟨_,rfl⟩
 obtain ⟨R,hR⟩ : ∃ R,okB ts = R := ⟨_,rfl⟩
 rw [hR]
 rw [hN] at h1 ⊢
 have HH : Hid (TrsQ n w (.slice a N cap) ts) := (by rw [← hN]; exact h : TrsQ n w (.slice a N cap) ts)
 have HN : Hid (ts.length = N) := hN
 have HR : Hid (okB ts = R) := hR
 unfold maxLen at h2
 clear h hN hR h3
 by_cases l1 : 1 ≤ N
 ·have d1 : decide ((N : Int) < 1) = false := by simp; omega
  by_cases l2 : N ≤ 64
  ·have d2 : decide (64 < (N : Int)) = false := by simp; omega
   obtain ⟨t0,ht0⟩ : ∃ t,ts[0]? = some t := ⟨_,List.getElem?_eq_getElem (by rw [HN.out]; omega)⟩
   obtain ⟨g,off,rfl,r,hr,hc⟩ := HH.out.get ht0
   obtain ⟨ea,el,ec,ra,rl,rc,e1, -⟩ := TrV2.open ⟨_,rfl,hr⟩
   have hcell : w.cell? ⟨g,off,none⟩ = some (.int .i64 t0.kind) := by
    have := hc 0 (.int .i64 t0.kind) (by
     have h9 : r.toArray = #[.int .i64 t0.kind,.int .i64 t0.n,.string t0.s,.slice ea el ec,.slice ra rl rc] := by simpa using e1
     have h8 : r = [.int .i64 t0.kind,.int .i64 t0.n,.string t0.s,.slice ea el ec,.slice ra rl rc] := by simpa using congrArg Array.toList h9
     rw [h8]; rfl)
    simpa using this
   have hw1 : Below w.heap.size w (w.alloc (Obj.cells #[.slice (some ⟨g,off,none⟩) N cap] 43)) := (Below.refl _ _).alloc (Nat.le_refl _) _
   have BX : Blk (w.alloc (Obj.cells #[.slice (some ⟨g,off,none⟩) N cap] 43)) w.heap.size #[.slice (some ⟨g,off,none⟩) N cap] 43 := Blk.new w _ _
   have HC : Hid (Calls Tryz.prog 61 #[.slice (some ⟨g,off,none⟩) N cap,.func (.func 125) #[] #[.pointer (some ⟨w.heap.size,0,none⟩)]] (w.alloc (Obj.cells #[.slice (some ⟨g,off,none⟩) N cap] 43)) fun e w' => e = .returned (.bool (!R)) ∧ Below (w.alloc (Obj.cells #[.slice (some ⟨g,off,none⟩) N cap] 43)).heap.size (w.alloc (Obj.cells #[.slice (some ⟨g,off,none⟩) N cap] 43)) w') := by
    have hh : ts.head? = some t0 := by rw [List.head?_eq_getElem?]; exact ht0
    have hb : (!R) = ts.any (fun x => x.kind != t0.kind) := by
     rw [← HR.out,okB,HN.out,decide_eq_true l1,decide_eq_true l2,hh]
     simp only [Option.map_some,Option.getD_some,Bool.true_and,List.not_all_eq_any_not]
     rfl
    rw [hb]
    refine containsK_any w.heap.size n _ ts _ (fun x => x.kind != t0.kind) (HH.out.belowTQ hw1) fun W x r' hW hx hr' => ?_
    exact kindc_any n x r' w.heap.size g off N cap t0.kind W hr' (BX.below hW) ((hW.cell (by have hg9 : g < w.heap.size := World.block_lt_of_cell? _ _ hcell; simp; omega)).trans ((hw1.cell (World.block_lt_of_cell? _ _ hcell)).trans hcell)) (by omega)
   clear hcell hc e1 hr ht0 HH HR BX
   go_enter Tryz.func115,Tryz.ntmps115
   go_wp2_with fail
   refine HC.out.mono ?_
   rintro e w2 ⟨rfl,hb2⟩
   have hbw : Below w.heap.size w w2 := hw1.trans (hb2.mono hw1.size)
   clear HC hb2 hw1
   go_wp2_with fail
   go_ret
   exact ⟨by simp,hbw⟩
  ·have d2 : decide (64 < (N : Int)) = true := by simp; omega
   obtain rfl : R = false := by rw [← HR.out,okB,HN.out]; simp; omega
   go_enter Tryz.func115,Tryz.ntmps115
   go_wp2_with fail
   go_ret
   exact ⟨rfl,(Below.refl _ _).alloc (Nat.le_refl _) _⟩
 ·have d1 : decide ((N : Int) < 1) = true := by simp; omega
  obtain rfl : R = false := by rw [← HR.out,okB,HN.out]; simp; omega
  go_enter Tryz.func115,Tryz.ntmps115
  go_wp2_with fail
  go_ret
  exact ⟨rfl,(Below.refl _ _).alloc (Nat.le_refl _) _⟩
theorem ents_cons (last : Int) (e : Int × List Tr) (l : List (Int × List Tr)) : entsB last (e :: l) = (decide (last < e.1) && decide (e.1 ≤ 500) && okB e.2 && entsB e.1 l) := by
 simp only [entsB,okB,Bool.and_assoc]
set_option maxHeartbeats 2000000 in
theorem entries_any (n : Nat) (v : Value) (es : List (Int × List Tr)) (w : World) (h : EnsQ n w v es) :
  Calls Tryz.prog 95 #[v] w fun e w' => e = .returned (.bool (entsB 0 es)) ∧ Below w.heap.size w w' := by
 obtain ⟨a,cap,rfl,h1,h2, -⟩ := RowP.open h
 obtain ⟨N,hN⟩ : ∃ N,es.length = N := ⟨_,rfl⟩
 obtain ⟨R,hR⟩ : ∃ R,entsB 0 es = R := ⟨_,rfl⟩
 rw [hR]
 rw [hN] at h1 ⊢
 have HH : Hid (EnsQ n w (.slice a N cap) es) := (by rw [← hN]; exact h : EnsQ n w (.slice a N cap) es)
 have HN : Hid (es.length = N) := hN
 have HR0 : Hid (entsB 0 (es.drop 0) = R) := hR
 unfold maxLen at h2
 clear h hN hR
 go_enter Tryz.func95,Tryz.ntmps95
 go_wp2_with fail
 go_loopw [3,8] (fun av iv wr => ∃ (i : Nat) (last : Int),iv = .int .i64 (i : Int) ∧ av = .int .i64 last ∧ i ≤ N ∧ Hid (entsB last (es.drop i) = R) ∧ Below w.heap.size w wr) (fun _ iv _ => N - (intOf iv).toNat)
 case atStart => exact ⟨0,0,rfl,rfl,by omega,HR0,Below.refl _ _⟩
 case round =>
  clear HR0
  obtain ⟨i,last,rfl,rfl,hi,HR,hbel⟩ := hrel
  by_cases hlt : i < N
  ·obtain ⟨x,hx⟩ : ∃ r,es[i]? = some r := ⟨_,List.getElem?_eq_getElem (by rw [HN.out]; exact hlt)⟩
   obtain ⟨g,off,rfl,r,⟨vt,rfl, -,ht⟩,hc⟩ := (HH.out.belowEQ hbel).get hx
   obtain ⟨ta,tc,rfl, -⟩ := RowP.open ht
   have c0 := hc 0 _ rfl
   have c1 := hc 1 _ rfl
   simp only [Nat.add_zero] at c0
   have hdr : es.drop i = x :: es.drop (i + 1) := by
    obtain ⟨hl',e⟩ := List.getElem?_eq_some_iff.1 hx
    rw [List.drop_eq_getElem_cons hl',e]
   have HR1 : Hid ((decide (last < x.1) && decide (x.1 ≤ 500) && okB x.2 && entsB x.1 (es.drop (i + 1))) = R) := (by rw [← ents_cons,← hdr]; exact HR.out : (decide (last < x.1) && decide (x.1 ≤ 500) && okB x.2 && entsB x.1 (es.drop (i + 1))) = R)
   have HOK : Hid (∀ W,Below wr.heap.size wr W → Calls Tryz.prog 115 #[.slice ta x.2.length tc] W fun e w' => e = .returned (.bool (okB x.2)) ∧ Below W.heap.size W w') := fun W hW => oneKind_any n _ x.2 W (RowP.belowTQ ht hW)
   clear hc ht hx hdr HR
   generalize x.2.length = Xl at *
   generalize okB x.2 = O at *
   generalize x.1 = xt at *
   by_cases k1 : last < xt
   ·by_cases k2 : xt ≤ 500
    ·have d1 : decide (xt ≤ last) = false := by simp; omega
     have d2 : decide (500 < xt) = false := by simp; omega
     have hal : Below wr.heap.size wr (wr.alloc (Obj.cells #[.int .i64 xt,.slice ta Xl tc] 58)) := (Below.refl _ _).alloc (Nat.le_refl _) _
     have BE : Blk (wr.alloc (Obj.cells #[.int .i64 xt,.slice ta Xl tc] 58)) wr.heap.size #[.int .i64 xt,.slice ta Xl tc] 58 := Blk.new wr _ _
     go_wp2_with fail
     refine (HOK.out _ hal).mono ?_
     rintro e w2 ⟨rfl,hb2⟩
     have hb3 : Below wr.heap.size wr w2 := hal.trans (hb2.mono hal.size)
     have hbw : Below w.heap.size w w2 := hbel.trans (hb3.mono hbel.size)
     have q0 := ((BE.below hb2).cell 0).trans rfl
     generalize wr.heap.size = bw at *
     clear hb2 hb3 hbel c0 c1 HOK hal BE
     cases O with
     | true =>
      go_wp2_with fail
      go_roundw
      case rel => exact ⟨i + 1,xt,by go_num,rfl,by omega,(by have := HR1.out; rw [decide_eq_true k1,decide_eq_true k2] at this; simpa using this : entsB xt (es.drop (i + 1)) = R),hbw⟩
      case measure => simp [intOf]; omega
     | false =>
      obtain rfl : R = false := by rw [← HR1.out]; simp
      go_wp2_with fail
      go_ret
      exact ⟨rfl,hbw⟩
    ·have d1 : decide (xt ≤ last) = false := by simp; omega
     have d2 : decide (500 < xt) = true := by simp; omega
     obtain rfl : R = false := by rw [← HR1.out,decide_eq_false k2]; simp
     go_wp2_with fail
     go_ret
     exact ⟨rfl,hbel.alloc hbel.size _⟩
   ·have d1 : decide (xt ≤ last) = true := by simp; omega
    obtain rfl : R = false := by rw [← HR1.out,decide_eq_false k1]; simp
    go_wp2_with fail
    go_ret
    exact ⟨rfl,hbel.alloc hbel.size _⟩
  ·obtain rfl : R = true := by rw [← HR.out,List.drop_eq_nil_of_le (by rw [HN.out]; omega)]; rfl
   go_wp2_with fail
   go_ret
   exact ⟨rfl,hbel⟩
theorem ret_boolF {a b : Bool} (h : a = b) : Ending.returned (.bool a) = .returned (.bool b) := by rw [h]
set_option maxHeartbeats 1000000 in
theorem checkV_any (t k n : Int) (b : ByteArray) (w : World) :
  Calls Tryz.prog 116 #[.agg #[.int .i64 t,.int .i64 k,.int .i64 n,.string b]] w fun e w' => e = .returned (.bool (okV t k n b)) ∧ Below w.heap.size w w' := by
 by_cases h1 : 1 ≤ t
 ·by_cases h2 : t ≤ 500
  ·by_cases hk : k = 0
   ·subst hk
    go_enter Tryz.func116,Tryz.ntmps116
    go_wp2_with fail
    all_goals
     go_ret
     exact ⟨ret_boolF (by simp [okV,h1,h2]),(Below.refl _ _).alloc (Nat.le_refl _) _⟩
   ·by_cases hk1 : k = 1
    ·subst hk1
     by_cases hn : n = 0
     ·subst hn
      go_enter Tryz.func116,Tryz.ntmps116
      go_wp2_with fail
      all_goals
       go_ret
       exact ⟨ret_boolF (by simp [okV,h1,h2]),(Below.refl _ _).alloc (Nat.le_refl _) _⟩
     ·go_enter Tryz.func116,Tryz.ntmps116
      go_wp2_with fail
      all_goals
       go_ret
       exact ⟨ret_boolF (by simp [okV,hn]),(Below.refl _ _).alloc (Nat.le_refl _) _⟩
    ·have e0 : (k == 0) = false := by simp [hk]
     have e1 : (k == 1) = false := by simp [hk1]
     go_enter Tryz.func116,Tryz.ntmps116
     go_wp2_with fail
     all_goals
      go_ret
      exact ⟨ret_boolF (by simp [okV,hk,hk1]),(Below.refl _ _).alloc (Nat.le_refl _) _⟩
  ·have hok : okV t k n b = false := by simp [okV]; omega
   rw [hok]
   clear hok
   have hd : decide (t < 1) = false := by simp; omega
   have hd5 : decide (500 < t) = true := by simp; omega
   go_enter Tryz.func116,Tryz.ntmps116
   go_wp2_with fail
   all_goals
    go_ret
    exact ⟨rfl,(Below.refl _ _).alloc (Nat.le_refl _) _⟩
 ·have hok : okV t k n b = false := by simp [okV]; omega
  rw [hok]
  clear hok
  have hd : decide (t < 1) = true := by simp; omega
  go_enter Tryz.func116,Tryz.ntmps116
  go_wp2_with fail
  all_goals
   go_ret
   exact ⟨rfl,(Below.refl _ _).alloc (Nat.le_refl _) _⟩
set_option maxHeartbeats 1000000 in
theorem rising_any (a : Option Addr) (rs : List Fd) (N cap : Nat) (w : World) (hN : rs.length = N) (hadr : rs = [] ∨ ∃ g off,a = some ⟨g,off,none⟩) (hc : N ≤ cap) (hm : cap ≤ maxLen) (hh : HoldsR w a rs) :
  Calls Tryz.prog 118 #[.slice a N cap] w fun e w' => e = .returned (.bool (risesB rs)) ∧ Below w.heap.size w w' := by
 have HN : Hid (rs.length = N) := hN
 have HA : Hid (rs = [] ∨ ∃ g off,a = some ⟨g,off,none⟩) := hadr
 have HH : Hid (HoldsR w a rs) := hh
 obtain ⟨R,hR⟩ : ∃ R,risesB rs = R := ⟨_,rfl⟩
 rw [hR]
 have HR : Hid (risesB rs = R) := hR
 unfold maxLen at hm
 clear hN hadr hh hR
 go_enter Tryz.func118,Tryz.ntmps118
 go_wp2_with fail
 go_loopw [3] (fun iv wr => ∃ i : Nat,iv = .int .i64 ((i : Int) + 1) ∧ i ≤ N ∧ Hid (∀ j x y,j < i → rs[j]? = some x → rs[j + 1]? = some y → x.tag ≤ y.tag) ∧ Below w.heap.size w wr) (fun iv _ => N + 1 - (intOf iv).toNat)
 case atStart => exact ⟨0,rfl,by omega,(fun j x y hj => absurd hj (by omega) : ∀ j x y,j < 0 → rs[j]? = some x → rs[j + 1]? = some y → x.tag ≤ y.tag),Below.refl _ _⟩
 case round =>
  obtain ⟨i,rfl,hi,HT,hbel⟩ := hrel
  by_cases hlt : i + 1 < N
  ·have hr : rs[i]? = some (rs[i]'(by rw [HN.out]; omega)) := List.getElem?_eq_getElem _
   generalize rs[i]'(by rw [HN.out]; omega) = r at hr
   have hs : rs[i + 1]? = some (rs[i + 1]'(by rw [HN.out]; exact hlt)) := List.getElem?_eq_getElem _
   generalize rs[i + 1]'(by rw [HN.out]; exact hlt) = s at hs
   rcases HA.out with h0 | ⟨g,off,rfl⟩
   ·exact absurd hlt (by have := HN.out; rw [h0] at this; simp at this; omega)
   obtain ⟨p0, -, -, -⟩ := (HH.out.below hbel).at hr
   obtain ⟨q0, -, -, -⟩ := (HH.out.below hbel).at hs
   have HK : Hid (rs[i]? = some r) := hr
   have HK2 : Hid (rs[i + 1]? = some s) := hs
   obtain ⟨x,hx⟩ : ∃ q,r.tag = q := ⟨_,rfl⟩
   obtain ⟨y,hy⟩ : ∃ q,s.tag = q := ⟨_,rfl⟩
   rw [hx] at p0
   rw [hy] at q0
   have HX : Hid (r.tag = x) := hx
   have HY : Hid (s.tag = y) := hy
   have hlti : (i : Int) + 1 < (N : Int) := by omega
   clear hr hs hx hy
   by_cases hle : y < x
   ·have hd : decide (y < x) = true := by simp [hle]
    obtain rfl : R = false := by rw [← HR.out]; exact rises_break i r s HK.out HK2.out (by rw [HX.out,HY.out]; exact hle)
    clear HT HK HK2 HX HY HR
    go_wp2_with fail
    go_quiet (fail)
    have hbn := below_drewN nq hbel
    clear p0 q0 hbel
    go_wp2_with fail
    go_ret
    exact ⟨rfl,hbn⟩
   ·have hd : decide (y < x) = false := by simp; omega
    have HT2 : Hid (∀ j u v,j < i + 1 → rs[j]? = some u → rs[j + 1]? = some v → u.tag ≤ v.tag) := fun j u v hj hu hv => by
     by_cases hji : j = i
     ·subst hji
      rw [HK.out] at hu
      rw [HK2.out] at hv
      obtain rfl : r = u := by simpa using hu
      obtain rfl : s = v := by simpa using hv
      rw [HX.out,HY.out]; omega
     ·exact HT.out j u v (by omega) hu hv
    clear HT HK HK2 HX HY
    go_wp2_with fail
    go_quiet (fail)
    have hbn := below_drewN nq hbel
    clear p0 q0 hbel
    go_wp2_with fail
    go_roundw
    case rel => exact ⟨i + 1,by go_num,by omega,HT2,hbn⟩
    case measure => simp [intOf]; omega
  ·obtain rfl : R = true := by
    rw [← HR.out]
    refine rises_steps fun j x y hx hy => HT.out j x y ?_ hx hy
    have := (List.getElem?_eq_some_iff.1 hy).1
    rw [HN.out] at this
    omega
   have hnl : ¬ (i : Int) + 1 < (N : Int) := by omega
   clear HT HR
   go_wp2_with fail
   go_ret
   exact ⟨rfl,hbel⟩
theorem rowG_holdsR {w : World} {a : Option Addr} {N cap : Nat} {l : List Fd} (h : RowG w (.slice a N cap) 4 (fdRows l)) : HoldsR w a l := by
 obtain ⟨a',cap',e,_,_,_,h4⟩ := h.form
 simp only [Value.slice.injEq] at e
 obtain ⟨rfl,_,_⟩ := e
 intro b hb j u hu
 rw [rawCells_flat] at hu
 obtain ⟨i,c,k,h1,h2,rfl⟩ := flat_inv (fdRows l) (fdr_len l) j u hu
 obtain ⟨g,off,e,hc⟩ := h4 (by intro e; rw [e] at h1; simp at h1)
 rw [hb] at e
 cases e
 have := hc i c u k h1 h2
 rw [Nat.add_assoc] at this
 rw [Addr.add_lit]
 exact this
theorem rest_all {l : List Fd} {p : Fd → Bool} {i : Nat} {f : Fd} (h : ∀ x ∈ l.take i,p x = true) (hf : l[i]? = some f) (hp : p f = true) : ∀ x ∈ l.take (i + 1),p x = true := by
 rw [take_atQ hf]
 intro x hx
 rcases List.mem_append.1 hx with hx | hx
 ·exact h x hx
 ·obtain rfl : x = f := by simpa using hx
  exact hp
set_option maxHeartbeats 2000000 in
theorem restMayBe_any (n : Nat) (v ve : Value) (l : List Fd) (es : List (Int × List Tr)) (w : World) (h : RowG w v 4 (fdRows l)) (he : EnsQ n w ve es) (hr : RisT es) (hl : es.length ≤ 1000000) :
  Calls Tryz.prog 96 #[v,ve] w fun e w' => e = .returned (.bool (restB l es)) ∧ Below w.heap.size w w' := by
 obtain ⟨a,cap,rfl,h1,h2,h3, -, -⟩ := rest_holds h
 obtain ⟨N,hN⟩ : ∃ N,l.length = N := ⟨_,rfl⟩
 obtain ⟨R,hR⟩ : ∃ R,restB l es = R := ⟨_,rfl⟩
 rw [hR]
 rw [hN] at h1 ⊢
 have HH : Hid (RowG w (.slice a N cap) 4 (fdRows l)) := (by rw [← hN]; exact h : RowG w (.slice a N cap) 4 (fdRows l))
 have HN : Hid (l.length = N) := hN
 have HR : Hid (restB l es = R) := hR
 have HT : Hid (∀ W tag,Below w.heap.size w W → Calls Tryz.prog 117 #[ve,.int .i64 tag] W fun e w' => e = .returned (.bool (hasB es tag)) ∧ Below W.heap.size W w') := fun W tag hW => hasTag_any n ve es tag W (he.belowEQ hW) hr hl
 have HRS : Hid (∀ W,Below w.heap.size w W → Calls Tryz.prog 118 #[.slice a N cap] W fun e w' => e = .returned (.bool (risesB l)) ∧ Below W.heap.size W w') := fun W hW => rising_any a l N cap W hN h3 h1 h2 (rowG_holdsR (HH.out.below hW))
 obtain ⟨pe,ce,rfl, -⟩ := RowP.open he
 unfold maxLen at h2
 generalize es.length = El at *
 clear h hN hR h3 he hr
 go_enter Tryz.func96,Tryz.ntmps96
 go_wp2_with fail
 go_loopw [9] (fun iv wr => ∃ i : Nat,iv = .int .i64 (i : Int) ∧ i ≤ N ∧ Hid (∀ f ∈ l.take i,(okF f && !hasB es f.tag) = true) ∧ Below w.heap.size w wr) (fun iv _ => N - (intOf iv).toNat)
 case atStart => exact ⟨0,rfl,by omega,(by simp : ∀ f ∈ l.take 0,(okF f && !hasB es f.tag) = true),Below.refl _ _⟩
 case round =>
  obtain ⟨i,rfl,hi,HI,hbel⟩ := hrel
  by_cases hlt : i < N
  ·obtain ⟨f,hf⟩ : ∃ r,l[i]? = some r := ⟨_,List.getElem?_eq_getElem (by rw [HN.out]; exact hlt)⟩
   obtain ⟨g,off,rfl,cc⟩ := (HH.out.below hbel).get (show (fdRows l)[i]? = some f.cells by simp [fdRows,hf])
   have p0 := cc 0 _ rfl
   have p1 := cc 1 _ rfl
   have p2 := cc 2 _ rfl
   have p3 := cc 3 _ rfl
   simp only [Nat.add_zero] at p0
   have HF : Hid (l[i]? = some f) := hf
   have HM : Hid (f ∈ l) := List.mem_of_getElem? hf
   have HFO : Hid (okF f = okV f.tag f.wire f.n f.b) := (rfl : okF f = okV f.tag f.wire f.n f.b)
   have HTG : Hid (∀ W,Below w.heap.size w W → Calls Tryz.prog 117 #[.slice pe El ce,.int .i64 f.tag] W fun e w' => e = .returned (.bool (hasB es f.tag)) ∧ Below W.heap.size W w') := fun W hW => HT.out W f.tag hW
   clear cc hf
   obtain ⟨O,hO⟩ : ∃ O,okV f.tag f.wire f.n f.b = O := ⟨_,rfl⟩
   obtain ⟨B,hB⟩ : ∃ B,hasB es f.tag = B := ⟨_,rfl⟩
   have HO : Hid (okV f.tag f.wire f.n f.b = O) := hO
   have HB : Hid (hasB es f.tag = B) := hB
   have HCK : Hid (∀ W,Calls Tryz.prog 116 #[.agg #[.int .i64 f.tag,.int .i64 f.wire,.int .i64 f.n,.string f.b]] W fun e w' => e = .returned (.bool O) ∧ Below W.heap.size W w') := fun W => by rw [← hO]; exact checkV_any f.tag f.wire f.n f.b W
   rw [hB] at HTG
   clear hO hB
   generalize hft : f.tag = ft at *
   generalize hfw : f.wire = fw at *
   generalize hfn : f.n = fn at *
   generalize hfb : f.b = fb at *
   have HE : Hid (f.tag = ft ∧ f.wire = fw ∧ f.n = fn ∧ f.b = fb) := ⟨hft,hfw,hfn,hfb⟩
   clear hft hfw hfn hfb
   have hal : Below wr.heap.size wr (wr.alloc (Obj.cells #[.int .i64 ft,.int .i64 fw,.int .i64 fn,.string fb] 60)) := (Below.refl _ _).alloc (Nat.le_refl _) _
   have BE : Blk (wr.alloc (Obj.cells #[.int .i64 ft,.int .i64 fw,.int .i64 fn,.string fb] 60)) wr.heap.size #[.int .i64 ft,.int .i64 fw,.int .i64 fn,.string fb] 60 := Blk.new wr _ _
   go_wp2_with fail
   refine (HCK.out _).mono ?_
   rintro e w2 ⟨rfl,hb2⟩
   have hb3 : Below wr.heap.size wr w2 := hal.trans (hb2.mono hal.size)
   have hbw : Below w.heap.size w w2 := hbel.trans (hb3.mono hbel.size)
   have q0 := ((BE.below hb2).cell 0).trans rfl
   generalize wr.heap.size = bw at *
   clear hb2 hb3 hbel hal BE p0 p1 p2 p3 HCK
   cases O with
   | false =>
    obtain rfl : R = false := by
     rw [← HR.out,restB,Bool.and_eq_false_iff]
     left
     rw [List.all_eq_false]
     exact ⟨f,HM.out,by rw [HFO.out,HE.out.1,HO.out]; simp⟩
    go_wp2_with fail
    go_ret
    exact ⟨rfl,hbw⟩
   | true =>
    go_wp2_with fail
    refine (HTG.out _ hbw).mono ?_
    rintro e w4 ⟨rfl,hb4⟩
    have hbw4 : Below w.heap.size w w4 := hbw.trans (hb4.mono hbw.size)
    clear hb4 hbw HTG
    cases B with
    | true =>
     obtain rfl : R = false := by
      rw [← HR.out,restB,Bool.and_eq_false_iff]
      left
      rw [List.all_eq_false]
      exact ⟨f,HM.out,by rw [HE.out.1,HB.out]; simp⟩
     go_wp2_with fail
     go_ret
     exact ⟨rfl,hbw4⟩
    | false =>
     have HI2 : Hid (∀ f ∈ l.take (i + 1),(okF f && !hasB es f.tag) = true) := rest_all HI.out HF.out (by rw [HFO.out,HE.out.1,HO.out,HB.out]; rfl)
     go_wp2_with fail
     go_roundw
     case rel => exact ⟨i + 1,by go_num,by omega,HI2,hbw4⟩
     case measure => simp [intOf]; omega
  ·have hall : R = risesB l := by
    have h5 := HI.out
    rw [List.take_of_length_le (by rw [HN.out]; omega)] at h5
    rw [← HR.out,restB,List.all_eq_true.2 h5]
    rfl
   have HRX : Hid (Calls Tryz.prog 118 #[.slice a N cap] wr fun e w' => e = .returned (.bool R) ∧ Below wr.heap.size wr w') := by
    rw [hall]; exact HRS.out wr hbel
   clear hall
   go_wp2_with fail
   refine HRX.out.mono ?_
   rintro e w2 ⟨rfl,hb2⟩
   have hbw : Below w.heap.size w w2 := hbel.trans (hb2.mono hbel.size)
   go_wp2_with fail
   go_ret
   exact ⟨rfl,hbw⟩
set_option maxHeartbeats 4000000 in
theorem wrong_any (n : Nat) (t : Tr) (r : List Value) (w : World) (h : TrQ n w r t) (hl : t.es.length ≤ 1000000) :
  Calls Tryz.prog 62 #[.agg r.toArray] w fun e w' => e = .returned (.bool (!lvB t)) ∧ Below w.heap.size w w' := by
 cases n with
 | zero => exact h.elim
 | succ n =>
  obtain ⟨ve,vr,rfl,ka,na,sa,fa,ra,ea,pa⟩ := h
  obtain ⟨pe,ce,rfl,u1,u2, -⟩ := RowP.open ea
  obtain ⟨pr,cr,rfl,x1,x2, -⟩ := rest_holds ra
  have HEN : Hid (∀ W,Below w.heap.size w W → Calls Tryz.prog 95 #[.slice pe t.es.length ce] W fun e w' => e = .returned (.bool (entsB 0 t.es)) ∧ Below W.heap.size W w') := fun W hW => entries_any n _ t.es W (RowP.belowEQ ea hW)
  have HRE : Hid (entsB 0 t.es = true → ∀ W,Below w.heap.size w W → Calls Tryz.prog 96 #[.slice pr t.rest.length cr,.slice pe t.es.length ce] W fun e w' => e = .returned (.bool (restB t.rest t.es)) ∧ Below W.heap.size W w') := fun he W hW => restMayBe_any n _ _ t.rest t.es W (ra.below hW) (RowP.belowEQ ea hW) (ents_ris t.es 0 he) hl
  obtain ⟨R,hR⟩ : ∃ R,(!lvB t) = R := ⟨_,rfl⟩
  rw [hR]
  have HR : Hid ((!lvB t) = R) := hR
  unfold maxLen at u2 x2
  have hel : (t.es.isEmpty = decide (t.es.length = 0)) := by cases t.es <;> simp
  have hrl : (t.rest.isEmpty = decide (t.rest.length = 0)) := by cases t.rest <;> simp
  have hlv := hR
  simp only [lvB,hel,hrl] at hlv
  have HLV : Hid _ := hlv
  clear hR hlv ea ra fa ka na pa hel hrl HR
  generalize t.es.length = Ke at *
  generalize t.rest.length = Kr at *
  generalize t.kind = K at *
  generalize t.n = N at *
  generalize t.s = S at *
  generalize entsB 0 t.es = E at *
  generalize restB t.rest t.es = Rs at *
  have hsz : (S.toList == ([] : List UInt8)) = (S.size == 0) := by
   rw [ByteArray.toList_eq]
   obtain ⟨⟨l⟩⟩ := S
   cases l <;> simp [ByteArray.size]
  have hs0 : S.size = 0 → S = ByteArray.empty := fun h => by
   obtain ⟨⟨l⟩⟩ := S
   cases l with
   | nil => rfl
   | cons a l => simp [ByteArray.size] at h
  by_cases k1 : K = 1
  ·subst k1
   simp only [if_true] at HLV
   have HSE : Hid (S.size = 0 → S = ByteArray.empty) := hs0
   clear hs0 hsz
   by_cases hs : S.size = 0
   ·have := HSE.out hs
    subst this
    clear HSE hs
    go_enter Tryz.func62,Tryz.ntmps62
    go_wp2_with fail
    all_goals
     go_ret
     refine ⟨ret_boolF ?_,(Below.refl _ _).alloc (Nat.le_refl _) _⟩
     rw [← HLV.out]
     first
      | (rw [Bool.eq_iff_iff]; simp; omega)
      | (simp; omega)
   ·have hne : (S.toList == ([] : List UInt8)) = false := by
     rw [ByteArray.toList_eq]
     obtain ⟨⟨l⟩⟩ := S
     cases l with
     | nil => exact absurd rfl hs
     | cons a l => rfl
    obtain rfl : R = true := by rw [← HLV.out]; simp [hs]
    clear hs HSE HLV
    go_enter Tryz.func62,Tryz.ntmps62
    go_wp2_with fail
    all_goals
     go_ret
     exact ⟨rfl,(Below.refl _ _).alloc (Nat.le_refl _) _⟩
  ·have d1 : (K == 1) = false := by simpa using k1
   simp only [if_neg k1] at HLV
   by_cases k2 : K = 2
   ·subst k2
    simp only [if_true] at HLV
    go_enter Tryz.func62,Tryz.ntmps62
    go_wp2_with fail
    all_goals
     go_ret
     refine ⟨ret_boolF ?_,(Below.refl _ _).alloc (Nat.le_refl _) _⟩
     rw [← HLV.out]
     first
      | (rw [Bool.eq_iff_iff]; simp; omega)
      | (simp; omega)
      | (simp; left; omega)
      | (simp_all; omega)
      | simp_all
   ·have d2 : (K == 2) = false := by simpa using k2
    simp only [if_neg k2] at HLV
    by_cases k3 : K = 3
    ·subst k3
     simp only [if_true] at HLV
     by_cases hn : N = 0
     ·subst hn
      by_cases hs : S.size = 0
      ·have := hs0 hs
       subst this
       clear hs0 hsz hs
       go_enter Tryz.func62,Tryz.ntmps62
       go_wp2_with fail
       refine (HEN.out _ ((Below.refl _ _).alloc (Nat.le_refl _) _)).mono ?_
       rintro e w2 ⟨rfl,hb2⟩
       have hal : Below w.heap.size w (w.alloc (Obj.cells #[.int .i64 3,.int .i64 0,.string ByteArray.empty,.slice pe Ke ce,.slice pr Kr cr] 30)) := (Below.refl _ _).alloc (Nat.le_refl _) _
       have hbw : Below w.heap.size w w2 := hal.trans (hb2.mono hal.size)
       have BX := (Blk.new w #[.int .i64 3,.int .i64 0,.string ByteArray.empty,.slice pe Ke ce,.slice pr Kr cr] 30).below hb2
       have q3 := (BX.cell 3).trans rfl
       have q4 := (BX.cell 4).trans rfl
       clear hb2 HEN hal BX
       cases E with
       | false =>
        obtain rfl : R = true := by rw [← HLV.out]; simp
        go_wp2_with fail
        go_ret
        exact ⟨rfl,hbw⟩
       | true =>
        go_wp2_with fail
        refine (HRE.out trivial _ hbw).mono ?_
        rintro e w3 ⟨rfl,hb3⟩
        have hbw3 : Below w.heap.size w w3 := hbw.trans (hb3.mono hbw.size)
        have hRR : (!Rs) = R := by rw [← HLV.out]; simp
        clear hb3 hbw HRE
        go_wp2_with fail
        go_ret
        exact ⟨rfl,hbw3⟩
      ·have hne : (S.toList == ([] : List UInt8)) = false := by
        rw [ByteArray.toList_eq]
        obtain ⟨⟨l⟩⟩ := S
        cases l with
        | nil => exact absurd rfl hs
        | cons a l => rfl
       obtain rfl : R = true := by rw [← HLV.out]; simp [hs]
       clear hs hs0 hsz HLV
       go_enter Tryz.func62,Tryz.ntmps62
       go_wp2_with fail
       all_goals
        go_ret
        exact ⟨rfl,(Below.refl _ _).alloc (Nat.le_refl _) _⟩
     ·have hne : (N != 0) = true := by simpa using hn
      obtain rfl : R = true := by rw [← HLV.out]; simp [hn]
      clear hs0 hsz HLV
      go_enter Tryz.func62,Tryz.ntmps62
      go_wp2_with fail
      all_goals
       go_ret
       exact ⟨rfl,(Below.refl _ _).alloc (Nat.le_refl _) _⟩
    ·have d3 : (K == 3) = false := by simpa using k3
     simp only [if_neg k3] at HLV
     obtain rfl : R = true := by rw [← HLV.out]; rfl
     go_enter Tryz.func62,Tryz.ntmps62
     go_wp2_with fail
     go_ret
     exact ⟨rfl,(Below.refl _ _).alloc (Nat.le_refl _) _⟩
theorem ok_step {m : Nat} {ts : List Tr} {M : List (List (Int × List Tr))} (h : MsgS ts M) (hl : ∀ x ∈ ts,lvB x = true) : ts.all (okN (m + 1)) = (subsL M).all (okN m) := by
 rw [Bool.eq_iff_iff,List.all_eq_true,List.all_eq_true]
 constructor
 ·intro h1 y hy
  obtain ⟨m1,hm1,hy⟩ := mem_subsL.1 hy
  obtain ⟨t1,ht1,hk1,rfl⟩ := mem_msgsL.1 (h.1.subset hm1)
  have := h1 t1 ht1
  simp only [okN,hk1,if_true,Bool.and_eq_true,List.all_eq_true] at this
  exact this.2 y hy
 ·intro h1 x hx
  simp only [okN,hl x hx,Bool.true_and]
  split
  ·rename_i hk
   exact List.all_eq_true.2 fun y hy => h1 y (mem_subsL.2 ⟨_,h.2 x hx hk,hy⟩)
  ·rfl
theorem sm_step {m : Nat} {ts : List Tr} {M : List (List (Int × List Tr))} (h : MsgS ts M) (hs : ∀ x ∈ ts,SmN (m + 1) x) : ∀ x ∈ subsL M,SmN m x := by
 intro y hy
 obtain ⟨m1,hm1,hy⟩ := mem_subsL.1 hy
 obtain ⟨t1,ht1,hk1,rfl⟩ := mem_msgsL.1 (h.1.subset hm1)
 obtain ⟨e,he,hy⟩ := mem_subs.1 hy
 exact ((hs t1 ht1).2.2.2.2 e he).2 y hy
set_option maxHeartbeats 4000000 in
theorem vcheck_any (n : Nat) (t : Tr) (v : Value) (w : World) (h : TrV2 n w v t) (hn : n ≤ 60) (hc : cntN n t ≤ 1000) (hs : SmN n t) :
  Calls Tryz.prog 35 #[v] w fun e w' => e = .returned (.bool (chkN n t)) ∧ Below w.heap.size w w' := by
 have HDP : Hid (∀ W,Below w.heap.size w W → Calls Tryz.prog 58 #[v] W fun e w' => e = .returned (.int .i64 (dpN n t : Int)) ∧ Below W.heap.size W w') := fun W hW => depth_any n t v W (h.below hW) hn hc
 obtain ⟨ea,el,ec,ra,rl,rc,rfl,hq⟩ := h.open
 have HQ : Hid (TrQ n w [.int .i64 t.kind,.int .i64 t.n,.string t.s,.slice ea el ec,.slice ra rl rc] t) := hq
 have HC : Hid (cntN n t ≤ 1000) := hc
 have HS : Hid (SmN n t) := hs
 obtain ⟨D,hD⟩ : ∃ D,dpN n t = D := ⟨_,rfl⟩
 obtain ⟨R,hR⟩ : ∃ R,okN n t = R := ⟨_,rfl⟩
 have HR : Hid (okN n t = R) := hR
 rw [hD] at HDP
 rw [chkN,hD,hR]
 clear h hq hc hs hD hR
 generalize t.kind = K at *
 generalize t.n = N at *
 generalize t.s = S at *
 have hal : Below w.heap.size w (w.alloc (Obj.cells #[.int .i64 K,.int .i64 N,.string S,.slice ea el ec,.slice ra rl rc] 30)) := (Below.refl _ _).alloc (Nat.le_refl _) _
 have HBX : Hid (Blk (w.alloc (Obj.cells #[.int .i64 K,.int .i64 N,.string S,.slice ea el ec,.slice ra rl rc] 30)) w.heap.size #[.int .i64 K,.int .i64 N,.string S,.slice ea el ec,.slice ra rl rc] 30) := Blk.new w _ _
 by_cases hd : D ≤ 10
 ·have d1 : decide (10 < (D : Int)) = false := by simp; omega
  rw [decide_eq_true hd,Bool.true_and]
  go_enter Tryz.func35,Tryz.ntmps35
  go_wp2_with fail
  refine (HDP.out _ hal).mono ?_
  rintro e w1 ⟨rfl,hb1⟩
  have hb : Below w.heap.size w w1 := hal.trans (hb1.mono hal.size)
  have BX := HBX.out.below hb1
  clear hb1 hal HBX HDP
  have q0 := (BX.cell 0).trans rfl
  have q1 := (BX.cell 1).trans rfl
  have q2 := (BX.cell 2).trans rfl
  have q3 := (BX.cell 3).trans rfl
  have q4 := (BX.cell 4).trans rfl
  go_wp2_with fail
  have hbA : Below w.heap.size w (w1.alloc (Obj.cells #[.int .i64 K,.int .i64 N,.string S,.slice ea el ec,.slice ra rl rc] 30)) := hb.alloc hb.size _
  have HT0 : Hid (TrsQ n (w1.alloc (Obj.cells #[.int .i64 K,.int .i64 N,.string S,.slice ea el ec,.slice ra rl rc] 30)) (.slice (some ⟨w1.heap.size,0,none⟩) 1 1) [t]) := one_row (Blk.new w1 _ _) (HQ.out.below hbA)
  clear q0 q1 q2 q3 q4 BX
  go_loopg [3] n (fun k lv wr => ∃ ts : List Tr,Hid (TrsQ k wr lv ts) ∧ Hid (cntL k ts ≤ 1000) ∧ Hid (∀ x ∈ ts,SmN k x) ∧ Hid (ts.all (okN k) = R) ∧ Below w.heap.size w wr)
  case atStart => exact ⟨[t],HT0,(by simpa [cntL] using HC.out : cntL n [t] ≤ 1000),(by simpa using HS.out : ∀ x ∈ [t],SmN n x),(by simpa using HR.out : [t].all (okN n) = R),hbA⟩
  case round =>
   clear HT0 hbA hb
   obtain ⟨ts,HT,HC,HS,HR,hb⟩ := hrel
   obtain ⟨la,lc,rfl,l1,l2, -⟩ := RowP.open HT.out
   unfold maxLen at l2
   obtain ⟨Tl,hTl⟩ : ∃ k,ts.length = k := ⟨_,rfl⟩
   have HT' : Hid (TrsQ gk wr (.slice la Tl lc) ts) := (by rw [← hTl]; exact HT.out : TrsQ gk wr (.slice la Tl lc) ts)
   rw [hTl] at l1 ⊢
   have HTl : Hid (ts.length = Tl) := hTl
   have hlen : ts.length ≤ 1000 := Nat.le_trans (len_cnt HT'.out) HC.out
   have HLN : Hid (ts.length ≤ 1000) := hlen
   clear hTl HT hlen
   by_cases h0 : Tl = 0
   ·subst h0
    have hts : ts = [] := List.eq_nil_of_length_eq_zero HTl.out
    obtain rfl : R = true := by rw [← HR.out,hts]; rfl
    clear hts
    go_wp2_with fail
    go_ret
    exact ⟨rfl,hb⟩
   ·have d2 : decide (0 < (Tl : Int)) = true := by simp; omega
    obtain ⟨m,rfl⟩ : ∃ m,gk = m + 1 := by
     cases gk with
     | zero =>
      exfalso
      obtain ⟨rows,_,_,h3⟩ := HT'.out
      obtain ⟨x,hx⟩ : ∃ x,ts[0]? = some x := ⟨_,List.getElem?_eq_getElem (by rw [HTl.out]; omega)⟩
      obtain ⟨r,_,hp⟩ := h3 0 x hx
      exact hp
     | succ m => exact ⟨m,rfl⟩
    obtain ⟨B,hB⟩ : ∃ B,ts.any (fun x => !lvB x) = B := ⟨_,rfl⟩
    have HCF : Hid (Calls Tryz.prog 61 #[.slice la Tl lc,.func (.func 62) #[] #[]] wr fun e w' => e = .returned (.bool B) ∧ Below wr.heap.size wr w') := by
     rw [← hB]
     exact containsW_any (m + 1) _ ts wr (fun x => !lvB x) HT'.out fun W x r hW hx hr => wrong_any (m + 1) x r W hr (by have := (HS.out x hx).2.2.1; omega)
    have HB : Hid (ts.any (fun x => !lvB x) = B) := hB
    clear hB
    go_wp2_with fail
    refine HCF.out.mono ?_
    rintro e w2 ⟨rfl,hb2⟩
    have hbw2 : Below w.heap.size w w2 := hb.trans (hb2.mono hb.size)
    have HT2 : Hid (TrsQ (m + 1) w2 (.slice la Tl lc) ts) := HT'.out.belowTQ hb2
    clear HCF hb hb2 HT'
    cases B with
    | true =>
     obtain rfl : R = false := by
      rw [← HR.out,List.all_eq_false]
      obtain ⟨x,hx,hlx⟩ := List.any_eq_true.1 HB.out
      refine ⟨x,hx,?_⟩
      simp at hlx
      simp [okN,hlx]
     go_wp2_with fail
     go_ret
     exact ⟨rfl,hbw2⟩
    | false =>
     have hlv : ∀ x ∈ ts,lvB x = true := fun x hx => by
      have := List.any_eq_false.1 HB.out x hx
      simpa using this
     have HLV : Hid (∀ x ∈ ts,lvB x = true) := hlv
     have HM : Hid (Calls Tryz.prog 60 #[.slice la Tl lc] w2 (MsgP m ts w2)) := messages_any (m + 1) _ ts w2 HT2.out HLN.out
     clear hlv
     go_wp2_with fail
     refine HM.out.mono ?_
     rintro e w3 ⟨lv3,M,rfl,hL3,hS3,hb3⟩
     have hbw3 : Below w.heap.size w w3 := hbw2.trans (hb3.mono hbw2.size)
     have HC3 : Hid (cntL m (subsL M) ≤ 1000) := (Nat.le_trans (cnt_step hS3) HC.out : cntL m (subsL M) ≤ 1000)
     have HI : Hid (Calls Tryz.prog 59 #[lv3] w3 (InsP m M w3)) := inside_any m _ M w3 hL3 (Nat.le_trans (len_subsL hL3) HC3.out)
     have HR3 : Hid ((subsL M).all (okN m) = R) := (by rw [← ok_step hS3 HLV.out]; exact HR.out : (subsL M).all (okN m) = R)
     have HS3 : Hid (∀ x ∈ subsL M,SmN m x) := sm_step hS3 HS.out
     obtain ⟨ma,mc,rfl, -⟩ := RowP.open hL3
     clear hL3 hS3 hb3 hbw2 HM HT2 HC HS HR HLV
     generalize M.length = Ml at *
     go_wp2_with fail
     refine HI.out.mono ?_
     rintro e w4 ⟨iv,rfl,hT4,hb4⟩
     have hbw4 : Below w.heap.size w w4 := hbw3.trans (hb4.mono hbw3.size)
     have HT4 : Hid (TrsQ m w4 iv (subsL M)) := hT4
     clear hT4 hb4 hbw3 HI
     go_wp2_with fail
     go_roundg m
     case measure => omega
     case rel => exact ⟨subsL M,HT4,HC3,HS3,HR3,hbw4⟩
 ·have d1 : decide (10 < (D : Int)) = true := by simp; omega
  rw [decide_eq_false hd,Bool.false_and]
  go_enter Tryz.func35,Tryz.ntmps35
  go_wp2_with fail
  refine (HDP.out _ hal).mono ?_
  rintro e w1 ⟨rfl,hb1⟩
  have hb : Below w.heap.size w w1 := hal.trans (hb1.mono hal.size)
  have BX := HBX.out.below hb1
  clear hb1 hal HBX HDP
  clear BX
  go_wp2_with fail
  go_ret
  exact ⟨rfl,hb⟩
end
section
open Go.ChangeShapes Go.WideShapes Go.ChangeAt Go.RowKit Go.Maps
set_option maxRecDepth 20000
theorem numR_low {n : Int} (h : n < 0) : numR n = false := by unfold numR; rw [decide_eq_false (by omega)]
theorem numR_high {n : Int} (h : 2147483647 < n) : numR n = false := by unfold numR; rw [decide_eq_false (by omega)]
theorem numR_in {n : Int} (h : ¬ n < 0) (h2 : ¬ 2147483647 < n) : numR n = true := by unfold numR; rw [decide_eq_true (by omega)]
set_option maxHeartbeats 2000000 in
theorem cvalues_any {w : World} {v : Value} {vs : List NmS} (hr : RowG w v 2 (nmRows vs)) (hl : vs.length ≤ 30000) (hw : ∀ f ∈ vs,NmW f) :
  Calls Tryz.prog 91 #[v] w fun e w' => e = .returned (.int .i64 (chkVs [] [] vs)) ∧ Below w.heap.size w w' := by
 obtain ⟨a,c,rfl,q1,q2⟩ := hr.form2
 have hN : (nmRows vs).length = vs.length := by simp [nmRows]
 rw [hN] at hr q1 ⊢
 clear hN
 obtain ⟨N,hN⟩ : ∃ N,vs.length = N := ⟨_,rfl⟩
 rw [hN] at hr q1 hl ⊢
 have HN : Hid (vs.length = N) := hN
 have HR : Hid (RowG w (.slice a N c) 2 (nmRows vs)) := hr
 have HW : Hid (∀ f ∈ vs,NmW f) := hw
 clear hN hr hw
 obtain ⟨A,hA⟩ : ∃ A,chkVs [] [] vs = A := ⟨_,rfl⟩
 rw [hA]
 have HA : Hid (A = chkVs [] [] vs) := hA.symm
 clear hA
 have hmm := @run_makeMap Tryz.prog
 go_enter Tryz.func91,Tryz.ntmps91
 go_wp2_with fail
 clear hmm
 have HM0 : SetS ((w.alloc (.map #[] 0)).alloc (.map #[] 0)) w.heap.size 0 [] := SetK.below (SetK.made 9 w) ((Below.refl _ _).alloc (Nat.le_refl _) _)
 have HM1 : SetI ((w.alloc (.map #[] 0)).alloc (.map #[] 0)) (w.heap.size + 1) 0 [] := by
  have := SetK.made 3 (w.alloc (.map #[] 0))
  rwa [show (w.alloc (.map #[] 0)).heap.size = w.heap.size + 1 by simp] at this
 have KP0 : Below w.heap.size w ((w.alloc (.map #[] 0)).alloc (.map #[] 0)) := ((Below.refl _ _).alloc (Nat.le_refl _) _).alloc (by simp) _
 obtain ⟨bn,hbn⟩ : ∃ n,w.heap.size = n := ⟨_,rfl⟩
 rw [hbn] at HM0 HM1 KP0 ⊢
 have HB : Hid (w.heap.size = bn) := hbn
 clear hbn
 go_loopw [11] (fun iv wr => ∃ (k : Nat) (al : List ByteArray) (t : List Int),iv = .int .i64 (k : Int) ∧ k ≤ N ∧ Hid (A = chkVs al t (vs.drop k)) ∧ Hid (SetS wr bn k al) ∧ Hid (SetI wr (bn + 1) k t) ∧ Below bn w wr) (fun iv _ => N - (intOf iv).toNat)
 case atStart => exact ⟨0,[],[],rfl,by omega,HA,HM0,HM1,KP0⟩
 case round =>
  obtain ⟨k,al,t,rfl,hk,HAk,HSn,HSt,hbel⟩ := hrel
  clear HM0 HM1 KP0
  have hbw : bn + 1 < wr.heap.size := SetK.lt HSt.out
  have hbW : Below w.heap.size w wr := by rw [HB.out]; exact hbel
  by_cases hlt : k < N
  ·obtain ⟨f,hf⟩ : ∃ n,vs[k]? = some n := ⟨_,List.getElem?_eq_getElem (by rw [HN.out]; exact hlt)⟩
   have hrr : (nmRows vs)[k]? = some f.cells := by simp [nmRows,hf]
   obtain ⟨g,off,rfl,c1⟩ := (HR.out.below hbW).get hrr
   have hfw := HW.out _ (List.mem_of_getElem? hf)
   obtain ⟨f0,f1⟩ := f
   obtain ⟨w1',w2'⟩ := hfw
   simp only at w1' w2'
   have HA2 : Hid (A = if freshB f0 al = false then 6 else if numB f1 t = false then 11 else chkVs (al ++ [f0]) (t ++ [f1]) (vs.drop (k + 1))) := by
    show _ = _
    rw [HAk.out,drop_at hf]; rfl
   have p0 := c1 0 _ rfl
   have p1 := c1 1 _ rfl
   simp only [Nat.add_zero] at p0 p1
   clear c1 hrr hf HAk hbW
   go_wp2_with fail
   clear p0 p1
   have hba : Below wr.heap.size wr (wr.alloc (.cells #[.string f0,.int .i64 f1] 70)) := (Below.refl _ _).alloc (Nat.le_refl _) _
   have BX := Blk.new wr #[.string f0,.int .i64 f1] 70
   refine (newname_any (SetK.below HSn.out hba) w1' (by omega)).mono ?_
   rintro e w1 ⟨rfl,hs1,hk1⟩
   have HS1 : Hid _ := hs1
   clear hs1
   have hb1 : Below bn w w1 := (hbel.alloc (by omega) _).trans (hk1.toBelow (by simp; omega) (fun k e => by omega))
   cases h1 : freshB f0 al
   ·go_wp2_with fail
    go_ret
    exact ⟨ret_int (by rw [HA2.out,if_pos h1]),by rw [HB.out]; exact hb1⟩
   ·have BX1 := BX.kp hk1 (by omega)
    have b1 : w1.cell? ⟨wr.heap.size,1,none⟩ = some (.int .i64 f1) := BX1.cell 1
    by_cases hlo : f1 < 0
    ·go_wp2_with fail
     go_ret
     exact ⟨ret_int (by rw [HA2.out,if_neg (by rw [h1]; decide),if_pos (by unfold numB; rw [numR_low hlo]; rfl)]),by rw [HB.out]; exact hb1⟩
    ·by_cases hhi : 2147483647 < f1
     ·go_wp2_with fail
      go_ret
      exact ⟨ret_int (by rw [HA2.out,if_neg (by rw [h1]; decide),if_pos (by unfold numB; rw [numR_high hhi]; rfl)]),by rw [HB.out]; exact hb1⟩
     ·have HNB : Hid (numB f1 t = !memI f1 t) := by show _ = _; unfold numB; rw [numR_in hlo hhi]; rfl
      go_wp2_with fail
      clear b1
      refine (add_int (SetK.kp (SetK.below HSt.out hba) hk1 (by omega)) w2' (by omega)).mono ?_
      rintro e w2 ⟨rfl,hs2,hk2⟩
      have HS2 : Hid _ := hs2
      clear hs2
      have hb2 : Below bn w w2 := hb1.trans (hk2.toBelow (by have := hb1.size; have := HB.out; omega) (fun k e => by omega))
      cases h2 : memI f1 t
      ·have HA3 : Hid (A = chkVs (al ++ [f0]) (t ++ [f1]) (vs.drop (k + 1))) := by
        show _ = _
        rw [HA2.out,if_neg (by rw [h1]; decide),if_neg (by rw [HNB.out,h2]; decide)]
       have HS1' : Hid (SetS w2 bn (k + 1) (al ++ [f0])) := SetK.kp (HS1.out h1) hk2 (by omega)
       have HS2' : Hid (SetI w2 (bn + 1) (k + 1) (t ++ [f1])) := HS2.out h2
       clear HS1 HS2 hbel hb1 hba hk1 hk2 BX BX1 HA2
       go_wp2_with fail
       go_roundw
       case rel => exact ⟨k + 1,_,_,by go_num,by omega,HA3,HS1',HS2',hb2⟩
       case measure => simp [intOf]; omega
      ·go_wp2_with fail
       go_ret
       exact ⟨ret_int (by rw [HA2.out,if_neg (by rw [h1]; decide),if_pos (by rw [HNB.out,h2]; rfl)]),by rw [HB.out]; exact hb2⟩
  ·go_wp2_with fail
   go_ret
   exact ⟨ret_int (by rw [HAk.out,drop_end (by rw [HN.out]; omega)]; rfl),hbW⟩
theorem typeB_msg (mn en : List ByteArray) (t : ByteArray) : typeB mn en 7 t = memB t mn := by
 unfold typeB; simp
set_option maxHeartbeats 2000000 in
theorem cmethods_any {w : World} {v : Value} {ts : List MtS} {mn en : List ByteArray} {bY ny : Nat} {T : List (Int × ByteArray)}
  (hr : RowG w v 3 (mtRows ts)) (hl : ts.length ≤ 30000) (hT : SetT w bY ny T) (hTt : ∀ k s,memT (k,s) T = typeB mn en k s) (hw : ∀ f ∈ ts,MtW f) :
  Calls Tryz.prog 55 #[v,.map (some bY)] w fun e w' => e = .returned (.int .i64 (chkTs mn [] ts)) ∧ Below w.heap.size w w' := by
 obtain ⟨a,c,rfl,q1,q2⟩ := hr.form2
 have hN : (mtRows ts).length = ts.length := by simp [mtRows]
 rw [hN] at hr q1 ⊢
 clear hN
 obtain ⟨N,hN⟩ : ∃ N,ts.length = N := ⟨_,rfl⟩
 rw [hN] at hr q1 hl ⊢
 have HN : Hid (ts.length = N) := hN
 have HR : Hid (RowG w (.slice a N c) 3 (mtRows ts)) := hr
 have HT : Hid (SetT w bY ny T) := hT
 have HTT : Hid (∀ s,memT (7,s) T = memB s mn) := fun s => by rw [hTt,typeB_msg]
 have HW : Hid (∀ f ∈ ts,MtW f) := hw
 clear hN hr hT hTt hw
 obtain ⟨A,hA⟩ : ∃ A,chkTs mn [] ts = A := ⟨_,rfl⟩
 rw [hA]
 have HA : Hid (A = chkTs mn [] ts) := hA.symm
 clear hA
 have hmm := @run_makeMap Tryz.prog
 go_enter Tryz.func55,Tryz.ntmps55
 go_wp2_with fail
 clear hmm
 have HM0 := SetK.made 9 w
 have KP0 : Below w.heap.size w (w.alloc (.map #[] 0)) := (Below.refl _ _).alloc (Nat.le_refl _) _
 obtain ⟨bn,hbn⟩ : ∃ n,w.heap.size = n := ⟨_,rfl⟩
 rw [hbn] at HM0 KP0 ⊢
 have HB : Hid (w.heap.size = bn) := hbn
 clear hbn
 go_loopw [11] (fun iv wr => ∃ (k : Nat) (al : List ByteArray),iv = .int .i64 (k : Int) ∧ k ≤ N ∧ Hid (A = chkTs mn al (ts.drop k)) ∧ Hid (SetS wr bn k al) ∧ Below bn w wr) (fun iv _ => N - (intOf iv).toNat)
 case atStart => exact ⟨0,[],rfl,by omega,HA,HM0,KP0⟩
 case round =>
  obtain ⟨k,al,rfl,hk,HAk,HSn,hbel⟩ := hrel
  clear HM0 KP0
  have hbw : bn < wr.heap.size := SetK.lt HSn.out
  have hbW : Below w.heap.size w wr := by rw [HB.out]; exact hbel
  by_cases hlt : k < N
  ·obtain ⟨f,hf⟩ : ∃ n,ts[k]? = some n := ⟨_,List.getElem?_eq_getElem (by rw [HN.out]; exact hlt)⟩
   have hrr : (mtRows ts)[k]? = some f.cells := by simp [mtRows,hf]
   obtain ⟨g,off,rfl,c1⟩ := (HR.out.below hbW).get hrr
   have hfw := HW.out _ (List.mem_of_getElem? hf)
   obtain ⟨f0,f1,f2⟩ := f
   obtain ⟨w1',w2',w3'⟩ := hfw
   simp only at w1' w2' w3'
   have HA2 : Hid (A = if freshB f0 al = false then 6 else if (memB f1 mn && memB f2 mn) = false then 8 else chkTs mn (al ++ [f0]) (ts.drop (k + 1))) := by
    show _ = _
    rw [HAk.out,drop_at hf]; rfl
   have p0 := c1 0 _ rfl
   have p1 := c1 1 _ rfl
   have p2 := c1 2 _ rfl
   simp only [Nat.add_zero] at p0 p1 p2
   have HTr : Hid (SetT wr bY ny T) := SetK.below HT.out hbW
   have hYn : bY < bn := by have := SetK.lt HT.out; have := HB.out; omega
   clear c1 hrr hf HAk hbW
   go_wp2_with fail
   clear p0 p1 p2
   have hba : Below wr.heap.size wr (wr.alloc (.cells #[.string f0,.string f1,.string f2] 72)) := (Below.refl _ _).alloc (Nat.le_refl _) _
   have BX := Blk.new wr #[.string f0,.string f1,.string f2] 72
   refine (newname_any (SetK.below HSn.out hba) w1' (by omega)).mono ?_
   rintro e w1 ⟨rfl,hs1,hk1⟩
   have HS1 : Hid _ := hs1
   clear hs1
   have hb1 : Below bn w w1 := (hbel.alloc (by omega) _).trans (hk1.toBelow (by simp; omega) (fun k e => by omega))
   cases h1 : freshB f0 al
   ·go_wp2_with fail
    go_ret
    exact ⟨ret_int (by rw [HA2.out,if_pos h1]),by rw [HB.out]; exact hb1⟩
   ·have BX1 := BX.kp hk1 (by omega)
    have b1 : w1.cell? ⟨wr.heap.size,1,none⟩ = some (.string f1) := BX1.cell 1
    have HT1 : Hid (SetT w1 bY ny T) := SetK.kp (SetK.below HTr.out hba) hk1 (by omega)
    go_wp2_with fail
    refine (msgtype_any _ _).mono ?_
    rintro e w2 ⟨rfl,hb2⟩
    clear b1
    go_wp2_with fail
    refine (has_ty (SetK.below HT1.out hb2) ⟨by decide,by decide⟩ w2').mono ?_
    rintro e w3 ⟨rfl,hb3⟩
    rw [HTT.out]
    have hb13 : Below w1.heap.size w1 w3 := hb2.trans (hb3.mono hb2.size)
    have hbn1 : bn ≤ w1.heap.size := by have := hb1.size; have := HB.out; omega
    have hb03 : Below bn w w3 := hb1.trans (hb13.mono hbn1)
    cases h2 : memB f1 mn
    ·go_wp2_with fail
     go_ret
     exact ⟨ret_int (by rw [HA2.out,if_neg (by rw [h1]; decide),if_pos (by rw [h2]; rfl)]),by rw [HB.out]; exact hb03⟩
    ·have BX3 := BX1.below hb13
     have b2 : w3.cell? ⟨wr.heap.size,2,none⟩ = some (.string f2) := BX3.cell 2
     clear hb2 hb3
     go_wp2_with fail
     refine (msgtype_any _ _).mono ?_
     rintro e w4 ⟨rfl,hb4⟩
     clear b2
     go_wp2_with fail
     refine (has_ty (SetK.below (SetK.below HT1.out hb13) hb4) ⟨by decide,by decide⟩ w3').mono ?_
     rintro e w5 ⟨rfl,hb5⟩
     rw [HTT.out]
     have hb35 : Below w3.heap.size w3 w5 := hb4.trans (hb5.mono hb4.size)
     have hb05 : Below bn w w5 := hb03.trans (hb35.mono (Nat.le_trans hbn1 hb13.size))
     cases h3 : memB f2 mn
     ·go_wp2_with fail
      go_ret
      exact ⟨ret_int (by rw [HA2.out,if_neg (by rw [h1]; decide),if_pos (by rw [h2,h3]; rfl)]),by rw [HB.out]; exact hb05⟩
     ·have HA3 : Hid (A = chkTs mn (al ++ [f0]) (ts.drop (k + 1))) := by
       show _ = _
       rw [HA2.out,if_neg (by rw [h1]; decide),if_neg (by rw [h2,h3]; decide)]
      have HS1' : Hid (SetS w5 bn (k + 1) (al ++ [f0])) := SetK.below (SetK.below (HS1.out h1) hb13) hb35
      clear HS1 hbel hb1 hba hk1 BX BX1 BX3 HA2 hb03 hb35 hb13 hb4 hb5 HT1
      go_wp2_with fail
      go_roundw
      case rel => exact ⟨k + 1,_,by go_num,by omega,HA3,HS1',hb05⟩
      case measure => simp [intOf]; omega
  ·go_wp2_with fail
   go_ret
   exact ⟨ret_int (by rw [HAk.out,drop_end (by rw [HN.out]; omega)]; rfl),hbW⟩
set_option maxHeartbeats 2000000 in
theorem cfields_any {w : World} {v : Value} {fs : List FlS} {mn en : List ByteArray} {bt nt bY ny : Nat} {L : List Int} {T : List (Int × ByteArray)}
  (hr : RowG w v 5 (flRows fs)) (hl : fs.length ≤ 30000) (hI : SetI w bt nt L) (hnt : nt ≤ 100000) (hT : SetT w bY ny T) (hne : bY ≠ bt) (hTt : ∀ k s,memT (k,s) T = typeB mn en k s) (hw : ∀ f ∈ fs,FlW f) :
  Calls Tryz.prog 88 #[v,.map (some bt),.map (some bY)] w fun e w' => e = .returned (.int .i64 (chkFs mn en [] L fs)) ∧ Kp (fun k => k = bt) w w' := by
 obtain ⟨a,c,rfl,q1,q2⟩ := hr.form2
 have hN : (flRows fs).length = fs.length := by simp [flRows]
 rw [hN] at hr q1 ⊢
 clear hN
 obtain ⟨N,hN⟩ : ∃ N,fs.length = N := ⟨_,rfl⟩
 rw [hN] at hr q1 hl ⊢
 have HN : Hid (fs.length = N) := hN
 have HR : Hid (RowG w (.slice a N c) 5 (flRows fs)) := hr
 have HI : Hid (SetI w bt nt L) := hI
 have HT : Hid (SetT w bY ny T) := hT
 have HTT : Hid (∀ k s,memT (k,s) T = typeB mn en k s) := hTt
 have HW : Hid (∀ f ∈ fs,FlW f) := hw
 have hbt : bt < w.heap.size := SetK.lt hI
 clear hN hr hI hT hTt hw
 obtain ⟨A,hA⟩ : ∃ A,chkFs mn en [] L fs = A := ⟨_,rfl⟩
 rw [hA]
 have HA : Hid (A = chkFs mn en [] L fs) := hA.symm
 clear hA
 have hmm := @run_makeMap Tryz.prog
 go_enter Tryz.func88,Tryz.ntmps88
 go_wp2_with fail
 clear hmm
 have HM0 := SetK.made 9 w
 have KP0 : Kp (fun k => k = bt) w (w.alloc (.map #[] 0)) := (Kp.refl _ _).alloc _
 have HI0 : Hid (SetI (w.alloc (.map #[] 0)) bt nt L) := SetK.kp HI.out (S := fun _ => False) ((Kp.refl _ _).alloc _) (fun e => e)
 obtain ⟨bn,hbn⟩ : ∃ n,w.heap.size = n := ⟨_,rfl⟩
 rw [hbn] at HM0 hbt ⊢
 have HB : Hid (w.heap.size = bn) := hbn
 clear hbn
 go_loopw [13] (fun iv wr => ∃ (k : Nat) (al : List ByteArray) (t : List Int),iv = .int .i64 (k : Int) ∧ k ≤ N ∧ Hid (A = chkFs mn en al t (fs.drop k)) ∧ Hid (SetS wr bn k al) ∧ Hid (SetI wr bt (nt + k) t) ∧ Kp (fun k => k = bt) w wr) (fun iv _ => N - (intOf iv).toNat)
 case atStart => exact ⟨0,[],L,rfl,by omega,HA,HM0,HI0,KP0⟩
 case round =>
  obtain ⟨k,al,t,rfl,hk,HAk,HSn,HSt,hkp⟩ := hrel
  clear HM0 KP0 HI0
  have hbw : bn < wr.heap.size := SetK.lt HSn.out
  by_cases hlt : k < N
  ·obtain ⟨f,hf⟩ : ∃ n,fs[k]? = some n := ⟨_,List.getElem?_eq_getElem (by rw [HN.out]; exact hlt)⟩
   have hrr : (flRows fs)[k]? = some f.cells := by simp [flRows,hf]
   obtain ⟨g,off,rfl,c1⟩ := (HR.out.kpM hkp (SetK.no HI.out)).get hrr
   have hfw := HW.out _ (List.mem_of_getElem? hf)
   obtain ⟨f0,f1,f2,f3,f4⟩ := f
   obtain ⟨w1',w2',w3',w4',w5'⟩ := hfw
   simp only at w1' w2' w3' w4' w5'
   have HA2 : Hid (A = if freshB f0 al = false then 6 else if tagB f1 t = false then 7 else if (labB f2 && typeB mn en f3 f4) = false then 8 else chkFs mn en (al ++ [f0]) (t ++ [f1]) (fs.drop (k + 1))) := by
    show _ = _
    rw [HAk.out,drop_at hf]; rfl
   have p0 := c1 0 _ rfl
   have p1 := c1 1 _ rfl
   have p2 := c1 2 _ rfl
   have p3 := c1 3 _ rfl
   have p4 := c1 4 _ rfl
   simp only [Nat.add_zero] at p0 p1 p2 p3 p4
   clear c1 hrr hf HAk
   have HTr : Hid (SetT wr bY ny T) := SetK.kp HT.out hkp hne
   go_wp2_with fail
   clear p0 p1 p2 p3 p4
   have hba : Below wr.heap.size wr (wr.alloc (.cells #[.string f0,.int .i64 f1,.int .i64 f2,.int .i64 f3,.string f4] 54)) := (Below.refl _ _).alloc (Nat.le_refl _) _
   have BX := Blk.new wr #[.string f0,.int .i64 f1,.int .i64 f2,.int .i64 f3,.string f4] 54
   refine (newname_any (SetK.below HSn.out hba) w1' (by omega)).mono ?_
   rintro e w1 ⟨rfl,hs1,hk1⟩
   have HS1 : Hid _ := hs1
   clear hs1
   have hkp1 : Kp (fun k => k = bt) w w1 := (hkp.below hba).new hk1 (by rw [HB.out]; omega)
   cases h1 : freshB f0 al
   ·go_wp2_with fail
    go_ret
    exact ⟨ret_int (by rw [HA2.out,if_pos h1]),hkp1⟩
   ·have BX1 := BX.kp hk1 (by omega)
    have b1 : w1.cell? ⟨wr.heap.size,1,none⟩ = some (.int .i64 f1) := BX1.cell 1
    go_wp2_with fail
    clear b1
    refine (newtag_any (SetK.kp (SetK.below HSt.out hba) hk1 (by omega)) w3' (by omega)).mono ?_
    rintro e w2 ⟨rfl,hs2,hk2⟩
    have HS2 : Hid _ := hs2
    clear hs2
    have hkp2 : Kp (fun k => k = bt) w w2 := hkp1.trans hk2
    cases h2 : tagB f1 t
    ·go_wp2_with fail
     go_ret
     exact ⟨ret_int (by rw [HA2.out,if_neg (by rw [h1]; decide),if_pos h2]),hkp2⟩
    ·have BX2 := BX1.kp hk2 (by omega)
     have b2 : w2.cell? ⟨wr.heap.size,2,none⟩ = some (.int .i64 f2) := BX2.cell 2
     have b3 : w2.cell? ⟨wr.heap.size,3,none⟩ = some (.int .i64 f3) := BX2.cell 3
     have b4 : w2.cell? ⟨wr.heap.size,4,none⟩ = some (.string f4) := BX2.cell 4
     go_wp2_with fail
     refine (islabel_any _ _).mono ?_
     rintro e w3 ⟨rfl,rfl⟩
     cases h3 : labB f2
     ·go_wp2_with fail
      go_ret
      exact ⟨ret_int (by rw [HA2.out,if_neg (by rw [h1]; decide),if_neg (by rw [h2]; decide),if_pos (by rw [h3]; rfl)]),hkp2⟩
     ·go_wp2_with fail
      clear b2 b3 b4
      refine (has_ty (SetK.kp (SetK.kp (SetK.below HTr.out hba) hk1 (by have := SetK.lt HT.out; have := HB.out; omega)) hk2 hne) w5' w2').mono ?_
      rintro e w4 ⟨rfl,hb4⟩
      rw [HTT.out]
      cases h4 : typeB mn en f3 f4
      ·go_wp2_with fail
       go_ret
       exact ⟨ret_int (by rw [HA2.out,if_neg (by rw [h1]; decide),if_neg (by rw [h2]; decide),if_pos (by rw [h3,h4]; rfl)]),hkp2.below hb4⟩
      ·have HA3 : Hid (A = chkFs mn en (al ++ [f0]) (t ++ [f1]) (fs.drop (k + 1))) := by
        show _ = _
        rw [HA2.out,if_neg (by rw [h1]; decide),if_neg (by rw [h2]; decide),if_neg (by rw [h3,h4]; decide)]
       have HS1' : Hid (SetS w4 bn (k + 1) (al ++ [f0])) := SetK.below (SetK.kp (HS1.out h1) hk2 (by omega)) hb4
       have HS2' : Hid (SetI w4 bt (nt + (k + 1)) (t ++ [f1])) := SetK.below (HS2.out h2) hb4
       have hkp4 := hkp2.below hb4
       clear HS1 HS2 hkp hkp1 hkp2 hba hk1 hk2 hb4 BX BX1 BX2 HA2 HTr
       go_wp2_with fail
       go_roundw
       case rel => exact ⟨k + 1,_,_,by go_num,by omega,HA3,HS1',HS2',hkp4⟩
       case measure => simp [intOf]; omega
  ·go_wp2_with fail
   go_ret
   exact ⟨ret_int (by rw [HAk.out,drop_end (by rw [HN.out]; omega)]; rfl),hkp⟩
theorem take_at {α : Type} {l : List α} {k : Nat} {x : α} (h : l[k]? = some x) : l.take (k + 1) = l.take k ++ [x] := by
 rw [List.take_add_one,h]; rfl
def zeroV (vs : List NmS) : Bool := vs.any fun v => decide (v.n = 0)
set_option maxHeartbeats 2000000 in
theorem indexf_any {w : World} {v : Value} {vs : List NmS} (hr : RowG w v 2 (nmRows vs)) (hl : vs.length ≤ 30000) :
  Calls Tryz.prog 114 #[v,.func (.func 90) #[] #[]] w fun e w' => (∃ n : Int,e = .returned (.int .i64 n) ∧ decide (0 ≤ n) = zeroV vs) ∧ Below w.heap.size w w' := by
 obtain ⟨a,c,rfl,q1,q2⟩ := hr.form2
 have hN : (nmRows vs).length = vs.length := by simp [nmRows]
 rw [hN] at hr q1 ⊢
 clear hN
 obtain ⟨N,hN⟩ : ∃ N,vs.length = N := ⟨_,rfl⟩
 rw [hN] at hr q1 hl ⊢
 have HN : Hid (vs.length = N) := hN
 have HR : Hid (RowG w (.slice a N c) 2 (nmRows vs)) := hr
 clear hN hr
 obtain ⟨A,hA⟩ : ∃ A,zeroV vs = A := ⟨_,rfl⟩
 rw [hA]
 have HA : Hid (A = zeroV vs) := hA.symm
 clear hA
 go_enter Tryz.func114,Tryz.ntmps114
 go_wp2_with fail
 go_loopw [8] (fun iv wr => ∃ k : Nat,iv = .int .i64 (k : Int) ∧ k ≤ N ∧ Hid (A = zeroV (vs.drop k)) ∧ Below w.heap.size w wr) (fun iv _ => N - (intOf iv).toNat)
 case atStart => exact ⟨0,rfl,by omega,HA,Below.refl _ _⟩
 case round =>
  obtain ⟨k,rfl,hk,HAk,hbel⟩ := hrel
  by_cases hlt : k < N
  ·obtain ⟨f,hf⟩ : ∃ n,vs[k]? = some n := ⟨_,List.getElem?_eq_getElem (by rw [HN.out]; exact hlt)⟩
   have hrr : (nmRows vs)[k]? = some f.cells := by simp [nmRows,hf]
   obtain ⟨g,off,rfl,c1⟩ := (HR.out.below hbel).get hrr
   obtain ⟨f0,f1⟩ := f
   have HA2 : Hid (A = (decide (f1 = 0) || zeroV (vs.drop (k + 1)))) := by
    show _ = _
    rw [HAk.out,drop_at hf]; rfl
   have p0 := c1 0 _ rfl
   have p1 := c1 1 _ rfl
   simp only [Nat.add_zero] at p0 p1
   clear c1 hrr hf HAk
   go_wp2_with fail
   clear p0 p1
   refine (iszero_any _ _ _).mono ?_
   rintro e w1 ⟨rfl,hb1⟩
   have hb2 : Below w.heap.size w w1 := hbel.trans (hb1.mono hbel.size)
   cases hz : decide (f1 = 0)
   ·have HA3 : Hid (A = zeroV (vs.drop (k + 1))) := by show _ = _; rw [HA2.out,hz]; rfl
    clear hbel hb1 HA2
    go_wp2_with fail
    go_roundw
    case rel => exact ⟨k + 1,by go_num,by omega,HA3,hb2⟩
    case measure => simp [intOf]; omega
   ·go_wp2_with fail
    go_ret
    exact ⟨⟨(k : Int),rfl,by rw [HA2.out,hz,decide_eq_true (by omega)]; rfl⟩,hb2⟩
  ·go_wp2_with fail
   go_ret
   exact ⟨⟨-1,rfl,by rw [HAk.out,drop_end (by rw [HN.out]; omega)]; rfl⟩,hbel⟩
set_option maxHeartbeats 2000000 in
theorem contf_any {w : World} {v : Value} {vs : List NmS} (hr : RowG w v 2 (nmRows vs)) (hl : vs.length ≤ 30000) :
  Calls Tryz.prog 89 #[v,.func (.func 90) #[] #[]] w fun e w' => e = .returned (.bool (zeroV vs)) ∧ Below w.heap.size w w' := by
 have HC := indexf_any hr hl
 clear hr hl
 go_enter Tryz.func89,Tryz.ntmps89
 go_wp2_with fail
 refine HC.mono ?_
 rintro e w1 ⟨⟨n,rfl,hn⟩,hb1⟩
 have HN : Hid _ := hn
 clear hn
 go_wp2_with fail
 go_ret
 exact ⟨ret_bool HN.out,hb1⟩
set_option maxHeartbeats 2000000 in
theorem cenum_any {w : World} {vv : Value} {nm : ByteArray} {vs : List NmS} {bn nn : Nat} {L : List ByteArray} (hr : RowG w vv 2 (nmRows vs)) (hl : vs.length ≤ 30000) (hS : SetS w bn nn L) (hnn : nn ≤ 100000) (hw : EnW ⟨nm,vs⟩) :
  Calls Tryz.prog 54 #[.agg #[.string nm,vv],.map (some bn)] w fun e w' => e = .returned (.int .i64 (if freshB nm L = false then 6 else chkEb ⟨nm,vs⟩)) ∧ (freshB nm L = true → SetS w' bn (nn + 1) (L ++ [nm])) ∧ Kp (fun k => k = bn) w w' := by
 have HR : Hid (RowG w vv 2 (nmRows vs)) := hr
 obtain ⟨a,c,rfl,q1,q2⟩ := hr.form2
 have hN : (nmRows vs).length = vs.length := by simp [nmRows]
 rw [hN] at q1 HR ⊢
 obtain ⟨N,hN2⟩ : ∃ N,vs.length = N := ⟨_,rfl⟩
 rw [hN2] at q1 HR ⊢
 have HN : Hid (vs.length = N) := hN2
 have HS : Hid (SetS w bn nn L) := hS
 obtain ⟨w1',hwv⟩ := hw
 have HW : Hid (∀ f ∈ vs,NmW f) := hwv
 have HL : Hid (vs.length ≤ 30000) := hl
 simp only at w1'
 clear hr hN hN2 hS hwv hl
 obtain ⟨A,hA⟩ : ∃ A,(if freshB nm L = false then 6 else chkEb ⟨nm,vs⟩) = A := ⟨_,rfl⟩
 rw [hA]
 have HA : Hid (A = if freshB nm L = false then 6 else chkEb ⟨nm,vs⟩) := hA.symm
 clear hA
 have hba : Below w.heap.size w (w.alloc (.cells #[.string nm,.slice a N c] 68)) := (Below.refl _ _).alloc (Nat.le_refl _) _
 have BX := Blk.new w #[.string nm,.slice a N c] 68
 have hbw : bn < w.heap.size := SetK.lt HS.out
 go_enter Tryz.func54,Tryz.ntmps54
 go_wp2_with fail
 refine (newname_any (SetK.below HS.out hba) w1' (by omega)).mono ?_
 rintro e w1 ⟨rfl,hs1,hk1⟩
 have HS1 : Hid _ := hs1
 clear hs1
 have hkp1 : Kp (fun k => k = bn) w w1 := (Kp.ofBelow hba).trans hk1
 cases h1 : freshB nm L
 ·have H1 : Hid (freshB nm L = false) := h1
  clear h1
  go_wp2_with fail
  go_ret
  exact ⟨ret_int (by rw [HA.out,if_pos H1.out]),(fun e => by rw [H1.out] at e; cases e),hkp1⟩
 ·have H1 : Hid (freshB nm L = true) := h1
  clear h1
  have HX : Hid (chkEb ⟨nm,vs⟩ = A) := by show _ = _; rw [HA.out,if_neg (by rw [H1.out]; decide)]
  have BX1 := BX.kp hk1 (by omega)
  have b1 : w1.cell? ⟨w.heap.size,1,none⟩ = some (.slice a N c) := BX1.cell 1
  by_cases hbig : 16 < N
  ·have HE : Hid (4 = A) := by show _ = _; rw [← HX.out]; unfold chkEb; simp only; rw [if_pos (by rw [HN.out]; exact hbig)]
   go_wp2_with fail
   go_ret
   exact ⟨ret_int HE.out,(fun _ => HS1.out H1.out),hkp1⟩
  ·have HR1 : Hid (RowG w1 (.slice a N c) 2 (nmRows vs)) := (HR.out.kpM hkp1 (SetK.no HS.out))
   go_wp2_with fail
   refine (contf_any HR1.out HL.out).mono ?_
   rintro e w2 ⟨rfl,hb2⟩
   cases h2 : zeroV vs
   ·have HE : Hid (12 = A) := by show _ = _; rw [← HX.out]; unfold chkEb; simp only; rw [if_neg (by rw [HN.out]; exact hbig),if_pos (show zeroE ⟨nm,vs⟩ = false from h2)]
    go_wp2_with fail
    go_ret
    exact ⟨ret_int HE.out,(fun _ => SetK.below (HS1.out H1.out) hb2),hkp1.below hb2⟩
   ·have HE : Hid (chkVs [] [] vs = A) := by
     show _ = _; rw [← HX.out]; unfold chkEb; simp only
     rw [if_neg (by rw [HN.out]; exact hbig),if_neg (by show ¬ zeroV vs = false; rw [h2]; decide)]
    have b2 : w2.cell? ⟨w.heap.size,1,none⟩ = some (.slice a N c) := (BX1.below hb2).cell 1
    clear b1
    go_wp2_with fail
    refine (cvalues_any (HR1.out.below hb2) HL.out HW.out).mono ?_
    rintro e w3 ⟨rfl,hb3⟩
    rw [HE.out]
    clear b2
    go_wp2_with fail
    go_ret
    exact ⟨rfl,(fun _ => SetK.below (SetK.below (HS1.out H1.out) hb2) hb3),(hkp1.below hb2).below hb3⟩
set_option maxHeartbeats 4000000 in
theorem cmsg_any {w : World} {vf vr : Value} {nm : ByteArray} {fs : List FlS} {ns : List Int} {mn en : List ByteArray} {bn nn bY ny : Nat} {L : List ByteArray} {T : List (Int × ByteArray)}
  (hf : RowG w vf 5 (flRows fs)) (hr : RowG w vr 1 (inRows ns)) (hlf : fs.length ≤ 30000) (hlr : ns.length ≤ 30000) (hS : SetS w bn nn L) (hnn : nn ≤ 100000) (hT : SetT w bY ny T) (hne : bY ≠ bn) (hTt : ∀ k s,memT (k,s) T = typeB mn en k s) (hw : MsW ⟨nm,fs,ns⟩) :
  Calls Tryz.prog 53 #[.agg #[.string nm,vf,vr],.map (some bn),.map (some bY)] w fun e w' => e = .returned (.int .i64 (if freshB nm L = false then 6 else chkMb mn en ⟨nm,fs,ns⟩)) ∧ (freshB nm L = true → SetS w' bn (nn + 1) (L ++ [nm])) ∧ Kp (fun k => k = bn) w w' := by
 have HF : Hid (RowG w vf 5 (flRows fs)) := hf
 have HR : Hid (RowG w vr 1 (inRows ns)) := hr
 obtain ⟨a,c,rfl,q1,q2⟩ := hf.form2
 obtain ⟨ar,cr,rfl,q3,q4⟩ := hr.form2
 have e1 : (flRows fs).length = fs.length := by simp [flRows]
 have e2 : (inRows ns).length = ns.length := by simp [inRows]
 rw [e1] at q1 HF ⊢
 rw [e2] at q3 HR ⊢
 obtain ⟨N,hN⟩ : ∃ N,fs.length = N := ⟨_,rfl⟩
 obtain ⟨R,hR⟩ : ∃ N,ns.length = N := ⟨_,rfl⟩
 have HL : Hid (fs.length ≤ 30000) := hlf
 rw [hN] at q1 HF hlf ⊢
 rw [hR] at q3 HR hlr ⊢
 have HN : Hid (fs.length = N) := hN
 have HNR : Hid (ns.length = R) := hR
 have HS : Hid (SetS w bn nn L) := hS
 have HT : Hid (SetT w bY ny T) := hT
 have HTT : Hid (∀ k s,memT (k,s) T = typeB mn en k s) := hTt
 obtain ⟨w1',hwf,hwr⟩ := hw
 have HWF : Hid (∀ f ∈ fs,FlW f) := hwf
 have HWR : Hid (∀ f ∈ ns,I64 f) := hwr
 simp only at w1'
 clear hf hr e1 e2 hN hR hS hT hTt hwf hwr
 obtain ⟨B,hB⟩ : ∃ A,(if freshB nm L = false then 6 else chkMb mn en ⟨nm,fs,ns⟩) = A := ⟨_,rfl⟩
 rw [hB]
 have HA : Hid (B = if freshB nm L = false then 6 else chkMb mn en ⟨nm,fs,ns⟩) := hB.symm
 clear hB
 have hba : Below w.heap.size w (w.alloc (.cells #[.string nm,.slice a N c,.slice ar R cr] 50)) := (Below.refl _ _).alloc (Nat.le_refl _) _
 have BX := Blk.new w #[.string nm,.slice a N c,.slice ar R cr] 50
 have hbw : bn < w.heap.size := SetK.lt HS.out
 have hmm := @run_makeMap Tryz.prog
 go_enter Tryz.func53,Tryz.ntmps53
 go_wp2_with fail
 refine (newname_any (SetK.below HS.out hba) w1' (by omega)).mono ?_
 rintro e w1 ⟨rfl,hs1,hk1⟩
 have HS1 : Hid _ := hs1
 clear hs1
 have hkp1 : Kp (fun k => k = bn) w w1 := (Kp.ofBelow hba).trans hk1
 cases h1 : freshB nm L
 ·have H1 : Hid (freshB nm L = false) := h1
  clear h1
  go_wp2_with fail
  go_ret
  exact ⟨ret_int (by rw [HA.out,if_pos H1.out]),(fun e => by rw [H1.out] at e; cases e),hkp1⟩
 ·have H1 : Hid (freshB nm L = true) := h1
  clear h1
  have HX : Hid (chkMb mn en ⟨nm,fs,ns⟩ = B) := by show _ = _; rw [HA.out,if_neg (by rw [H1.out]; decide)]
  clear HA
  have BX1 := BX.kp hk1 (by omega)
  have b1 : w1.cell? ⟨w.heap.size,1,none⟩ = some (.slice a N c) := BX1.cell 1
  have b2 : w1.cell? ⟨w.heap.size,2,none⟩ = some (.slice ar R cr) := BX1.cell 2
  by_cases hbig : 16 < N
  ·have HE : Hid (4 = B) := by show _ = _; rw [← HX.out]; unfold chkMb; rw [if_pos (by unfold bigM; simp only; rw [HN.out,decide_eq_true (.inl hbig)])]
   go_wp2_with fail
   go_ret
   exact ⟨ret_int HE.out,(fun _ => HS1.out H1.out),hkp1⟩
  ·have hd : decide (16 < N) = false := by simpa using hbig
   by_cases hbigr : 32 < R
   ·have HE : Hid (4 = B) := by show _ = _; rw [← HX.out]; unfold chkMb; rw [if_pos (by unfold bigM; simp only; rw [HNR.out,decide_eq_true (.inr hbigr)])]
    go_wp2_with fail
    go_ret
    exact ⟨ret_int HE.out,(fun _ => HS1.out H1.out),hkp1⟩
   ·have HE : Hid (B = orE (chkRes [] ns) (chkFs mn en [] ns fs)) := by
     show _ = _; rw [← HX.out]; unfold chkMb
     rw [if_neg (by unfold bigM; simp only; rw [HNR.out,HN.out,decide_eq_false (by omega)]; decide)]
    obtain ⟨A,hA⟩ : ∃ A,chkRes [] ns = A := ⟨_,rfl⟩
    have HA : Hid (A = chkRes (ns.take 0) (ns.drop 0)) := hA.symm
    have HB : Hid (B = orE A (chkFs mn en [] ns fs)) := by show _ = _; rw [HE.out,hA]
    clear hA HE
    have hdr : decide (32 < R) = false := by simpa using hbigr
    have HF1 : Hid (RowG w1 (.slice a N c) 5 (flRows fs)) := HF.out.kpM hkp1 (SetK.no HS.out)
    have HR1 : Hid (RowG w1 (.slice ar R cr) 1 (inRows ns)) := HR.out.kpM hkp1 (SetK.no HS.out)
    have HT1 : Hid (SetT w1 bY ny T) := SetK.kp HT.out hkp1 hne
    have hxw : w.heap.size < w1.heap.size := BX1.lt
    go_wp2_with fail
    clear hmm b1 b2
    have HM0 := SetK.made 3 w1
    have KP0 : Below w1.heap.size w1 (w1.alloc (.map #[] 0)) := (Below.refl _ _).alloc (Nat.le_refl _) _
    have hbw1 : bn < w1.heap.size := by have := hkp1.size; omega
    have hbY1 : bY < w1.heap.size := SetK.lt HT1.out
    obtain ⟨bt,hbt⟩ : ∃ n,w1.heap.size = n := ⟨_,rfl⟩
    rw [hbt] at HM0 KP0 hbw1 hbY1 ⊢
    have HBT : Hid (w1.heap.size = bt) := hbt
    clear hbt
    go_loopw [29] (fun iv wr => ∃ (k : Nat),iv = .int .i64 (k : Int) ∧ k ≤ R ∧ Hid (A = chkRes (ns.take k) (ns.drop k)) ∧ Hid (SetI wr bt k (ns.take k)) ∧ Below bt w1 wr) (fun iv _ => R - (intOf iv).toNat)
    case atStart => exact ⟨0,rfl,by omega,HA,HM0,KP0⟩
    case round =>
     obtain ⟨k,rfl,hk,HAk,HSt,hbel⟩ := hrel
     clear HM0 KP0
     have hbW : Below w1.heap.size w1 wr := by rw [HBT.out]; exact hbel
     have hbtw : bt < wr.heap.size := SetK.lt HSt.out
     by_cases hlt : k < R
     ·obtain ⟨n,hn⟩ : ∃ n,ns[k]? = some n := ⟨_,List.getElem?_eq_getElem (by rw [HNR.out]; exact hlt)⟩
      have hrr : (inRows ns)[k]? = some [.int .i64 n] := by simp [inRows,hn]
      obtain ⟨g,off,rfl,c1⟩ := (HR1.out.below hbW).get hrr
      have hn64 := HWR.out _ (List.mem_of_getElem? hn)
      have HA2 : Hid (A = if tagB n (ns.take k) = true then chkRes (ns.take k ++ [n]) (ns.drop (k + 1)) else 7) := by
       show _ = _
       rw [HAk.out,drop_at hn]; rfl
      have HTK : Hid (ns.take (k + 1) = ns.take k ++ [n]) := take_at hn
      have p0 := c1 0 _ rfl
      simp only [Nat.mul_one,Nat.add_zero] at p0
      clear c1 hrr hn HAk hbW
      go_wp2_with fail
      clear p0
      refine (newtag_any HSt.out hn64 (by omega)).mono ?_
      rintro e w2 ⟨rfl,hs2,hk2⟩
      have HS2 : Hid _ := hs2
      clear hs2
      have hb2 : Below bt w1 w2 := hbel.trans (hk2.toBelow (by omega) (fun k e => by omega))
      cases h2 : tagB n (ns.take k)
      ·have HB2 : Hid (7 = B) := by show _ = _; rw [HB.out,HA2.out,if_neg (by rw [h2]; decide),orE_ne (by decide)]
       go_wp2_with fail
       go_ret
       have hbW2 : Below w1.heap.size w1 w2 := by rw [HBT.out]; exact hb2
       exact ⟨ret_int HB2.out,(fun _ => SetK.below (HS1.out H1.out) hbW2),hkp1.below hbW2⟩
      ·have HA3 : Hid (A = chkRes (ns.take (k + 1)) (ns.drop (k + 1))) := by
        show _ = _
        rw [HA2.out,if_pos h2,HTK.out]
       have HS2' : Hid (SetI w2 bt (k + 1) (ns.take (k + 1))) := by
        show SetI _ _ _ _
        rw [HTK.out]; exact HS2.out h2
       clear HS2 hbel hk2 HA2 HTK
       go_wp2_with fail
       go_roundw
       case rel => exact ⟨k + 1,by go_num,by omega,HA3,HS2',hb2⟩
       case measure => simp [intOf]; omega
     ·have HB2 : Hid (chkFs mn en [] ns fs = B) := by show _ = _; rw [HB.out,HAk.out,drop_end (by rw [HNR.out]; omega)]; exact (orE_zero _).symm
      have HS2 : Hid (SetI wr bt k ns) := by
       have := HSt.out
       rw [List.take_of_length_le (by rw [HNR.out]; omega)] at this
       exact this
      have b1 : wr.cell? ⟨w.heap.size,1,none⟩ = some (.slice a N c) := (BX1.below hbW).cell 1
      go_wp2_with fail
      clear b1
      refine (cfields_any (HF1.out.below hbW) HL.out HS2.out (by omega) (SetK.below HT1.out hbW) (by omega) HTT.out HWF.out).mono ?_
      rintro e w2 ⟨rfl,hk2⟩
      rw [HB2.out]
      go_wp2_with fail
      go_ret
      have hb2 : Below w1.heap.size w1 w2 := hbW.trans (hk2.toBelow hbW.size (fun k e => by have := HBT.out; omega))
      exact ⟨rfl,(fun _ => SetK.below (HS1.out H1.out) hb2),hkp1.below hb2⟩
set_option maxHeartbeats 2000000 in
theorem cwhole_any {w : World} {am ae at' : Option Addr} {cm ce ct : Nat} (s : ScS) (hs : s.name.size ≤ 140737488351232) (h1 : s.msgs.length ≤ 30000) (h2 : s.enums.length ≤ 30000) (h3 : s.methods.length ≤ 30000) :
  Calls Tryz.prog 51 #[.agg #[.string s.name,.slice am s.msgs.length cm,.slice ae s.enums.length ce,.slice at' s.methods.length ct]] w fun e w' => e = .returned (.int .i64 (wholeA s)) ∧ Below w.heap.size w w' := by
 obtain ⟨nm,ms,es,ts⟩ := s
 simp only at *
 have HE : Hid (wholeA ⟨nm,ms,es,ts⟩ = if nameB nm = false then 6 else if ms.length = 0 then 12 else if (10 < ms.length ∨ 6 < es.length ∨ 6 < ts.length) then 4 else 0) := by
  show _ = _; unfold wholeA bigS; simp only [decide_eq_true_eq]
 generalize wholeA ⟨nm,ms,es,ts⟩ = A at *
 generalize ms.length = M at *
 generalize es.length = E at *
 generalize ts.length = T at *
 have hba : Below w.heap.size w (w.alloc (.cells #[.string nm,.slice am M cm,.slice ae E ce,.slice at' T ct] 26)) := (Below.refl _ _).alloc (Nat.le_refl _) _
 have BX := Blk.new w #[.string nm,.slice am M cm,.slice ae E ce,.slice at' T ct] 26
 have key : ∀ w1,Below (w.alloc (.cells #[.string nm,.slice am M cm,.slice ae E ce,.slice at' T ct] 26)).heap.size (w.alloc (.cells #[.string nm,.slice am M cm,.slice ae E ce,.slice at' T ct] 26)) w1 → Below w.heap.size w w1 := fun w1 h => hba.trans (h.mono hba.size)
 cases hn : nameB nm
 ·rw [hn,if_pos rfl] at HE
  go_enter Tryz.func51,Tryz.ntmps51
  go_wp2_with fail
  refine (name_any _ _ hs).mono ?_
  rintro e w1 ⟨rfl,hb1⟩
  rw [hn]
  go_wp2_with fail
  go_ret
  exact ⟨ret_int HE.out.symm,key _ hb1⟩
 ·rw [hn,if_neg (by decide)] at HE
  by_cases h0 : M = 0
  ·rw [if_pos h0] at HE
   subst h0
   go_enter Tryz.func51,Tryz.ntmps51
   go_wp2_with fail
   refine (name_any _ _ hs).mono ?_
   rintro e w1 ⟨rfl,hb1⟩
   rw [hn]
   have b1 : w1.cell? ⟨w.heap.size,1,none⟩ = some (.slice am 0 cm) := (BX.below hb1).cell 1
   go_wp2_with fail
   go_ret
   exact ⟨ret_int HE.out.symm,key _ hb1⟩
  ·rw [if_neg h0] at HE
   have h0' : ((M : Int) == 0) = false := by simpa using h0
   have body : ∀ V : Int,(if (10 < M ∨ 6 < E ∨ 6 < T) then (4 : Int) else 0) = V → A = V := fun V h => HE.out.trans h
   clear HE
   have HBd : Hid (∀ V : Int,(if (10 < M ∨ 6 < E ∨ 6 < T) then (4 : Int) else 0) = V → A = V) := body
   clear body
   go_enter Tryz.func51,Tryz.ntmps51
   go_wp2_with fail
   refine (name_any _ _ hs).mono ?_
   rintro e w1 ⟨rfl,hb1⟩
   rw [hn]
   have b1 : w1.cell? ⟨w.heap.size,1,none⟩ = some (.slice am M cm) := (BX.below hb1).cell 1
   have b2 : w1.cell? ⟨w.heap.size,2,none⟩ = some (.slice ae E ce) := (BX.below hb1).cell 2
   have b3 : w1.cell? ⟨w.heap.size,3,none⟩ = some (.slice at' T ct) := (BX.below hb1).cell 3
   have HK : Hid (Below w.heap.size w w1) := key _ hb1
   clear key hb1 BX hba
   by_cases g1 : 10 < M
   ·go_wp2_with fail
    go_ret
    exact ⟨ret_int (HBd.out 4 (if_pos (.inl g1))).symm,HK.out⟩
   ·by_cases g2 : 6 < E
    ·go_wp2_with fail
     go_ret
     exact ⟨ret_int (HBd.out 4 (if_pos (.inr (.inl g2)))).symm,HK.out⟩
    ·by_cases g3 : 6 < T
     ·go_wp2_with fail
      go_ret
      exact ⟨ret_int (HBd.out 4 (if_pos (.inr (.inr g3)))).symm,HK.out⟩
     ·go_wp2_with fail
      go_ret
      exact ⟨ret_int (HBd.out 0 (if_neg (by omega))).symm,HK.out⟩
theorem SetK.perm {k : TypeId} {w : World} {b n : Nat} {L L' : List Value} (h : SetK k w b n L) (hp : ∀ v,v ∈ L ↔ v ∈ L') : SetK k w b n L' := by
 obtain ⟨D,h1,h2⟩ := h
 exact ⟨D,h1,fun v kl hv => (h2 v kl hv).trans (hp v)⟩
theorem ins_wp {ops : Array Oper} {Q : Exit → Act → World → Prop} {K : Act → World → Prop} {a : Act} {w : World} {i : Nat} {o : Oper} {m kt vt b n : Nat} {L : List (Int × ByteArray)} {p : Int × ByteArray} (hi : ops[i]? = some o) (hg : o.guard = none) (hd : o.dst = none)
  (hop : o.op = .insert 98 (.tmp m) (.tmp kt) (.tmp vt)) (hm : a.eval (.tmp m) = .map (some b)) (hk : a.eval (.tmp kt) = tyV p) (hv : a.eval (.tmp vt) = .agg #[]) (hp : I64 p.1) (hps : p.2.size ≤ 140737488351232)
  (hS : SetT w b n L) (hn : n < 1000000) (hK : ∀ w',SetT w' b (n + 1) (L ++ [p]) → w.grownBy w' (some b) → K a w') : wpOp Tryz.prog ops Q i K a w := by
 obtain ⟨D,hown,h2⟩ := hS
 obtain ⟨kl,hkey⟩ := key_ty hp hps
 obtain ⟨w',hrun,r1,r2⟩ := hown.update lawT Tryz.underlying98 (by unfold maxLen; omega) hkey (unitElem_mk (H := Unit))
 have hS' : SetT w' b (n + 1) (L ++ [p]) := by
  have := SetK.put lawT hown.isMap h2 hkey r1
  unfold SetT
  rw [List.map_append]
  exact this
 unfold wpOp
 simp only [hi]
 have hwt : Region.wanted o (yielded ops a.tmps) = true := by unfold Region.wanted; rw [hg]
 rw [if_pos hwt]
 refine .inl ?_
 unfold Oper.wp
 simp [execOp,hop,hm,hk,hv,hrun,Result.andThen,hd]
 rw [Oper.upon_skip,hd]
 exact hK w' hS' r2
def five (b1 b2 b3 b4 b5 : Bool) : List (Int × ByteArray) := (if b1 then [(1,⟨#[]⟩)] else []) ++ (if b2 then [(2,⟨#[]⟩)] else []) ++ (if b3 then [(3,⟨#[]⟩)] else []) ++ (if b4 then [(4,⟨#[]⟩)] else []) ++ (if b5 then [(5,⟨#[]⟩)] else [])
def lst5 (b1 b2 b3 b4 b5 : Bool) : Array Bool := #[true,true,true,b1,true,true,b2,true,true,b3,true,true,b4,true,true,b5,false,false]
def rd5 (b1 b2 b3 b4 b5 : Bool) : List Nat := if b1 && b2 && b3 && b4 && b5 then [16] else (if b1 then [] else [3]) ++ (if b2 then [] else [6]) ++ (if b3 then [] else [9]) ++ (if b4 then [] else [12]) ++ (if b5 then [] else [15])
def cnt5 (b1 b2 b3 b4 b5 : Bool) : Nat := (if b1 then 0 else 1) + (if b2 then 0 else 1) + (if b3 then 0 else 1) + (if b4 then 0 else 1) + (if b5 then 0 else 1)
theorem rd5_mem : ∀ (b1 b2 b3 b4 b5 : Bool),cnt5 b1 b2 b3 b4 b5 ≠ 0 → ∀ i ∈ rd5 b1 b2 b3 b4 b5,(i = 3 ∧ b1 = false) ∨ (i = 6 ∧ b2 = false) ∨ (i = 9 ∧ b3 = false) ∨ (i = 12 ∧ b4 = false) ∨ (i = 15 ∧ b5 = false) := by
 intro b1 b2 b3 b4 b5
 cases b1 <;> cases b2 <;> cases b3 <;> cases b4 <;> cases b5 <;> simp [rd5,cnt5]
theorem rd5_ne : ∀ (b1 b2 b3 b4 b5 : Bool),rd5 b1 b2 b3 b4 b5 ≠ [] := by decide
theorem mem5 {p : Int × ByteArray} {b1 b2 b3 b4 b5 : Bool} : p ∈ five b1 b2 b3 b4 b5 ↔ (b1 = true ∧ p = (1,⟨#[]⟩)) ∨ (b2 = true ∧ p = (2,⟨#[]⟩)) ∨ (b3 = true ∧ p = (3,⟨#[]⟩)) ∨ (b4 = true ∧ p = (4,⟨#[]⟩)) ∨ (b5 = true ∧ p = (5,⟨#[]⟩)) := by
 cases b1 <;> cases b2 <;> cases b3 <;> cases b4 <;> cases b5 <;> simp [five]
theorem setT_perm {w : World} {b n : Nat} {L L' : List (Int × ByteArray)} (h : SetT w b n L) (hp : ∀ v,v ∈ L ↔ v ∈ L') : SetT w b n L' := by
 refine SetK.perm h fun v => ?_
 simp only [List.mem_map]
 constructor
 ·rintro ⟨p,h1,h2⟩; exact ⟨p,(hp p).1 h1,h2⟩
 ·rintro ⟨p,h1,h2⟩; exact ⟨p,(hp p).2 h1,h2⟩
theorem rg_five {ops : Array Oper} {Q : Exit → Act → World → Prop} {a : Act} {b B : Nat} {w0 : World} {o3 o6 o9 o12 o15 : Oper} (hB : B ≤ b)
  (h3 : ops[3]? = some o3) (g3 : o3.guard = none) (d3 : o3.dst = none) (p3 : o3.op = .insert 98 (.tmp 8) (.tmp 9) (.tmp 10))
  (h6 : ops[6]? = some o6) (g6 : o6.guard = none) (d6 : o6.dst = none) (p6 : o6.op = .insert 98 (.tmp 8) (.tmp 11) (.tmp 12))
  (h9 : ops[9]? = some o9) (g9 : o9.guard = none) (d9 : o9.dst = none) (p9 : o9.op = .insert 98 (.tmp 8) (.tmp 13) (.tmp 14))
  (h12 : ops[12]? = some o12) (g12 : o12.guard = none) (d12 : o12.dst = none) (p12 : o12.op = .insert 98 (.tmp 8) (.tmp 15) (.tmp 16))
  (h15 : ops[15]? = some o15) (g15 : o15.guard = none) (d15 : o15.dst = none) (p15 : o15.op = .insert 98 (.tmp 8) (.tmp 17) (.tmp 18))
  (hm : a.eval (.tmp 8) = .map (some b)) (k1 : a.eval (.tmp 9) = tyV (1,⟨#[]⟩)) (v1 : a.eval (.tmp 10) = .agg #[]) (k2 : a.eval (.tmp 11) = tyV (2,⟨#[]⟩)) (v2 : a.eval (.tmp 12) = .agg #[]) (k3 : a.eval (.tmp 13) = tyV (3,⟨#[]⟩)) (v3 : a.eval (.tmp 14) = .agg #[])
  (k4 : a.eval (.tmp 15) = tyV (4,⟨#[]⟩)) (v4 : a.eval (.tmp 16) = .agg #[]) (k5 : a.eval (.tmp 17) = tyV (5,⟨#[]⟩)) (v5 : a.eval (.tmp 18) = .agg #[])
  (hrd : ∀ b1 b2 b3 b4 b5,Region.ready .any ops (lst5 b1 b2 b3 b4 b5) = rd5 b1 b2 b3 b4 b5)
  (fin : ∀ w n,n ≤ 5 → Below B w0 w → SetT w b n (five true true true true true) → wpAnyH Tryz.prog .any ops Q (fun _ => True) 2 (lst5 true true true true true) a w) :
  ∀ (n m : Nat) (b1 b2 b3 b4 b5 : Bool),cnt5 b1 b2 b3 b4 b5 = n → m + n ≤ 5 → ∀ w,B ≤ w.heap.size → Below B w0 w → SetT w b m (five b1 b2 b3 b4 b5) → wpAnyH Tryz.prog .any ops Q (fun _ => True) (n + 2) (lst5 b1 b2 b3 b4 b5) a w
 | 0,m,b1,b2,b3,b4,b5,hc,hmn,w,hw,hbel,hS => by
  have : b1 = true ∧ b2 = true ∧ b3 = true ∧ b4 = true ∧ b5 = true := by
   revert hc; cases b1 <;> cases b2 <;> cases b3 <;> cases b4 <;> cases b5 <;> simp [cnt5]
  obtain ⟨rfl,rfl,rfl,rfl,rfl⟩ := this
  exact fin w m (by omega) hbel hS
 | n + 1,m,b1,b2,b3,b4,b5,hc,hmn,w,hw,hbel,hS => by
  have ih := rg_five hB h3 g3 d3 p3 h6 g6 d6 p6 h9 g9 d9 p9 h12 g12 d12 p12 h15 g15 d15 p15 hm k1 v1 k2 v2 k3 v3 k4 v4 k5 v5 hrd fin n (m + 1)
  refine ⟨fun h => absurd ((hrd b1 b2 b3 b4 b5).symm.trans h) (rd5_ne b1 b2 b3 b4 b5),fun i hi => ?_⟩
  rw [hrd] at hi
  have hgb : ∀ w',w.grownBy w' (some b) → Below B w0 w' := fun w' hg => hbel.grown hg hw (fun j hj => by cases hj; exact hB)
  have hgs : ∀ w',w.grownBy w' (some b) → B ≤ w'.heap.size := fun w' hg => Nat.le_trans hw hg.size
  rcases rd5_mem b1 b2 b3 b4 b5 (by omega) i hi with ⟨rfl,rfl⟩ | ⟨rfl,rfl⟩ | ⟨rfl,rfl⟩ | ⟨rfl,rfl⟩ | ⟨rfl,rfl⟩
  ·refine ins_wp (p := (1,⟨#[]⟩)) h3 g3 d3 p3 hm k1 v1 ⟨by decide,by decide⟩ (by decide) hS (by omega) (fun w' hS' hg => ⟨trivial,?_⟩)
   exact ih true b2 b3 b4 b5 (by revert hc; unfold cnt5; simp only [if_true,if_false,Bool.false_eq_true]; omega) (by omega) w' (hgs w' hg) (hgb w' hg) (setT_perm hS' (fun v => by rw [List.mem_append,mem5,mem5]; simp [or_comm,or_left_comm,or_assoc]))
  ·refine ins_wp (p := (2,⟨#[]⟩)) h6 g6 d6 p6 hm k2 v2 ⟨by decide,by decide⟩ (by decide) hS (by omega) (fun w' hS' hg => ⟨trivial,?_⟩)
   exact ih b1 true b3 b4 b5 (by revert hc; unfold cnt5; simp only [if_true,if_false,Bool.false_eq_true]; omega) (by omega) w' (hgs w' hg) (hgb w' hg) (setT_perm hS' (fun v => by rw [List.mem_append,mem5,mem5]; simp [or_comm,or_left_comm,or_assoc]))
  ·refine ins_wp (p := (3,⟨#[]⟩)) h9 g9 d9 p9 hm k3 v3 ⟨by decide,by decide⟩ (by decide) hS (by omega) (fun w' hS' hg => ⟨trivial,?_⟩)
   exact ih b1 b2 true b4 b5 (by revert hc; unfold cnt5; simp only [if_true,if_false,Bool.false_eq_true]; omega) (by omega) w' (hgs w' hg) (hgb w' hg) (setT_perm hS' (fun v => by rw [List.mem_append,mem5,mem5]; simp [or_comm,or_left_comm,or_assoc]))
  ·refine ins_wp (p := (4,⟨#[]⟩)) h12 g12 d12 p12 hm k4 v4 ⟨by decide,by decide⟩ (by decide) hS (by omega) (fun w' hS' hg => ⟨trivial,?_⟩)
   exact ih b1 b2 b3 true b5 (by revert hc; unfold cnt5; simp only [if_true,if_false,Bool.false_eq_true]; omega) (by omega) w' (hgs w' hg) (hgb w' hg) (setT_perm hS' (fun v => by rw [List.mem_append,mem5,mem5]; simp [or_comm,or_left_comm,or_assoc]))
  ·refine ins_wp (p := (5,⟨#[]⟩)) h15 g15 d15 p15 hm k5 v5 ⟨by decide,by decide⟩ (by decide) hS (by omega) (fun w' hS' hg => ⟨trivial,?_⟩)
   exact ih b1 b2 b3 b4 true (by revert hc; unfold cnt5; simp only [if_true,if_false,Bool.false_eq_true]; omega) (by omega) w' (hgs w' hg) (hgb w' hg) (setT_perm hS' (fun v => by rw [List.mem_append,mem5,mem5]; simp [or_comm,or_left_comm,or_assoc]))
end
end Go.Proofs.YtfnjbbaphmmjlaaGreat

/- Part 6 of what the proof stands on. -/
import Derived.Test.YtmgbhicogmclgaaPkDAE
namespace Go.Proofs.Ytmgbhicogmclgaa
set_option maxHeartbeats 8000000
set_option linter.unusedVariables false
set_option linter.unusedSimpArgs false
set_option maxRecDepth 20000
section
open Go.ChangeShapes Go.WideShapes Go.ChangeAt Go.RowKit
theorem Kp.sm {S : Nat → Prop} {w w' : World} {bs : List Nat} (h : Kp S w w') (hb : ∀ k ∈ bs,k < w.heap.size ∧ ¬ S k) : Sm w w' bs := fun k hk => h.block k (hb k hk).1 (hb k hk).2
theorem Apt.right {B : Nat} {w : World} {a b : List Nat} (h : Apt B w (a ++ b)) : Apt B w b := h.of_count fun k => by simp only [List.count_append]; omega
theorem push_row {α : Type} {P : World → List Value → α → List Nat → Prop} {B e size bytes : Nat} {W : World} {v : Value} {xs : List α} {rows : List (List Value)} {bss : List (List Nat)} {r : List Value} {x : α} {b more : List Nat} {bz : Nat} {t : TypeId} {z : Value}
  (ht : Try.prog.underlying t = some (.slice e)) (hinfo : (Try.prog.info? e).map (fun i => (i.zero,i.size,i.bytes)) = some (some z,size,bytes)) (hzs : z.cells.size = size) (hsz : 0 < size) (hrow : RowO P B e size W v xs rows bss) (hap : Apt B W (more ++ (allB v bss ++ b))) (hP : P W r x b) (hr : r.length = size) (h1 : ∀ u ∈ r,u.oneCell' = true)
  (loc : ∀ w' r x b,P W r x b → Sm W w' b → P w' r x b) (BE : Blk W bz r.toArray e) (hn : xs.length ≤ 1000) (hby : bytes ≤ 1000) (hB : B ≤ W.heap.size) :
  ∃ v' W',(Builtin.append_ #[t,t] t #[v,.slice (some ⟨bz,0,none⟩) 1 1]).run Try.prog W = .ok v' W' ∧ RowO P B e size W' v' (xs ++ [x]) (rows ++ [r]) (bss ++ [b]) ∧ Apt B W' (more ++ allB v' (bss ++ [b])) ∧ (∃ a c,v' = .slice a (xs.length + 1) c) ∧ Kp (fun q => q ∈ blkOf v) W W' := by
 obtain ⟨i0,hi0,hz0,hz1,hz2⟩ := info_parts hinfo
 obtain ⟨v',W',r1,r2,r3,_,r5⟩ := run_append_own_at W B t t e i0 z size bytes ht hi0 hz0 hz1 hz2 hzs hsz v xs.length _ hrow.own ⟨bz,0,none⟩ 1 1 r (by rw [hr,Nat.one_mul]) (fun j u hu => by
  have := BE.cell j;rw [Addr.add_lit,Nat.zero_add,this]
  simpa using hu) h1 (by unfold maxLen; omega) (by
   have : (xs.length + 1) * bytes ≤ 1001 * 1000 := Nat.mul_le_mul (by omega) hby
   omega) hB
 obtain ⟨a,c,hv⟩ := own_form r2;refine ⟨v',W',r1,hrow.push hap.right r2 r3 hP hr (fun r x b hp hs => loc W' r x b hp hs),hap.push r5 r2 r3.size hB,⟨a,c,hv⟩,?_⟩;exact (Kp.refl _ _).grown r3 (fun k hk _ => mem_blkOf.2 hk)
abbrev ZT : Array Value := #[.int .i64 0,.int .i64 0,.string ⟨#[]⟩,.slice none 0 0,.slice none 0 0]
structure FtS (n b0 bt bm ba : Nat) (SC MC : Array Value) (a : Nat) (ve : Value) (es : List (Int × List Tr)) (rows : List (List Value)) (bss : List (List Nat)) (w : World) : Prop where
 row : RowO (EtO (TrO n b0) b0) b0 57 2 w ve es rows bss
 tb : Blk w bt #[.int .i64 3,.int .i64 0,.string ⟨#[]⟩,ve,.slice none 0 0] 30
 sb : Blk w b0 SC 26
 rb : Blk w (b0 + 1) ZT 30
 mb : Blk w bm MC 46
 ab : Blk w ba #[.int .i64 (a : Int)] 3
 lt : ba < b0
def fpO (b0 bt bm : Nat) (ve : Value) (bss : List (List Nat)) : List Nat := [b0,b0 + 1,bm,bt] ++ allB ve bss
theorem FtS.sm {n b0 bt bm ba : Nat} {SC MC : Array Value} {a a' : Nat} {ve : Value} {es : List (Int × List Tr)} {rows : List (List Value)} {bss : List (List Nat)} {w w' : World} (h : FtS n b0 bt bm ba SC MC a ve es rows bss w)
  (hs : Sm w w' (fpO b0 bt bm ve bss)) (hb : Blk w' ba #[.int .i64 (a' : Int)] 3) : FtS n b0 bt bm ba SC MC a' ve es rows bss w' :=
 ⟨h.row.sm (hs.mono fun k hk => by simp [fpO,hk]) fun _ _ _ hp hb => hp.sm hb,(hs bt (by simp [fpO])).trans h.tb,(hs b0 (by simp [fpO])).trans h.sb,(hs (b0 + 1) (by simp [fpO])).trans h.rb,(hs bm (by simp [fpO])).trans h.mb,hb,h.lt⟩
theorem FtS.below {n b0 bt bm ba : Nat} {SC MC : Array Value} {a : Nat} {ve : Value} {es : List (Int × List Tr)} {rows : List (List Value)} {bss : List (List Nat)} {w w' : World} (h : FtS n b0 bt bm ba SC MC a ve es rows bss w) (hap : Apt b0 w (fpO b0 bt bm ve bss)) (hb : Below w.heap.size w w') : FtS n b0 bt bm ba SC MC a ve es rows bss w' :=
 h.sm (Sm.below hb fun k hk => (hap.2 k hk).2) (h.ab.below hb)
theorem FtS.at' {n b0 bt bm ba : Nat} {SC MC : Array Value} {a a' : Nat} {ve : Value} {es : List (Int × List Tr)} {rows : List (List Value)} {bss : List (List Nat)} {w w' : World} (h : FtS n b0 bt bm ba SC MC a ve es rows bss w) (hap : Apt b0 w (fpO b0 bt bm ve bss)) (hk : Kp (fun q => q = ba) w w') (hb : Blk w' ba #[.int .i64 (a' : Int)] 3) : FtS n b0 bt bm ba SC MC a' ve es rows bss w' :=
 h.sm (hk.sm fun k hk => ⟨(hap.2 k hk).2,fun e => by have := (hap.2 k hk).1; have := h.lt; omega⟩) hb
structure InS (n b0 bt bm ba be bf : Nat) (SC MC LC : Array Value) (tg : Int) (a : Nat) (ve : Value) (es : List (Int × List Tr)) (rows : List (List Value)) (bss : List (List Nat)) (vt : Value) (ts : List Tr) (rows' : List (List Value)) (bss' : List (List Nat)) (w : World) : Prop where
 ft : FtS n b0 bt bm ba SC MC a ve es rows bss w
 tr : RowO (TrO n b0) b0 30 5 w vt ts rows' bss'
 eb : Blk w be #[.int .i64 tg,vt] 57
 fb : Blk w bf LC 54
 ap : Apt b0 w (fpO b0 bt bm ve bss ++ ([bf,be] ++ allB vt bss'))
section
variable {n b0 bt bm ba be bf : Nat} {SC MC LC : Array Value} {tg : Int} {a : Nat} {ve : Value} {es : List (Int × List Tr)} {rows : List (List Value)} {bss : List (List Nat)} {vt : Value} {ts : List Tr} {rows' : List (List Value)} {bss' : List (List Nat)} {w w' : World}
theorem InS.sm {a' : Nat} (h : InS n b0 bt bm ba be bf SC MC LC tg a ve es rows bss vt ts rows' bss' w) (hs : Sm w w' (fpO b0 bt bm ve bss ++ ([bf,be] ++ allB vt bss'))) (hz : w.heap.size ≤ w'.heap.size) (hb : Blk w' ba #[.int .i64 (a' : Int)] 3) :
  InS n b0 bt bm ba be bf SC MC LC tg a' ve es rows bss vt ts rows' bss' w' :=
 ⟨h.ft.sm (hs.mono fun k hk => List.mem_append.2 (.inl hk)) hb,h.tr.sm (hs.mono fun k hk => by simp [hk]) fun _ _ _ hp hb => hp.sm hb,(hs be (by simp)).trans h.eb,(hs bf (by simp)).trans h.fb,h.ap.mono hz⟩
theorem InS.below (h : InS n b0 bt bm ba be bf SC MC LC tg a ve es rows bss vt ts rows' bss' w) (hb : Below w.heap.size w w') : InS n b0 bt bm ba be bf SC MC LC tg a ve es rows bss vt ts rows' bss' w' :=
 h.sm (Sm.below hb fun k hk => (h.ap.2 k hk).2) hb.size (h.ft.ab.below hb)
theorem InS.at' {a' : Nat} (h : InS n b0 bt bm ba be bf SC MC LC tg a ve es rows bss vt ts rows' bss' w) (hk : Kp (fun q => q = ba) w w') (hb : Blk w' ba #[.int .i64 (a' : Int)] 3) : InS n b0 bt bm ba be bf SC MC LC tg a' ve es rows bss vt ts rows' bss' w' :=
 h.sm (hk.sm fun k hk => ⟨(h.ap.2 k hk).2,fun e => by have := (h.ap.2 k hk).1; have := h.ft.lt; omega⟩) hk.size hb
theorem InS.new (h : FtS n b0 bt bm ba SC MC a ve es rows bss w) (hap : Apt b0 w (fpO b0 bt bm ve bss ++ [bf,be])) (he : Blk w be #[.int .i64 tg,.slice none 0 0] 57) (hf : Blk w bf LC 54) : InS n b0 bt bm ba be bf SC MC LC tg a ve es rows bss (.slice none 0 0) [] [] [] w :=
 ⟨h,RowO.nil _ _ _ _ _,he,hf,by simpa [allB,blkOf,Value.ownBlock] using hap⟩
theorem InS.pushT (h : InS n b0 bt bm ba be bf SC MC LC tg a ve es rows bss vt ts rows' bss' w) {r : List Value} {x : Tr} {bs : List Nat} {bz : Nat} (hO : TrO n b0 w r x bs) (hr5 : r.length = 5) (hr1 : ∀ u ∈ r,u.oneCell' = true) (hap : Apt b0 w ((fpO b0 bt bm ve bss ++ ([bf,be] ++ allB vt bss')) ++ bs)) (BZ : Blk w bz r.toArray 30) (hl : ts.length ≤ 100) :
  ∃ v' W',(Builtin.append_ #[55,55] 55 #[vt,.slice (some ⟨bz,0,none⟩) 1 1]).run Try.prog w = .ok v' W' ∧ (∃ a c,v' = .slice a (ts.length + 1) c) ∧ Blk W' be #[.int .i64 tg,vt] 57 ∧ Kp (fun q => b0 ≤ q) w (W'.setCell ⟨be,1,none⟩ v') ∧
   InS n b0 bt bm ba be bf SC MC LC tg a ve es rows bss v' (ts ++ [x]) (rows' ++ [r]) (bss' ++ [bs]) (W'.setCell ⟨be,1,none⟩ v') := by
 have hB0 : b0 ≤ w.heap.size := by have := (h.ap.2 b0 (by simp [fpO])); omega
 obtain ⟨v',W',r1,r2,r3,r4,r5⟩ := push_row (P := TrO n b0) (t := 55) (more := fpO b0 bt bm ve bss ++ [bf,be]) Try.underlying55 infoTr rfl (by decide) h.tr (by simpa only [List.append_assoc] using hap) hO hr5 hr1 (fun _ _ _ _ hp hs => hp.sm hs) BZ (by omega) (by decide) hB0;have hno : ∀ k ∈ fpO b0 bt bm ve bss ++ [bf,be],k ∉ blkOf vt := fun k hk hq => (h.ap.of_count (cs := (fpO b0 bt bm ve bss ++ [bf,be]) ++ allB vt bss') fun q => by simp only [List.count_append]; omega).apart k hk (by simp [allB,hq])
 have hs1 : Sm w W' (fpO b0 bt bm ve bss ++ [bf,be]) := r5.sm fun k hk => ⟨(h.ap.2 k (by simp only [List.mem_append] at hk ⊢; rcases hk with hk | hk; exact .inl hk; exact .inr (.inl hk))).2,hno k hk⟩
 have hgeb : ∀ k ∈ blkOf vt,b0 ≤ k := fun k hk => (own_lt h.tr.own (mem_blkOf.1 hk)).1
 have BA1 : Blk W' ba #[.int .i64 (a : Int)] 3 := h.ft.ab.kp r5 (fun e => by have := hgeb ba e; have := h.ft.lt; omega);have BE1 : Blk W' be #[.int .i64 tg,vt] 57 := (hs1 be (by simp)).trans h.eb;have hbe0 : b0 ≤ be := (h.ap.2 be (by simp)).1
 have KS : Kp (fun q => q = be) W' (W'.setCell ⟨be,1,none⟩ v') := by
  refine Kp.setCell ?_ (fun _ => by simp) _;exact Kp.refl _ _
 have hnb : ∀ k ∈ (fpO b0 bt bm ve bss ++ [bf]) ++ allB v' (bss' ++ [bs]),k ≠ be := fun k hk e => by
  subst e;exact (r3.of_count (cs := ((fpO b0 bt bm ve bss ++ [bf]) ++ allB v' (bss' ++ [bs])) ++ [k]) fun q => by simp only [List.count_append,List.count_cons,List.count_nil]; omega).apart k hk (by simp)
 have hs2 : Sm W' (W'.setCell ⟨be,1,none⟩ v') ((fpO b0 bt bm ve bss ++ [bf]) ++ allB v' (bss' ++ [bs])) := KS.sm fun k hk => ⟨(r3.2 k (by simp only [List.mem_append] at hk ⊢; rcases hk with (hk | hk) | hk; exact .inl (.inl hk); exact .inl (.inr (by simp at hk; simp [hk])); exact .inr hk)).2,hnb k hk⟩
 have hk2 : Kp (fun q => b0 ≤ q) w (W'.setCell ⟨be,1,none⟩ v') := (r5.weak fun i _ hi => hgeb i hi).trans (KS.weak fun i _ hi => by omega);refine ⟨v',W',r1,r4,BE1,hk2,?_⟩;have ft1 : FtS n b0 bt bm ba SC MC a ve es rows bss W' := h.ft.sm (hs1.mono fun k hk => List.mem_append.2 (.inl hk)) BA1;refine ⟨ft1.sm (hs2.mono fun k hk => by simp [hk]) (BA1.kp KS (fun e => by have := h.ft.lt; omega)),r2.sm (hs2.mono fun k hk => by simp [hk]) fun _ _ _ hp hb => hp.sm hb,BE1.set 1 _ rfl,(hs2 bf (by simp)).trans ((hs1 bf (by simp)).trans h.fb),?_⟩
 exact (r3.mono KS.size).of_count fun k => by simp only [List.count_append]; omega
theorem InS.pushE (h : InS n b0 bt bm ba be bf SC MC LC tg a ve es rows bss vt ts rows' bss' w) {bz : Nat} (h64 : Is64 tg) (BZ : Blk w bz #[.int .i64 tg,vt] 57) (hl : es.length ≤ 100) (h1 : vt.oneCell' = true) :
  ∃ v' W',(Builtin.append_ #[27,27] 27 #[ve,.slice (some ⟨bz,0,none⟩) 1 1]).run Try.prog w = .ok v' W' ∧ (∃ a c,v' = .slice a (es.length + 1) c) ∧ Blk W' bt #[.int .i64 3,.int .i64 0,.string ⟨#[]⟩,ve,.slice none 0 0] 30 ∧ Kp (fun q => b0 ≤ q) w (W'.setCell ⟨bt,3,none⟩ v') ∧
   FtS n b0 bt bm ba SC MC a v' (es ++ [(tg,ts)]) (rows ++ [[.int .i64 tg,vt]]) (bss ++ [allB vt bss']) (W'.setCell ⟨bt,3,none⟩ v') ∧ Apt b0 (W'.setCell ⟨bt,3,none⟩ v') (fpO b0 bt bm v' (bss ++ [allB vt bss'])) := by
 have hB0 : b0 ≤ w.heap.size := by have := (h.ap.2 b0 (by simp [fpO])); omega
 have hap : Apt b0 w ([b0,b0 + 1,bm,bt] ++ (allB ve bss ++ allB vt bss')) := h.ap.of_count fun k => by simp only [fpO,List.count_append]; omega
 obtain ⟨v',W',r1,r2,r3,r4,r5⟩ := push_row (P := EtO (TrO n b0) b0) (t := 27) (x := (tg,ts)) (r := [.int .i64 tg,vt]) (more := [b0,b0 + 1,bm,bt]) Try.underlying27 infoEt rfl (by decide) h.ft.row hap ⟨vt,rows',bss',rfl,h64,h.tr,rfl⟩ rfl (fun u hu => by
  simp only [List.mem_cons,List.not_mem_nil,or_false] at hu
  rcases hu with rfl | rfl
  ·rfl
  ·exact h1) (fun _ _ _ _ hp hs => hp.sm hs) BZ (by omega) (by decide) hB0
 have hno : ∀ k ∈ [b0,b0 + 1,bm,bt],k ∉ blkOf ve := fun k hk hq => hap.apart k hk (by simp [allB,hq])
 have hs1 : Sm w W' [b0,b0 + 1,bm,bt] := r5.sm fun k hk => ⟨(hap.2 k (List.mem_append.2 (.inl hk))).2,hno k hk⟩
 have hgeb : ∀ k ∈ blkOf ve,b0 ≤ k := fun k hk => (own_lt h.ft.row.own (mem_blkOf.1 hk)).1
 have BA1 : Blk W' ba #[.int .i64 (a : Int)] 3 := h.ft.ab.kp r5 (fun e => by have := hgeb ba e; have := h.ft.lt; omega);have BT1 : Blk W' bt #[.int .i64 3,.int .i64 0,.string ⟨#[]⟩,ve,.slice none 0 0] 30 := (hs1 bt (by simp)).trans h.ft.tb;have hbt0 : b0 ≤ bt := (hap.2 bt (by simp)).1
 have KS : Kp (fun q => q = bt) W' (W'.setCell ⟨bt,3,none⟩ v') := by
  refine Kp.setCell ?_ (fun _ => by simp) _;exact Kp.refl _ _
 have hnb : ∀ k ∈ [b0,b0 + 1,bm] ++ allB v' (bss ++ [allB vt bss']),k ≠ bt := fun k hk e => by
  subst e;exact (r3.of_count (cs := ([b0,b0 + 1,bm] ++ allB v' (bss ++ [allB vt bss'])) ++ [k]) fun q => by simp only [List.count_append,List.count_cons,List.count_nil]; omega).apart k hk (by simp)
 have hs2 : Sm W' (W'.setCell ⟨bt,3,none⟩ v') ([b0,b0 + 1,bm] ++ allB v' (bss ++ [allB vt bss'])) := KS.sm fun k hk => ⟨(r3.2 k (by simp only [List.mem_append] at hk ⊢; rcases hk with hk | hk; exact .inl (by simp at hk ⊢; rcases hk with rfl | rfl | rfl <;> simp); exact .inr hk)).2,hnb k hk⟩
 have hk2 : Kp (fun q => b0 ≤ q) w (W'.setCell ⟨bt,3,none⟩ v') := (r5.weak fun i _ hi => hgeb i hi).trans (KS.weak fun i _ hi => by omega);refine ⟨v',W',r1,r4,BT1,hk2,⟨r2.sm (hs2.mono fun k hk => by simp [hk]) fun _ _ _ hp hb => hp.sm hb,BT1.set 3 _ rfl,(hs2 b0 (by simp)).trans ((hs1 b0 (by simp)).trans h.ft.sb),(hs2 (b0 + 1) (by simp)).trans ((hs1 (b0 + 1) (by simp)).trans h.ft.rb),(hs2 bm (by simp)).trans ((hs1 bm (by simp)).trans h.ft.mb),BA1.kp KS (fun e => by have := h.ft.lt; omega),h.ft.lt⟩,?_⟩;exact r3.mono KS.size
end
theorem own_push {B e size bytes : Nat} {W : World} {v : Value} {n : Nat} {rows : List (List Value)} {r : List Value} {bz : Nat} {t : TypeId} {z : Value}
  (ht : Try.prog.underlying t = some (.slice e)) (hinfo : (Try.prog.info? e).map (fun i => (i.zero,i.size,i.bytes)) = some (some z,size,bytes)) (hzs : z.cells.size = size) (hsz : 0 < size) (how : W.ownsRow B e size v n rows.flatten) (hr : r.length = size) (h1 : ∀ u ∈ r,u.oneCell' = true)
  (BE : Blk W bz r.toArray e) (hn : n ≤ 1000) (hby : bytes ≤ 1000) (hB : B ≤ W.heap.size) :
  ∃ a c W',(Builtin.append_ #[t,t] t #[v,.slice (some ⟨bz,0,none⟩) 1 1]).run Try.prog W = .ok (.slice a (n + 1) c) W' ∧ W'.ownsRow B e size (.slice a (n + 1) c) (n + 1) (rows ++ [r]).flatten ∧ Kp (fun q => v.ownBlock = some q) W W' ∧ ((Value.slice a (n + 1) c).ownBlock = v.ownBlock ∨ (Value.slice a (n + 1) c).ownBlock = some W.heap.size) := by
 obtain ⟨i0,hi0,hz0,hz1,hz2⟩ := info_parts hinfo
 obtain ⟨v',W',r1,r2,r3,_,r5⟩ := run_append_own_at W B t t e i0 z size bytes ht hi0 hz0 hz1 hz2 hzs hsz v n _ how ⟨bz,0,none⟩ 1 1 r (by rw [hr,Nat.one_mul]) (fun j u hu => by
  have := BE.cell j;rw [Addr.add_lit,Nat.zero_add,this]
  simpa using hu) h1 (by unfold maxLen; omega) (by
   have : (n + 1) * bytes ≤ 1001 * 1000 := Nat.mul_le_mul (by omega) hby
   omega) hB
 obtain ⟨a,c,rfl⟩ := own_form r2;refine ⟨a,c,W',r1,by rw [List.flatten_append]; simpa using r2,?_,r5⟩;exact (Kp.refl _ _).grown r3 (fun k hk _ => hk)
theorem p5_chunk : ∀ (n : Nat) (cs : List Value),cs.length = n * 5 → ∃ rows : List (List Value),rows.flatten = cs ∧ rows.length = n ∧ ∀ r ∈ rows,r.length = 5
 | 0,cs,h => ⟨[],by simp at h; simp [h],rfl,by simp⟩
 | n + 1,cs,h => by
  obtain ⟨rows,h1,h2,h3⟩ := p5_chunk n (cs.drop 5) (by rw [List.length_drop]; omega);refine ⟨cs.take 5 :: rows,by rw [List.flatten_cons,h1,List.take_append_drop],by simp [h2],fun r hr => ?_⟩
  rcases List.mem_cons.1 hr with rfl | hr
  ·rw [List.length_take]; omega
  ·exact h3 r hr
theorem p5_cells {w : World} {B ty g n cap : Nat} {rows : List (List Value)} (h : w.ownsRow B ty 5 (.slice (some ⟨g,0,none⟩) n cap) n rows.flatten) (hl : ∀ r ∈ rows,r.length = 5) {j : Nat} (hj : j < rows.length) :
  ∃ v0 v1 v2 v3 v4,w.cell? ⟨g,j * 5,none⟩ = some v0 ∧ w.cell? ⟨g,j * 5 + 1,none⟩ = some v1 ∧ w.cell? ⟨g,j * 5 + 2,none⟩ = some v2 ∧ w.cell? ⟨g,j * 5 + 3,none⟩ = some v3 ∧ w.cell? ⟨g,j * 5 + 4,none⟩ = some v4 ∧ (∀ k,w.frozen? ⟨g,k,none⟩ = false) := by
 obtain ⟨r',hr'⟩ : ∃ r,rows[j]? = some r := ⟨_,List.getElem?_eq_getElem hj⟩;have h5' := hl r' (List.mem_of_getElem? hr')
 have hcell : ∀ k u,r'[k]? = some u → w.cell? ⟨g,j * 5 + k,none⟩ = some u := fun k u hu => by
  have := h.cells (g := g) rfl (j * 5 + k) u (flat_get rows hl j _ hr' k u hu)
  rwa [Addr.add_lit,Nat.zero_add] at this
 match r',h5',hcell with
 | [x0,x1,x2,x3,x4],_,hcell => exact ⟨x0,x1,x2,x3,x4,hcell 0 _ rfl,hcell 1 _ rfl,hcell 2 _ rfl,hcell 3 _ rfl,hcell 4 _ rfl,fun k => h.frozenAt k⟩
structure MsP (n bt : Nat) (F : Nat → Prop) (ve : Value) (es : List (Int × List Tr)) (w : World) : Prop where
 blk : Blk w bt #[.int .i64 3,.int .i64 0,.string ⟨#[]⟩,ve,.slice none 0 0] 30
 row : ∃ rows : List (List Value),w.ownsRow (bt + 1) 57 2 ve es.length rows.flatten ∧ rows.length = es.length ∧ (∀ r ∈ rows,r.length = 2) ∧ ∀ (i : Nat) (e : Int × List Tr),es[i]? = some e → ∃ vt,rows[i]? = some [.int .i64 e.1,vt] ∧ Is64 e.1 ∧ SeeL n w vt e.2 F
 free : ∀ k,ve.ownBlock = some k → ¬ F k
 bfree : ¬ F bt
theorem is64_lit3 : Is64 3 := by constructor <;> decide
theorem is64_lit0 : Is64 0 := by constructor <;> decide
section
variable {n bt b : Nat} {F G S : Nat → Prop} {ve vt : Value} {es : List (Int × List Tr)} {w w0 w1 W0 : World} {s : ScS}
theorem MsP.nil (hb : Blk w bt #[.int .i64 3,.int .i64 0,.string ⟨#[]⟩,.slice none 0 0,.slice none 0 0] 30) (hf : ¬ F bt) : MsP n bt F (.slice none 0 0) [] w := ⟨hb,⟨[],World.ownsRow_nil _ _ _ _,rfl,(fun r hr => by cases hr),fun i e h => by simp at h⟩,(fun k h => by cases h),hf⟩
theorem MsP.size (h : MsP n bt F ve es w) : bt < w.heap.size := h.blk.lt
theorem MsP.kp (h : MsP n bt F ve es w) (hk : Kp S w w1) (h1 : ¬ S bt) (h2 : ∀ k,ve.ownBlock = some k → ¬ S k) (h3 : ∀ k,F k → k < w.heap.size ∧ ¬ S k) (hs : ∀ k,F k → G k) (hg : ∀ k,G k → F k ∨ w.heap.size ≤ k) : MsP n bt G ve es w1 := by
 obtain ⟨rows,r1,r2,r3,r4⟩ := h.row;have hst : Stay F w w1 := Stay.kp hk (fun k e => (h3 k e).1) fun k e => (h3 k e).2
 refine ⟨h.blk.kp hk h1,⟨rows,own_kpT2 r1 hk fun k e1 e2 => h2 k e2 e1,r2,r3,fun i e he => ?_⟩,fun k e hgk => ?_,fun hgb => ?_⟩
 ·obtain ⟨vt,g1,g2,g3⟩ := r4 i e he;exact ⟨vt,g1,g2,(g3.stay hst).more hs⟩
 ·rcases hg k hgk with h4 | h4
  ·exact h.free k e h4
  ·have := (own_lt r1 e).2; omega
 ·rcases hg bt hgb with h4 | h4
  ·exact h.bfree h4
  ·have := h.size; omega
where
 own_kpT2 {S : Nat → Prop} {w w' : World} {base e s n : Nat} {v : Value} {xs : List Value} (h : w.ownsRow base e s v n xs) (hk : Kp S w w') (hs : ∀ k,S k → v.ownBlock ≠ some k) : w'.ownsRow base e s v n xs := by
  refine ⟨h.1,h.2.imp id ?_⟩;rintro ⟨g,cap,cur,rfl,h1,h2,h3⟩;exact ⟨g,cap,cur,rfl,h1,(hk.block g (Array.getElem?_eq_some_iff.1 h2).1 (fun e => hs g e rfl)).trans h2,h3⟩
theorem MsP.below (h : MsP n bt F ve es w) (hb : Below w.heap.size w w1) (hf : ∀ k,F k → k < w.heap.size) : MsP n bt F ve es w1 := h.kp (S := fun _ => False) (Kp.ofBelow hb) (fun e => e) (fun _ _ e => e) (fun k e => ⟨hf k e,fun e => e⟩) (fun _ e => e) fun _ e => .inl e
theorem MsP.call (h : MsP n bt F ve es w) (hK : KnP s W0 w b F) (hk : Kp (fun q => q = b) w w1) (hs : ∀ k,F k → G k) (hg : ∀ k,G k → F k ∨ w.heap.size ≤ k) : MsP n bt G ve es w1 := by
 refine h.kp hk (fun e => hK.neB h.blk e) (fun k e1 e2 => ?_) (fun k e => ⟨(hK.new k e).2,fun e2 => hK.nb (e2 ▸ e)⟩) hs hg;obtain ⟨rows,r1,_⟩ := h.row
 rcases r1.2 with ⟨rfl,_⟩ | ⟨g,cap,cur,rfl,g1,g2,_⟩
 ·cases e1
 ·obtain rfl : g = k := by simpa [Value.ownBlock] using e1
  exact hK.neB g2 e2
theorem MsP.push {tag : Int} {ts : List Tr} {bz : Nat} (h : MsP n bt F ve es w) (hK : KnP s W0 w b F) (hbt : W0.heap.size ≤ bt) (hx : SeeL n w vt ts F) (h64 : Is64 tag) (BZ : Blk w bz #[.int .i64 tag,vt] 57) (hv : vt.oneCell' = true) (hn : es.length ≤ 1000) :
  ∃ a c W',(Builtin.append_ #[27,27] 27 #[ve,.slice (some ⟨bz,0,none⟩) 1 1]).run Try.prog w = .ok (.slice a (es.length + 1) c) W' ∧ Blk W' bt #[.int .i64 3,.int .i64 0,.string ⟨#[]⟩,ve,.slice none 0 0] 30 ∧
   MsP n bt F (.slice a (es.length + 1) c) (es ++ [(tag,ts)]) (W'.setCell ⟨bt,3,none⟩ (.slice a (es.length + 1) c)) ∧ KnP s W0 (W'.setCell ⟨bt,3,none⟩ (.slice a (es.length + 1) c)) b F ∧ Kp (fun q => bt ≤ q ∧ ¬ F q ∧ q ≠ b) w (W'.setCell ⟨bt,3,none⟩ (.slice a (es.length + 1) c)) ∧ Kp (fun q => bt < q) w W' := by
 have hb := h.size;obtain ⟨rows,r1,r2,r3,r4⟩ := h.row
 obtain ⟨a,c,W',p1,p2,p3,p4⟩ := own_push (bytes := 32) (t := 27) Try.underlying27 infoEt rfl (by decide) r1 (r := [.int .i64 tag,vt]) rfl (fun u hu => by
  simp only [List.mem_cons,List.not_mem_nil,or_false] at hu
  rcases hu with rfl | rfl
  ·rfl
  ·exact hv) BZ hn (by decide) hb
 have hbv : ∀ k,ve.ownBlock = some k → bt + 1 ≤ k := fun k hk => (own_lt r1 hk).1
 have hvb : ∀ k,ve.ownBlock = some k → k ≠ b := fun k hk => by
  rcases r1.2 with ⟨rfl,_⟩ | ⟨g,cap,cur,rfl,g1,g2,_⟩
  ·cases hk
  ·obtain rfl : g = k := by simpa [Value.ownBlock] using hk
   exact hK.neB g2
 have hk1 : Kp (fun q => bt ≤ q ∧ ¬ F q ∧ q ≠ b) w W' := p3.weak fun q _ hq => ⟨by have := hbv q hq; omega,h.free q hq,hvb q hq⟩
 have hk2 : Kp (fun q => bt ≤ q ∧ ¬ F q ∧ q ≠ b) w (W'.setCell ⟨bt,3,none⟩ (.slice a (es.length + 1) c)) := Kp.setCell hk1 (fun _ => ⟨Nat.le_refl _,h.bfree,fun e => hK.neB h.blk e⟩) _;have B' := h.blk.kp p3 (fun e => by have := hbv _ e; omega);have k5 : Kp (fun q => q = bt) W' (W'.setCell ⟨bt,3,none⟩ (.slice a (es.length + 1) c)) := Kp.setCell (S := fun q => q = bt) (p := ⟨bt,3,none⟩) (Kp.refl _ _) (fun _ => rfl) _;have hst : Stay F w (W'.setCell ⟨bt,3,none⟩ (.slice a (es.length + 1) c)) := Stay.kp hk2 (fun k e => (hK.new k e).2) fun k e h => h.2.1 e
 refine ⟨a,c,W',p1,B',⟨B'.set 3 _ rfl,⟨rows ++ [[.int .i64 tag,vt]],?_,by simp [r2],fun r hr => ?_,fun i e he => ?_⟩,fun k e hf => ?_,h.bfree⟩,?_,hk2,p3.weak fun q _ hq => by have := hbv q hq; omega⟩
 ·rw [List.length_append];refine MsP.kp.own_kpT2 p2 k5 fun k e1 e2 => ?_
  subst e1;have := (own_lt p2 e2).1
  omega
 ·rcases List.mem_append.1 hr with hr | hr
  ·exact r3 r hr
  ·obtain rfl := List.mem_singleton.1 hr; rfl
 ·by_cases hi : i < es.length
  ·rw [List.getElem?_append_left hi] at he;obtain ⟨vt',g1,g2,g3⟩ := r4 i e he;exact ⟨vt',by rw [List.getElem?_append_left (by omega)]; exact g1,g2,g3.stay hst⟩
  ·rw [List.getElem?_append_right (by omega)] at he
   have hi0 : i - es.length = 0 := by
    cases hj : i - es.length with
    | zero => rfl
    | succ j => rw [hj] at he; simp at he
   rw [hi0] at he
   obtain rfl : (tag,ts) = e := by simpa using he
   exact ⟨vt,by rw [List.getElem?_append_right (by omega),r2,hi0]; rfl,h64,hx.stay hst⟩
 ·rcases p4 with p4 | p4
  ·exact h.free k (p4 ▸ e) hf
  ·rw [p4] at e;have := (hK.new k hf).2;simp only [Option.some.injEq] at e
   omega
 ·exact hK.kp hk2 (fun k e => Nat.le_trans hbt e.1) (fun e => e.2.2 rfl) fun k e h => h.2.1 e
theorem MsP.done (h : MsP n bt F ve es w) (hb : ∀ k,F k → W0.heap.size ≤ k ∧ k < w.heap.size) (hbt : W0.heap.size ≤ bt) : SeeG (n + 1) w [.int .i64 3,.int .i64 0,.string ⟨#[]⟩,ve,.slice none 0 0] ⟨3,0,⟨#[]⟩,es,[]⟩ (fun k => F k ∨ ve.ownBlock = some k) ∧ (∀ k,(F k ∨ ve.ownBlock = some k) → W0.heap.size ≤ k ∧ k < w.heap.size) := by
 obtain ⟨rows,r1,r2,r3,r4⟩ := h.row;refine ⟨fun w' hw' => ?_,fun k hk => ?_⟩
 ·have r1' : w'.ownsRow (bt + 1) 57 2 ve es.length rows.flatten := by
   refine ⟨r1.1,r1.2.imp id ?_⟩;rintro ⟨g,cap,cur,rfl,g1,g2,g3⟩;exact ⟨g,cap,cur,rfl,g1,(hw' g (.inr rfl)).trans g2,g3⟩
  refine ⟨ve,.slice none 0 0,rfl,is64_lit3,is64_lit0,(by show (0 : Nat) ≤ _; omega),(fun f hf => by cases hf),RowG.nil _ _,⟨rows,(RowG.own r3 (by decide) r1').1,r2,fun i e he => ?_⟩,own_pln r1',fun _ _ _ _ e => by cases e⟩;obtain ⟨vt,g1,g2,g3⟩ := r4 i e he;exact ⟨_,g1,vt,rfl,g2,g3 w' (hw'.less fun k e => .inl e)⟩
 ·rcases hk with hk | hk
  ·exact hb k hk
  ·have := own_lt r1 hk
   omega
end
theorem pplaceE_any (a : Option Addr) (N cap : Nat) (w : World) (h1 : N ≤ cap) (h2 : cap ≤ maxLen) (h3 : N = 0 ∨ ∃ g off,a = some ⟨g,off,none⟩) :
  Calls Try.prog 79 #[.slice a N cap] w fun e w' => e = .returned (plV (plOf (.slice a N cap))) ∧ Below w.heap.size w w' := by
 unfold maxLen at h2
 by_cases hN : N = 0
 ·subst hN
  go_enter Try.func79,Try.ntmps79
  go_wp2_with fail;refine bodyPost_ret (results_cell rfl _ _ _ ⟨w.heap.size,0,none⟩ (.agg #[.pointer none,.int .i64 0]) (by go_simp) (by go_simp)) rfl ⟨by simp [plV,plOf],(Below.refl _ _).alloc (Nat.le_refl _) _⟩
 ·obtain ⟨g,off,rfl⟩ : ∃ g off,a = some ⟨g,off,none⟩ := by
   rcases h3 with h | h
   ·exact absurd h hN
   ·exact h
  have hd : ((N : Int) == 0) = false := by simp; omega
  have hp : 0 < N := by omega
  go_enter Try.func79,Try.ntmps79
  go_wp2_with fail;refine bodyPost_ret (results_cell rfl _ _ _ ⟨w.heap.size,0,none⟩ (.agg #[.pointer (some ⟨g,off,none⟩),.int .i64 (N : Int)]) (by go_simp) (by go_simp)) rfl ⟨by simp [plV,plOf,hN],(Below.refl _ _).alloc (Nat.le_refl _) _⟩
theorem pplaceR_any (a : Option Addr) (N cap : Nat) (w : World) (h1 : N ≤ cap) (h2 : cap ≤ maxLen) (h3 : N = 0 ∨ ∃ g off,a = some ⟨g,off,none⟩) :
  Calls Try.prog 80 #[.slice a N cap] w fun e w' => e = .returned (plV (plOf (.slice a N cap))) ∧ Below w.heap.size w w' := by
 unfold maxLen at h2
 by_cases hN : N = 0
 ·subst hN
  go_enter Try.func80,Try.ntmps80
  go_wp2_with fail;refine bodyPost_ret (results_cell rfl _ _ _ ⟨w.heap.size,0,none⟩ (.agg #[.pointer none,.int .i64 0]) (by go_simp) (by go_simp)) rfl ⟨by simp [plV,plOf],(Below.refl _ _).alloc (Nat.le_refl _) _⟩
 ·obtain ⟨g,off,rfl⟩ : ∃ g off,a = some ⟨g,off,none⟩ := by
   rcases h3 with h | h
   ·exact absurd h hN
   ·exact h
  have hd : ((N : Int) == 0) = false := by simp; omega
  have hp : 0 < N := by omega
  go_enter Try.func80,Try.ntmps80
  go_wp2_with fail;refine bodyPost_ret (results_cell rfl _ _ _ ⟨w.heap.size,0,none⟩ (.agg #[.pointer (some ⟨g,off,none⟩),.int .i64 (N : Int)]) (by go_simp) (by go_simp)) rfl ⟨by simp [plV,plOf,hN],(Below.refl _ _).alloc (Nat.le_refl _) _⟩
theorem pidentity_any (K N : Int) (S : ByteArray) (a1 a2 : Option Addr) (n1 c1 n2 c2 : Nat) (w : World) (h1 : n1 ≤ c1) (h2 : c1 ≤ maxLen) (h3 : n1 = 0 ∨ ∃ g off,a1 = some ⟨g,off,none⟩) (h4 : n2 ≤ c2) (h5 : c2 ≤ maxLen) (h6 : n2 = 0 ∨ ∃ g off,a2 = some ⟨g,off,none⟩) :
  Calls Try.prog 47 #[.agg #[.int .i64 K,.int .i64 N,.string S,.slice a1 n1 c1,.slice a2 n2 c2]] w fun e w' => e = .returned (pidV (plOf (.slice a1 n1 c1),plOf (.slice a2 n2 c2))) ∧ Below w.heap.size w w' := by
 obtain ⟨⟨p1,m1⟩,hp1⟩ : ∃ x,plOf (.slice a1 n1 c1) = x := ⟨_,rfl⟩;obtain ⟨⟨p2,m2⟩,hp2⟩ : ∃ x,plOf (.slice a2 n2 c2) = x := ⟨_,rfl⟩
 have HE : Hid (∀ W,Calls Try.prog 79 #[.slice a1 n1 c1] W fun e w' => e = .returned (.agg #[.pointer p1,.int .i64 (m1 : Int)]) ∧ Below W.heap.size W w') := fun W => by
  have := pplaceE_any a1 n1 c1 W h1 h2 h3;rw [hp1] at this;exact this
 have HR : Hid (∀ W,Calls Try.prog 80 #[.slice a2 n2 c2] W fun e w' => e = .returned (.agg #[.pointer p2,.int .i64 (m2 : Int)]) ∧ Below W.heap.size W w') := fun W => by
  have := pplaceR_any a2 n2 c2 W h4 h5 h6;rw [hp2] at this;exact this
 rw [hp1,hp2];clear hp1 hp2 h1 h2 h3 h4 h5 h6;have B0 : Blk ((w.alloc (Obj.cells #[.int .i64 K,.int .i64 N,.string S,.slice a1 n1 c1,.slice a2 n2 c2] 30)).alloc (Obj.cells #[.pointer none,.int .i64 0,.pointer none,.int .i64 0] 113)) w.heap.size #[.int .i64 K,.int .i64 N,.string S,.slice a1 n1 c1,.slice a2 n2 c2] 30 := (Blk.new w _ _).below ((Below.refl _ _).alloc (Nat.le_refl _) _)
 have B1 : Blk ((w.alloc (Obj.cells #[.int .i64 K,.int .i64 N,.string S,.slice a1 n1 c1,.slice a2 n2 c2] 30)).alloc (Obj.cells #[.pointer none,.int .i64 0,.pointer none,.int .i64 0] 113)) (w.heap.size + 1) #[.pointer none,.int .i64 0,.pointer none,.int .i64 0] 113 := by
  have := Blk.new (w.alloc (Obj.cells #[.int .i64 K,.int .i64 N,.string S,.slice a1 n1 c1,.slice a2 n2 c2] 30)) #[.pointer none,.int .i64 0,.pointer none,.int .i64 0] 113
  rwa [show (w.alloc (Obj.cells #[.int .i64 K,.int .i64 N,.string S,.slice a1 n1 c1,.slice a2 n2 c2] 30)).heap.size = w.heap.size + 1 from by simp] at this
 have hb : Below w.heap.size w ((w.alloc (Obj.cells #[.int .i64 K,.int .i64 N,.string S,.slice a1 n1 c1,.slice a2 n2 c2] 30)).alloc (Obj.cells #[.pointer none,.int .i64 0,.pointer none,.int .i64 0] 113)) := ((Below.refl _ _).alloc (Nat.le_refl _) _).alloc (by simp) _
 go_enter Try.func47,Try.ntmps47
 go_wp2_with fail;generalize ((w.alloc (Obj.cells #[.int .i64 K,.int .i64 N,.string S,.slice a1 n1 c1,.slice a2 n2 c2] 30)).alloc (Obj.cells #[.pointer none,.int .i64 0,.pointer none,.int .i64 0] 113)) = W0 at *;obtain ⟨b0,hb0⟩ : ∃ b,w.heap.size = b := ⟨_,rfl⟩;have HBZ : Hid (w.heap.size = b0) := hb0;rw [hb0] at B0 B1;simp only [hb0];clear hb0;have hTb : ∀ W,Below W0.heap.size W0 W → W.cell? ⟨b0,3,none⟩ = some (.slice a1 n1 c1) ∧ W.cell? ⟨b0,4,none⟩ = some (.slice a2 n2 c2) := fun W hW => ⟨(B0.below hW).cell 3,(B0.below hW).cell 4⟩
 refine M_region (T := fun W => W.cell? ⟨b0,3,none⟩ = some (.slice a1 n1 c1) ∧ W.cell? ⟨b0,4,none⟩ = some (.slice a2 n2 c2)) (m := 7) (by kernel_rfl) ?_;have hd : Below W0.heap.size W0 W0.drew := (Below.refl _ _).drew;have hS := hTb _ hd;refine M_take 0 3 (.pointer (some ⟨b0,3,none⟩)) _ rfl rfl (by kernel_rfl) (by kernel_rfl) (by kernel_rfl) (by kernel_rfl) (by kernel_rfl) (fun _ _ _ h => h) (by rfl) (fun w' hw' => ?_) hS (listed' := bts 8 1) (by kernel_rfl) rfl ?_
 ·go_simp
 simp only [zsA,zsZ,zsS];refine M_take 1 4 (.slice a1 n1 c1) _ rfl rfl (by kernel_rfl) (by kernel_rfl) (by kernel_rfl) (by kernel_rfl) (by kernel_rfl) (fun _ _ _ h => h) (by rfl) (fun w' hw' => ?_) hS (listed' := bts 8 3) (by kernel_rfl) rfl ?_
 ·obtain ⟨f3,f4⟩ := hw'; go_simp
 simp only [zsA,zsZ,zsS];refine M_take 3 6 (.pointer (some ⟨b0,4,none⟩)) _ rfl rfl (by kernel_rfl) (by kernel_rfl) (by kernel_rfl) (by kernel_rfl) (by kernel_rfl) (fun _ _ _ h => h) (by rfl) (fun w' hw' => ?_) hS (listed' := bts 8 11) (by kernel_rfl) rfl ?_
 ·go_simp
 simp only [zsA,zsZ,zsS];refine M_take 4 7 (.slice a2 n2 c2) _ rfl rfl (by kernel_rfl) (by kernel_rfl) (by kernel_rfl) (by kernel_rfl) (by kernel_rfl) (fun _ _ _ h => h) (by rfl) (fun w' hw' => ?_) hS (listed' := bts 8 27) (by kernel_rfl) rfl ?_
 ·obtain ⟨f3,f4⟩ := hw'; go_simp
 simp only [zsA,zsZ,zsS];refine M_call 2 5 79 #[.slice a1 n1 c1] rfl rfl (by kernel_rfl) (by rfl) (listed' := bts 8 31) (by kernel_rfl) (fun W => by go_simp) ?_;refine (HE.out _).mono ?_;rintro e W1 ⟨rfl,hb1⟩;have hd1 : Below W0.heap.size W0 W1 := hd.trans (hb1.mono hd.size);have hS := hTb _ hd1;refine ⟨_,rfl,hS,?_⟩;simp only [zsA,zsZ,zsS];refine M_call 5 8 80 #[.slice a2 n2 c2] rfl rfl (by kernel_rfl) (by rfl) (listed' := bts 8 63) (by kernel_rfl) (fun W => by go_simp) ?_;refine (HR.out _).mono ?_;rintro e W2 ⟨rfl,hb2⟩;have hd2 : Below W0.heap.size W0 W2 := hd1.trans (hb2.mono hd1.size);have hS := hTb _ hd2;refine ⟨_,rfl,hS,?_⟩;simp only [zsA,zsZ,zsS];refine M_take 6 9 (.agg #[.pointer p1,.int .i64 (m1 : Int),.pointer p2,.int .i64 (m2 : Int)]) _ rfl rfl (by kernel_rfl) (by kernel_rfl) (by kernel_rfl) (by kernel_rfl) (by kernel_rfl) (fun _ _ _ h => h) (by rfl) (fun w' hw' => ?_) hS (listed' := bts 8 127) (by kernel_rfl) rfl ?_
 ·go_simp
 simp only [zsA,zsZ,zsS];have BR := B1.below hd2;have r0 := (BR.cell 0).trans rfl;have z0 := BR.froz 0;have r1 := (BR.cell 1).trans rfl;have z1 := BR.froz 1;have r2 := (BR.cell 2).trans rfl;have z2 := BR.froz 2;have r3 := (BR.cell 3).trans rfl;have z3 := BR.froz 3;refine M_store 7 ((((W2.setCell ⟨b0 + 1,0,none⟩ (.pointer p1)).setCell ⟨b0 + 1,1,none⟩ (.int .i64 (m1 : Int))).setCell ⟨b0 + 1,2,none⟩ (.pointer p2)).setCell ⟨b0 + 1,3,none⟩ (.int .i64 (m2 : Int))) rfl rfl (by kernel_rfl) (by rfl) (listed' := bts 8 255) (by kernel_rfl) (by go_simp) (by kernel_rfl) ?_;refine M_done (by kernel_rfl) ?_ _;have BR0 : Blk (W2.setCell ⟨b0 + 1,0,none⟩ (.pointer p1)) (b0 + 1) #[.pointer p1,.int .i64 0,.pointer none,.int .i64 0] 113 := BR.set 0 _ rfl;have BR1 : Blk ((W2.setCell ⟨b0 + 1,0,none⟩ (.pointer p1)).setCell ⟨b0 + 1,1,none⟩ (.int .i64 (m1 : Int))) (b0 + 1) #[.pointer p1,.int .i64 (m1 : Int),.pointer none,.int .i64 0] 113 := BR0.set 1 _ rfl;have BR2 : Blk (((W2.setCell ⟨b0 + 1,0,none⟩ (.pointer p1)).setCell ⟨b0 + 1,1,none⟩ (.int .i64 (m1 : Int))).setCell ⟨b0 + 1,2,none⟩ (.pointer p2)) (b0 + 1) #[.pointer p1,.int .i64 (m1 : Int),.pointer p2,.int .i64 0] 113 := BR1.set 2 _ rfl;have BR3 : Blk ((((W2.setCell ⟨b0 + 1,0,none⟩ (.pointer p1)).setCell ⟨b0 + 1,1,none⟩ (.int .i64 (m1 : Int))).setCell ⟨b0 + 1,2,none⟩ (.pointer p2)).setCell ⟨b0 + 1,3,none⟩ (.int .i64 (m2 : Int))) (b0 + 1) #[.pointer p1,.int .i64 (m1 : Int),.pointer p2,.int .i64 (m2 : Int)] 113 := BR2.set 3 _ rfl;have hbe : Below w.heap.size w W2 := hb.trans (hd2.mono hb.size);have hbe0 : Below w.heap.size w (W2.setCell ⟨b0 + 1,0,none⟩ (.pointer p1)) := Below.setCell (p := ⟨b0 + 1,0,none⟩) hbe (by have := HBZ.out; show w.heap.size ≤ b0 + 1; omega) _;have hbe1 : Below w.heap.size w ((W2.setCell ⟨b0 + 1,0,none⟩ (.pointer p1)).setCell ⟨b0 + 1,1,none⟩ (.int .i64 (m1 : Int))) := Below.setCell (p := ⟨b0 + 1,1,none⟩) hbe0 (by have := HBZ.out; show w.heap.size ≤ b0 + 1; omega) _;have hbe2 : Below w.heap.size w (((W2.setCell ⟨b0 + 1,0,none⟩ (.pointer p1)).setCell ⟨b0 + 1,1,none⟩ (.int .i64 (m1 : Int))).setCell ⟨b0 + 1,2,none⟩ (.pointer p2)) := Below.setCell (p := ⟨b0 + 1,2,none⟩) hbe1 (by have := HBZ.out; show w.heap.size ≤ b0 + 1; omega) _;have hbe3 : Below w.heap.size w ((((W2.setCell ⟨b0 + 1,0,none⟩ (.pointer p1)).setCell ⟨b0 + 1,1,none⟩ (.int .i64 (m1 : Int))).setCell ⟨b0 + 1,2,none⟩ (.pointer p2)).setCell ⟨b0 + 1,3,none⟩ (.int .i64 (m2 : Int))) := Below.setCell (p := ⟨b0 + 1,3,none⟩) hbe2 (by have := HBZ.out; show w.heap.size ≤ b0 + 1; omega) _;clear r0 z0 r1 z1 r2 z2 r3 z3 BR0 hbe0 BR1 hbe1 BR2 hbe2 BR hbe hS;generalize ((((W2.setCell ⟨b0 + 1,0,none⟩ (.pointer p1)).setCell ⟨b0 + 1,1,none⟩ (.int .i64 (m1 : Int))).setCell ⟨b0 + 1,2,none⟩ (.pointer p2)).setCell ⟨b0 + 1,3,none⟩ (.int .i64 (m2 : Int))) = W3 at *;have r0 := (BR3.cell 0).trans rfl;have r1 := (BR3.cell 1).trans rfl;have r2 := (BR3.cell 2).trans rfl;have r3 := (BR3.cell 3).trans rfl;go_wp2_with fail;refine bodyPost_ret (results_cell rfl _ _ _ ⟨b0 + 1,0,none⟩ (.agg #[.pointer p1,.int .i64 (m1 : Int),.pointer p2,.int .i64 (m2 : Int)]) (by go_simp) (by go_simp)) rfl ⟨rfl,hbe3⟩
end
section
open Go.ChangeShapes Go.WideShapes Go.ChangeAt Go.RowKit Go.Maps
theorem cfield_any {w : World} {snm : ByteArray} {nm : Int} {am : Option Addr} {M cm : Nat} {vt : Value} {ts : List FlS} (hr : RowG w vt 5 (flRows ts)) :
  Calls Try.prog 81 #[.agg #[.string snm,vt,.slice am M cm],.int .i64 nm] w fun e w' => e = .returned (.tuple #[flV ((ts.find? fun m => decide (m.tag = nm)).getD zeroF),.bool (ts.find? fun m => decide (m.tag = nm)).isSome]) ∧ Below w.heap.size w w' := by
 obtain ⟨a,c,rfl,q1,q2⟩ := hr.form2
 have hN : (flRows ts).length = ts.length := by simp [flRows]
 rw [hN] at hr q1 ⊢;clear hN;obtain ⟨N,hN⟩ : ∃ N,ts.length = N := ⟨_,rfl⟩;rw [hN] at hr q1 ⊢;have HN : Hid (ts.length = N) := hN;have HR : Hid (RowG w (.slice a N c) 5 (flRows ts)) := hr;clear hN hr;obtain ⟨A,hA⟩ : ∃ A,(ts.find? fun m => decide (m.tag = nm)) = A := ⟨_,rfl⟩;rw [hA];have HA : Hid (A = ((ts.drop 0).find? fun m => decide (m.tag = nm))) := hA.symm;clear hA;have BX0 : Blk ((w.alloc (.cells #[.string snm,.slice a N c,.slice am M cm] 46)).alloc (.cells #[.string ⟨#[]⟩,.int .i64 0,.int .i64 0,.int .i64 0,.string ⟨#[]⟩] 54)) w.heap.size #[.string snm,.slice a N c,.slice am M cm] 46 := (Blk.new w _ _).below ((Below.refl _ _).alloc (Nat.le_refl _) _)
 have BR0 : Blk ((w.alloc (.cells #[.string snm,.slice a N c,.slice am M cm] 46)).alloc (.cells #[.string ⟨#[]⟩,.int .i64 0,.int .i64 0,.int .i64 0,.string ⟨#[]⟩] 54)) (w.heap.size + 1) #[.string ⟨#[]⟩,.int .i64 0,.int .i64 0,.int .i64 0,.string ⟨#[]⟩] 54 := by
  have := Blk.new (w.alloc (.cells #[.string snm,.slice a N c,.slice am M cm] 46)) #[.string ⟨#[]⟩,.int .i64 0,.int .i64 0,.int .i64 0,.string ⟨#[]⟩] 54
  rwa [show (w.alloc (.cells #[.string snm,.slice a N c,.slice am M cm] 46)).heap.size = w.heap.size + 1 by simp] at this
 have hb0 : Below w.heap.size w ((w.alloc (.cells #[.string snm,.slice a N c,.slice am M cm] 46)).alloc (.cells #[.string ⟨#[]⟩,.int .i64 0,.int .i64 0,.int .i64 0,.string ⟨#[]⟩] 54)) := ((Below.refl _ _).alloc (Nat.le_refl _) _).alloc (by simp) _
 go_enter Try.func81,Try.ntmps81
 go_wp2_with fail
 go_loopw [11] (fun iv wr => ∃ k : Nat,iv = .int .i64 (k : Int) ∧ k ≤ N ∧ Hid (A = ((ts.drop k).find? fun m => decide (m.tag = nm))) ∧ Below w.heap.size w wr ∧ Blk wr (w.heap.size + 1) #[.string ⟨#[]⟩,.int .i64 0,.int .i64 0,.int .i64 0,.string ⟨#[]⟩] 54) (fun iv _ => N - (intOf iv).toNat)
 case atStart => exact ⟨0,rfl,by omega,HA,hb0,BR0⟩
 case round =>
  obtain ⟨k,rfl,hk,HAk,hbel,BR⟩ := hrel;clear BX0 BR0 hb0;have hlt2 : w.heap.size + 1 < wr.heap.size := BR.lt;have r0 := (BR.cell 0).trans rfl;have z0 := BR.froz 0;have r1 := (BR.cell 1).trans rfl;have z1 := BR.froz 1;have r2 := (BR.cell 2).trans rfl;have z2 := BR.froz 2;have r3 := (BR.cell 3).trans rfl;have z3 := BR.froz 3;have r4 := (BR.cell 4).trans rfl;have z4 := BR.froz 4
  by_cases hlt : k < N
  ·obtain ⟨f,hf⟩ : ∃ n,ts[k]? = some n := ⟨_,List.getElem?_eq_getElem (by rw [HN.out]; exact hlt)⟩
   have hrr : (flRows ts)[k]? = some f.cells := by simp [flRows,hf]
   obtain ⟨g,off,rfl,c1⟩ := (HR.out.below hbel).get hrr;obtain ⟨f0,f1,f2,f3,f4⟩ := f
   have HA2 : Hid (A = if decide (f1 = nm) = true then some ⟨f0,f1,f2,f3,f4⟩ else ((ts.drop (k + 1)).find? fun m => decide (m.tag = nm))) := by
    show _ = _
    rw [HAk.out,drop_at hf,List.find?_cons]
    cases decide (f1 = nm) <;> rfl
   have p0 := c1 0 _ rfl;have p1 := c1 1 _ rfl;have p2 := c1 2 _ rfl;have p3 := c1 3 _ rfl;have p4 := c1 4 _ rfl;simp only [Nat.add_zero] at p0 p1 p2 p3 p4;clear c1 hrr hf HAk
   by_cases he : f1 = nm
   ·subst he;go_wp2_with fail;refine bodyPost_ret (results_two rfl _ _ _ ⟨w.heap.size + 1,0,none⟩ (.agg #[.string f0,.int .i64 f1,.int .i64 f2,.int .i64 f3,.string f4]) (by go_simp) (by go_simp)) rfl ?_;exact ⟨ret_two (by rw [HA2.out,if_pos (by simp)]; rfl) (by rw [HA2.out,if_pos (by simp)]; rfl),(Below.alloc (Below.setCell (Below.setCell (Below.setCell (Below.setCell (Below.setCell hbel (by simp) _) (by simp) _) (by simp) _) (by simp) _) (by simp) _) (by simp; omega) _)⟩
   ·have hq : (f1 == nm) = false := by simpa using he
    have HA3 : Hid (A = ((ts.drop (k + 1)).find? fun m => decide (m.tag = nm))) := by show _ = _; rw [HA2.out,if_neg (by simpa using he)]
    have hb2 : Below w.heap.size w (wr.alloc (.cells #[.string f0,.int .i64 f1,.int .i64 f2,.int .i64 f3,.string f4] 54)) := hbel.alloc (by omega) _;have BR2 : Blk (wr.alloc (.cells #[.string f0,.int .i64 f1,.int .i64 f2,.int .i64 f3,.string f4] 54)) (w.heap.size + 1) #[.string ⟨#[]⟩,.int .i64 0,.int .i64 0,.int .i64 0,.string ⟨#[]⟩] 54 := BR.below ((Below.refl _ _).alloc (Nat.le_refl _) _);go_wp2_with fail
    go_roundw
    case rel => exact ⟨k + 1,by go_num,by omega,HA3,hb2,BR2⟩
    case measure => simp [intOf]; omega
  ·have HA2 : Hid (A = none) := by show _ = _; rw [HAk.out,drop_end (by rw [HN.out]; omega)]; rfl
   go_wp2_with fail;refine bodyPost_ret (results_two rfl _ _ _ ⟨w.heap.size + 1,0,none⟩ (.agg #[.string ⟨#[]⟩,.int .i64 0,.int .i64 0,.int .i64 0,.string ⟨#[]⟩]) (by go_simp) (by go_simp)) rfl ?_;exact ⟨ret_two (by rw [HA2.out]; rfl) (by rw [HA2.out]; rfl),(Below.setCell (Below.setCell (Below.setCell (Below.setCell (Below.setCell hbel (by simp) _) (by simp) _) (by simp) _) (by simp) _) (by simp) _)⟩
end
section
open Go.ChangeShapes Go.WideShapes Go.ChangeAt Go.RowKit
theorem number_any (k n : Int) (nm : ByteArray) (w : World) : Calls Try.prog 105 #[.agg #[.int .i64 k,.string nm],.int .i64 n] w fun e w' => e = .returned (.bool (nmrB k n)) ∧ Below w.heap.size w w' := by
 have hb : Below w.heap.size w (w.alloc (Obj.cells #[.int .i64 k,.string nm] 52)) := (Below.refl _ _).alloc (Nat.le_refl _) _
 have rng : n < -2147483648 ∨ (-2147483648 ≤ n ∧ n < 0) ∨ (0 ≤ n ∧ n ≤ 1) ∨ (1 < n ∧ n ≤ 2147483647) ∨ 2147483647 < n := by omega
 have kk : k = 3 ∨ k = 6 ∨ k = 1 ∨ k = 2 ∨ (¬ k = 3 ∧ ¬ k = 6 ∧ ¬ k = 1 ∧ ¬ k = 2) := by omega
 rcases rng with g | g | g | g | g
 ·have f1 : decide (1 < n) = false := by simp; omega
  have f2 : decide (n < 0) = true := by simp; omega
  have f3 : decide (n < -2147483648) = true := by simp; omega
  have f4 : decide (2147483647 < n) = false := by simp; omega
  rcases kk with rfl | rfl | rfl | rfl | ⟨h3,h6,h1,h2⟩
  ·have hr : nmrB 3 n = false := by simp [nmrB]; omega
   rw [hr];clear hr g
   go_enter Try.func105,Try.ntmps105
   go_wp2_with fail;go_ret;exact ⟨rfl,hb⟩
  ·have hr : nmrB 6 n = false := by simp [nmrB]; omega
   rw [hr];clear hr g
   go_enter Try.func105,Try.ntmps105
   go_wp2_with fail;go_ret;exact ⟨rfl,hb⟩
  ·have hr : nmrB 1 n = false := by simp [nmrB]; omega
   rw [hr];clear hr g
   go_enter Try.func105,Try.ntmps105
   go_wp2_with fail;go_ret;exact ⟨rfl,hb⟩
  ·have hr : nmrB 2 n = true := by simp [nmrB]
   rw [hr];clear hr g
   go_enter Try.func105,Try.ntmps105
   go_wp2_with fail;go_ret;exact ⟨rfl,hb⟩
  ·have e1 : (k == 1) = false := by simpa using h1
   have e2 : (k == 2) = false := by simpa using h2
   have e3 : (k == 3) = false := by simpa using h3
   have e6 : (k == 6) = false := by simpa using h6
   have hr : nmrB k n = false := by simp [nmrB,h3,h6,h1,h2]
   rw [hr];clear h1 h2 h3 h6 hr g
   go_enter Try.func105,Try.ntmps105
   go_wp2_with fail;go_ret;exact ⟨rfl,hb⟩
 ·have f1 : decide (1 < n) = false := by simp; omega
  have f2 : decide (n < 0) = true := by simp; omega
  have f3 : decide (n < -2147483648) = false := by simp; omega
  have f4 : decide (2147483647 < n) = false := by simp; omega
  rcases kk with rfl | rfl | rfl | rfl | ⟨h3,h6,h1,h2⟩
  ·have hr : nmrB 3 n = false := by simp [nmrB]; omega
   rw [hr];clear hr g
   go_enter Try.func105,Try.ntmps105
   go_wp2_with fail;go_ret;exact ⟨rfl,hb⟩
  ·have hr : nmrB 6 n = false := by simp [nmrB]; omega
   rw [hr];clear hr g
   go_enter Try.func105,Try.ntmps105
   go_wp2_with fail;go_ret;exact ⟨rfl,hb⟩
  ·have hr : nmrB 1 n = true := by simp [nmrB]; omega
   rw [hr];clear hr g
   go_enter Try.func105,Try.ntmps105
   go_wp2_with fail;go_ret;exact ⟨rfl,hb⟩
  ·have hr : nmrB 2 n = true := by simp [nmrB]
   rw [hr];clear hr g
   go_enter Try.func105,Try.ntmps105
   go_wp2_with fail;go_ret;exact ⟨rfl,hb⟩
  ·have e1 : (k == 1) = false := by simpa using h1
   have e2 : (k == 2) = false := by simpa using h2
   have e3 : (k == 3) = false := by simpa using h3
   have e6 : (k == 6) = false := by simpa using h6
   have hr : nmrB k n = false := by simp [nmrB,h3,h6,h1,h2]
   rw [hr];clear h1 h2 h3 h6 hr g
   go_enter Try.func105,Try.ntmps105
   go_wp2_with fail;go_ret;exact ⟨rfl,hb⟩
 ·have f1 : decide (1 < n) = false := by simp; omega
  have f2 : decide (n < 0) = false := by simp; omega
  have f3 : decide (n < -2147483648) = false := by simp; omega
  have f4 : decide (2147483647 < n) = false := by simp; omega
  rcases kk with rfl | rfl | rfl | rfl | ⟨h3,h6,h1,h2⟩
  ·have hr : nmrB 3 n = true := by simp [nmrB]; omega
   rw [hr];clear hr g
   go_enter Try.func105,Try.ntmps105
   go_wp2_with fail;go_ret;exact ⟨rfl,hb⟩
  ·have hr : nmrB 6 n = true := by simp [nmrB]; omega
   rw [hr];clear hr g
   go_enter Try.func105,Try.ntmps105
   go_wp2_with fail;go_ret;exact ⟨rfl,hb⟩
  ·have hr : nmrB 1 n = true := by simp [nmrB]; omega
   rw [hr];clear hr g
   go_enter Try.func105,Try.ntmps105
   go_wp2_with fail;go_ret;exact ⟨rfl,hb⟩
  ·have hr : nmrB 2 n = true := by simp [nmrB]
   rw [hr];clear hr g
   go_enter Try.func105,Try.ntmps105
   go_wp2_with fail;go_ret;exact ⟨rfl,hb⟩
  ·have e1 : (k == 1) = false := by simpa using h1
   have e2 : (k == 2) = false := by simpa using h2
   have e3 : (k == 3) = false := by simpa using h3
   have e6 : (k == 6) = false := by simpa using h6
   have hr : nmrB k n = false := by simp [nmrB,h3,h6,h1,h2]
   rw [hr];clear h1 h2 h3 h6 hr g
   go_enter Try.func105,Try.ntmps105
   go_wp2_with fail;go_ret;exact ⟨rfl,hb⟩
 ·have f1 : decide (1 < n) = true := by simp; omega
  have f2 : decide (n < 0) = false := by simp; omega
  have f3 : decide (n < -2147483648) = false := by simp; omega
  have f4 : decide (2147483647 < n) = false := by simp; omega
  rcases kk with rfl | rfl | rfl | rfl | ⟨h3,h6,h1,h2⟩
  ·have hr : nmrB 3 n = false := by simp [nmrB]; omega
   rw [hr];clear hr g
   go_enter Try.func105,Try.ntmps105
   go_wp2_with fail;go_ret;exact ⟨rfl,hb⟩
  ·have hr : nmrB 6 n = true := by simp [nmrB]; omega
   rw [hr];clear hr g
   go_enter Try.func105,Try.ntmps105
   go_wp2_with fail;go_ret;exact ⟨rfl,hb⟩
  ·have hr : nmrB 1 n = true := by simp [nmrB]; omega
   rw [hr];clear hr g
   go_enter Try.func105,Try.ntmps105
   go_wp2_with fail;go_ret;exact ⟨rfl,hb⟩
  ·have hr : nmrB 2 n = true := by simp [nmrB]
   rw [hr];clear hr g
   go_enter Try.func105,Try.ntmps105
   go_wp2_with fail;go_ret;exact ⟨rfl,hb⟩
  ·have e1 : (k == 1) = false := by simpa using h1
   have e2 : (k == 2) = false := by simpa using h2
   have e3 : (k == 3) = false := by simpa using h3
   have e6 : (k == 6) = false := by simpa using h6
   have hr : nmrB k n = false := by simp [nmrB,h3,h6,h1,h2]
   rw [hr];clear h1 h2 h3 h6 hr g
   go_enter Try.func105,Try.ntmps105
   go_wp2_with fail;go_ret;exact ⟨rfl,hb⟩
 ·have f1 : decide (1 < n) = true := by simp; omega
  have f2 : decide (n < 0) = false := by simp; omega
  have f3 : decide (n < -2147483648) = false := by simp; omega
  have f4 : decide (2147483647 < n) = true := by simp; omega
  rcases kk with rfl | rfl | rfl | rfl | ⟨h3,h6,h1,h2⟩
  ·have hr : nmrB 3 n = false := by simp [nmrB]; omega
   rw [hr];clear hr g
   go_enter Try.func105,Try.ntmps105
   go_wp2_with fail;go_ret;exact ⟨rfl,hb⟩
  ·have hr : nmrB 6 n = false := by simp [nmrB]; omega
   rw [hr];clear hr g
   go_enter Try.func105,Try.ntmps105
   go_wp2_with fail;go_ret;exact ⟨rfl,hb⟩
  ·have hr : nmrB 1 n = false := by simp [nmrB]; omega
   rw [hr];clear hr g
   go_enter Try.func105,Try.ntmps105
   go_wp2_with fail;go_ret;exact ⟨rfl,hb⟩
  ·have hr : nmrB 2 n = true := by simp [nmrB]
   rw [hr];clear hr g
   go_enter Try.func105,Try.ntmps105
   go_wp2_with fail;go_ret;exact ⟨rfl,hb⟩
  ·have e1 : (k == 1) = false := by simpa using h1
   have e2 : (k == 2) = false := by simpa using h2
   have e3 : (k == 3) = false := by simpa using h3
   have e6 : (k == 6) = false := by simpa using h6
   have hr : nmrB k n = false := by simp [nmrB,h3,h6,h1,h2]
   rw [hr];clear h1 h2 h3 h6 hr g
   go_enter Try.func105,Try.ntmps105
   go_wp2_with fail;go_ret;exact ⟨rfl,hb⟩
theorem size_empty {s : ByteArray} (h : s.size = 0) : s = ⟨#[]⟩ := by
 obtain ⟨⟨l⟩⟩ := s
 cases l with
 | nil => rfl
 | cons a l => simp [ByteArray.size] at h
theorem zero_any (t : Tr) (a1 a2 : Option Addr) (n1 c1 n2 c2 : Nat) (w : World) (h1 : n1 = t.es.length) (h2 : n2 = t.rest.length) : Calls Try.prog 85 #[.agg #[.int .i64 t.kind,.int .i64 t.n,.string t.s,.slice a1 n1 c1,.slice a2 n2 c2]] w fun e w' => e = .returned (.bool (zroB t)) ∧ Below w.heap.size w w' := by
 have hb : Below w.heap.size w (w.alloc (Obj.cells #[.int .i64 t.kind,.int .i64 t.n,.string t.s,.slice a1 n1 c1,.slice a2 n2 c2] 30)) := (Below.refl _ _).alloc (Nat.le_refl _) _
 have hz : zroB t = (decide (t.kind = 1 ∨ t.kind = 2 ∨ t.kind = 3) && decide (t.n = 0) && decide (t.s.size = 0) && decide (n1 = 0) && decide (n2 = 0)) := by rw [zroB,h1,h2]
 rw [hz];clear hz h1 h2;generalize t.kind = K at *;generalize t.n = N at *;generalize t.s = S at *
 have kk : K = 1 ∨ K = 2 ∨ K = 3 ∨ (¬ K = 1 ∧ ¬ K = 2 ∧ ¬ K = 3) := by omega
 rcases kk with rfl | rfl | rfl | ⟨h1,h2,h3⟩
 ·by_cases hN : N = 0
  ·subst hN
   by_cases hS : S.size = 0
   ·obtain rfl := size_empty hS
    by_cases h1 : n1 = 0
    ·subst h1
     by_cases h2 : n2 = 0
     ·subst h2
      go_enter Try.func85,Try.ntmps85
      go_wp2_with fail;go_ret;exact ⟨rfl,hb⟩
     ·have d2 : ((n2 : Int) == 0) = false := by simp; omega
      simp only [decide_eq_false h2,Bool.and_false];clear h2
      go_enter Try.func85,Try.ntmps85
      go_wp2_with fail;go_ret;exact ⟨rfl,hb⟩
    ·have d1 : ((n1 : Int) == 0) = false := by simp; omega
     simp only [decide_eq_false h1,Bool.and_false,Bool.false_and];clear h1
     go_enter Try.func85,Try.ntmps85
     go_wp2_with fail;go_ret;exact ⟨rfl,hb⟩
   ·have dS : (S.toList == ([] : List UInt8)) = false := by rw [ByteArray.toList_eq]; simp; intro e; exact hS (by rw [← ByteArray.size_data,e]; rfl)
    simp only [decide_eq_false hS,Bool.and_false,Bool.false_and];clear hS
    go_enter Try.func85,Try.ntmps85
    go_wp2_with fail;go_ret;exact ⟨rfl,hb⟩
  ·have dN : (N == 0) = false := by simpa using hN
   simp only [decide_eq_false hN,Bool.and_false,Bool.false_and];clear hN
   go_enter Try.func85,Try.ntmps85
   go_wp2_with fail;go_ret;exact ⟨rfl,hb⟩
 ·by_cases hN : N = 0
  ·subst hN
   by_cases hS : S.size = 0
   ·obtain rfl := size_empty hS
    by_cases h1 : n1 = 0
    ·subst h1
     by_cases h2 : n2 = 0
     ·subst h2
      go_enter Try.func85,Try.ntmps85
      go_wp2_with fail;go_ret;exact ⟨rfl,hb⟩
     ·have d2 : ((n2 : Int) == 0) = false := by simp; omega
      simp only [decide_eq_false h2,Bool.and_false];clear h2
      go_enter Try.func85,Try.ntmps85
      go_wp2_with fail;go_ret;exact ⟨rfl,hb⟩
    ·have d1 : ((n1 : Int) == 0) = false := by simp; omega
     simp only [decide_eq_false h1,Bool.and_false,Bool.false_and];clear h1
     go_enter Try.func85,Try.ntmps85
     go_wp2_with fail;go_ret;exact ⟨rfl,hb⟩
   ·have dS : (S.toList == ([] : List UInt8)) = false := by rw [ByteArray.toList_eq]; simp; intro e; exact hS (by rw [← ByteArray.size_data,e]; rfl)
    simp only [decide_eq_false hS,Bool.and_false,Bool.false_and];clear hS
    go_enter Try.func85,Try.ntmps85
    go_wp2_with fail;go_ret;exact ⟨rfl,hb⟩
  ·have dN : (N == 0) = false := by simpa using hN
   simp only [decide_eq_false hN,Bool.and_false,Bool.false_and];clear hN
   go_enter Try.func85,Try.ntmps85
   go_wp2_with fail;go_ret;exact ⟨rfl,hb⟩
 ·by_cases hN : N = 0
  ·subst hN
   by_cases hS : S.size = 0
   ·obtain rfl := size_empty hS
    by_cases h1 : n1 = 0
    ·subst h1
     by_cases h2 : n2 = 0
     ·subst h2
      go_enter Try.func85,Try.ntmps85
      go_wp2_with fail;go_ret;exact ⟨rfl,hb⟩
     ·have d2 : ((n2 : Int) == 0) = false := by simp; omega
      simp only [decide_eq_false h2,Bool.and_false];clear h2
      go_enter Try.func85,Try.ntmps85
      go_wp2_with fail;go_ret;exact ⟨rfl,hb⟩
    ·have d1 : ((n1 : Int) == 0) = false := by simp; omega
     simp only [decide_eq_false h1,Bool.and_false,Bool.false_and];clear h1
     go_enter Try.func85,Try.ntmps85
     go_wp2_with fail;go_ret;exact ⟨rfl,hb⟩
   ·have dS : (S.toList == ([] : List UInt8)) = false := by rw [ByteArray.toList_eq]; simp; intro e; exact hS (by rw [← ByteArray.size_data,e]; rfl)
    simp only [decide_eq_false hS,Bool.and_false,Bool.false_and];clear hS
    go_enter Try.func85,Try.ntmps85
    go_wp2_with fail;go_ret;exact ⟨rfl,hb⟩
  ·have dN : (N == 0) = false := by simpa using hN
   simp only [decide_eq_false hN,Bool.and_false,Bool.false_and];clear hN
   go_enter Try.func85,Try.ntmps85
   go_wp2_with fail;go_ret;exact ⟨rfl,hb⟩
 ·have e1 : (K == 1) = false := by simpa using h1
  have e2 : (K == 2) = false := by simpa using h2
  have e3 : (K == 3) = false := by simpa using h3
  have hk : decide (K = 1 ∨ K = 2 ∨ K = 3) = false := by simp [h1,h2,h3]
  simp only [hk,Bool.false_and];clear h1 h2 h3 hk
  go_enter Try.func85,Try.ntmps85
  go_wp2_with fail;go_ret;exact ⟨rfl,hb⟩
theorem valid_any (s : ByteArray) (w : World) (hs : s.size ≤ 140737488351232) :
  Calls Try.prog 106 #[.string s] w fun e w' => e = .returned (.bool (validB s.data.toList)) ∧ Below w.heap.size w w' := by
 go_enter Try.func106,Try.ntmps106
 go_wp2
 go_loopw [] (fun wr => ∃ (pos : Nat) (acc : List Nat),wr = w.iter s pos ∧ Hid (Gone s.data.toList pos acc)) (fun wr => s.size - wr.iterPos w.heap.size)
 case atStart => exact ⟨0,[],rfl,Gone.start _⟩
 case round =>
  obtain ⟨pos,acc,rfl,H⟩ := hrel
  by_cases hp : pos < s.size
  ·obtain ⟨c,k,hd,h1,h2⟩ := dec_at s pos hp
   have hnx : ∀ ty,(Instr.next (.pointer (some ⟨w.heap.size,0,none⟩)) true ty).run Try.prog (w.iter s pos) = .ok (.tuple #[.bool true,.int .i64 (pos : Int),.int .i32 (c : Int)]) (w.iter s (pos + k)) := by
    intro ty;have := run_next_any (P := Try.prog) w s pos ty hp;rw [hd] at this;exact this
   have H1 : Hid (standsB (s.data.toList.drop pos) c = true → nxL (s.data.toList.drop pos) = some (c,k)) := h1;have H2 : Hid (standsB (s.data.toList.drop pos) c = false → nxL (s.data.toList.drop pos) = none) := h2;clear hd h1 h2;go_wp2_with fail;refine (stands_any s _ _ _ hs (by omega) (by omega)).mono ?_;rintro e w' ⟨rfl,rfl⟩;rw [Int.toNat_natCast]
   cases hst : standsB (s.data.toList.drop pos) c with
   | false =>
    go_wp2
    go_ret;exact ⟨ret_bool (by unfold validB; rw [H.out.bad (by rw [len_data]; exact hp) (H2.out hst)]; rfl),below_iter _ _ _⟩
   | true =>
    have HN := H1.out hst;have hk : 1 ≤ k := (nxL_some _ _ _ HN).2.2.2.1;have HG : Hid (Gone s.data.toList (pos + k) (acc ++ [c])) := H.out.step HN;clear HN
    go_wp2
    go_roundw
    case rel => exact ⟨pos + k,acc ++ [c],rfl,HG⟩
    case measure => simp; omega
  ·have hnx : ∀ ty,(Instr.next (.pointer (some ⟨w.heap.size,0,none⟩)) true ty).run Try.prog (w.iter s pos) = _ := fun ty => run_next_end w s pos ty hp
   go_wp2
   go_ret;exact ⟨ret_bool (by unfold validB; rw [H.out.done (by rw [len_data]; omega)]; rfl),below_iter _ _ _⟩
theorem zeroEp (w : World) : (zeroValue 128).run Try.prog w = .ok (.agg #[]) w := by kernel_rfl
theorem place_any (a : Option Addr) (N cap : Nat) (w : World) (h1 : N ≤ cap) (h2 : cap ≤ maxLen) (h3 : N = 0 ∨ ∃ g off,a = some ⟨g,off,none⟩) :
  Calls Try.prog 75 #[.slice a N cap] w fun e w' => e = .returned (plV (plOf (.slice a N cap))) ∧ Below w.heap.size w w' := by
 unfold maxLen at h2
 by_cases hN : N = 0
 ·subst hN
  go_enter Try.func75,Try.ntmps75
  go_wp2_with fail;refine bodyPost_ret (results_cell rfl _ _ _ ⟨w.heap.size,0,none⟩ (.agg #[.pointer none,.int .i64 0]) (by go_simp) (by go_simp)) rfl ⟨by simp [plV,plOf],(Below.refl _ _).alloc (Nat.le_refl _) _⟩
 ·obtain ⟨g,off,rfl⟩ : ∃ g off,a = some ⟨g,off,none⟩ := by
   rcases h3 with h | h
   ·exact absurd h hN
   ·exact h
  have hd : ((N : Int) == 0) = false := by simp; omega
  have hp : 0 < N := by omega
  go_enter Try.func75,Try.ntmps75
  go_wp2_with fail;refine bodyPost_ret (results_cell rfl _ _ _ ⟨w.heap.size,0,none⟩ (.agg #[.pointer (some ⟨g,off,none⟩),.int .i64 (N : Int)]) (by go_simp) (by go_simp)) rfl ⟨by simp [plV,plOf,hN],(Below.refl _ _).alloc (Nat.le_refl _) _⟩
theorem uPlace : Try.prog.underlying 158 = some (.map 160 128) := by kernel_rfl
theorem told_pl {w : World} {x : Pl} {L : List Pl} (hx : PlOk w x) (hL : ∀ y ∈ L,PlOk w y) : Told 160 w (plV x) (L.map plV) := by
 intro q hq;obtain ⟨y,hy,rfl⟩ := List.mem_map.1 hq;have h := eql_pl w x y hx (hL y hy)
 have inj : plV x = plV y ↔ x = y := by
  obtain ⟨p,m⟩ := x;obtain ⟨q,n⟩ := y
  simp [plV]
  intro _
  omega
 constructor
 ·intro e;rw [h,decide_eq_true (inj.1 e)]
 ·intro e;rw [h,decide_eq_false (fun e' => e (inj.2 e'))]
theorem mem_plV {x : Pl} {L : List Pl} : plV x ∈ L.map plV ↔ x ∈ L := by
 constructor
 ·intro h;obtain ⟨y,hy,e⟩ := List.mem_map.1 h;obtain ⟨p,m⟩ := x;obtain ⟨q,n⟩ := y
  simp [plV] at e
  obtain ⟨rfl,e2⟩ := e
  obtain rfl : n = m := by omega
  exact hy
 ·exact List.mem_map_of_mem
def msgsL (ts : List Tr) : List (List (Int × List Tr)) := (ts.filter fun t => t.kind == 3).map Tr.es
def MsgS (ts : List Tr) (M : List (List (Int × List Tr))) : Prop := M.Sublist (msgsL ts) ∧ ∀ t ∈ ts,t.kind = 3 → t.es ∈ M
def LvC (n : Nat) (w : World) (r : List Value) (m : List (Int × List Tr)) : Prop := ∃ ve,r = [ve] ∧ EnsQ n w ve m ∧ PlnV w ve
abbrev LvQ (n : Nat) (w : World) (v : Value) (M : List (List (Int × List Tr))) : Prop := RowP (LvC n w) w 1 v M
theorem infoSl : (Try.prog.info? 27).map (fun i => (i.zero,i.size,i.bytes)) = some (some (.slice none 0 0),1,24) := by kernel_rfl
theorem MsgS.skip {ts : List Tr} {M : List (List (Int × List Tr))} {t : Tr} (h : MsgS ts M) (ht : t.kind ≠ 3) : MsgS (ts ++ [t]) M := by
 refine ⟨?_,fun x hx hk => ?_⟩
 ·have : msgsL (ts ++ [t]) = msgsL ts := by simp [msgsL,List.filter_append,ht]
  rw [this]; exact h.1
 ·rcases List.mem_append.1 hx with hx | hx
  ·exact h.2 x hx hk
  ·obtain rfl : x = t := by simpa using hx
   exact absurd hk ht
theorem msgs_snoc {ts : List Tr} {t : Tr} (ht : t.kind = 3) : msgsL (ts ++ [t]) = msgsL ts ++ [t.es] := by simp [msgsL,List.filter_append,ht]
theorem MsgS.old {ts : List Tr} {M : List (List (Int × List Tr))} {t : Tr} (h : MsgS ts M) (ht : t.kind = 3) (hm : t.es ∈ M) : MsgS (ts ++ [t]) M := by
 refine ⟨?_,fun x hx hk => ?_⟩
 ·rw [msgs_snoc ht]; exact h.1.trans (List.sublist_append_left _ _)
 ·rcases List.mem_append.1 hx with hx | hx
  ·exact h.2 x hx hk
  ·obtain rfl : x = t := by simpa using hx
   exact hm
theorem MsgS.new {ts : List Tr} {M : List (List (Int × List Tr))} {t : Tr} (h : MsgS ts M) (ht : t.kind = 3) : MsgS (ts ++ [t]) (M ++ [t.es]) := by
 refine ⟨?_,fun x hx hk => ?_⟩
 ·rw [msgs_snoc ht]; exact h.1.append (List.Sublist.refl _)
 ·rcases List.mem_append.1 hx with hx | hx
  ·exact List.mem_append.2 (.inl (h.2 x hx hk))
  ·obtain rfl : x = t := by simpa using hx
   simp
def Side (n : Nat) (w : World) (ves : List Value) (M : List (List (Int × List Tr))) : Prop := ves.length = M.length ∧ ∀ (i : Nat) (ve : Value) (m : List (Int × List Tr)),ves[i]? = some ve → M[i]? = some m → EnsQ n w ve m ∧ PlnV w ve
theorem Side.nil (n : Nat) (w : World) : Side n w [] [] := ⟨rfl,by simp⟩
theorem Side.snoc {n : Nat} {w : World} {ves : List Value} {M : List (List (Int × List Tr))} (h : Side n w ves M) {ve : Value} {m : List (Int × List Tr)} (h1 : EnsQ n w ve m) (h2 : PlnV w ve) : Side n w (ves ++ [ve]) (M ++ [m]) := by
 refine ⟨by simp [h.1],fun i v m' hv hm => ?_⟩
 by_cases hi : i < ves.length
 ·rw [List.getElem?_append_left hi] at hv;rw [List.getElem?_append_left (by rw [← h.1]; exact hi)] at hm;exact h.2 i v m' hv hm
 ·rw [List.getElem?_append_right (by omega)] at hv;rw [List.getElem?_append_right (by rw [← h.1]; omega)] at hm;rw [← h.1] at hm
  cases hq : i - ves.length with
  | zero =>
   rw [hq] at hv hm
   obtain rfl : ve = v := by simpa using hv
   obtain rfl : m = m' := by simpa using hm
   exact ⟨h1,h2⟩
  | succ q => rw [hq] at hv; simp at hv
theorem Side.mem {n : Nat} {w : World} {ves : List Value} {M : List (List (Int × List Tr))} (h : Side n w ves M) {ve : Value} (hv : ve ∈ ves) : ∃ m ∈ M,EnsQ n w ve m ∧ PlnV w ve := by
 obtain ⟨i,hi,e⟩ := List.getElem_of_mem hv;have hm : M[i]? = some (M[i]'(by rw [← h.1]; exact hi)) := List.getElem?_eq_getElem _;exact ⟨_,List.mem_of_getElem? hm,h.2 i ve _ (by rw [List.getElem?_eq_getElem hi,e]) hm⟩
theorem flat_one : ∀ l : List Value,l = (l.map fun x => [x]).flatten
 | [] => rfl
 | a :: l => by rw [List.map_cons,List.flatten_cons,← flat_one l]; rfl
theorem Side.row {n : Nat} {w w' : World} {ves : List Value} {M : List (List (Int × List Tr))} (h : Side n w ves M) (hb : Below w.heap.size w w') {B k : Nat} {v : Value} (ho : w'.ownsRow B 27 1 v k ves) : LvQ n w' v M := by
 have hf : ves = (ves.map fun x => [x]).flatten := flat_one ves;rw [hf] at ho;have hr := (RowG.own (rs := ves.map fun x => [x]) (by intro r hr; obtain ⟨x,_,rfl⟩ := List.mem_map.1 hr; rfl) (by decide) ho).1;refine ⟨_,hr,by simp [h.1],fun i m hm => ?_⟩;obtain ⟨ve,hv⟩ : ∃ ve,ves[i]? = some ve := ⟨_,List.getElem?_eq_getElem (by rw [h.1]; exact (List.getElem?_eq_some_iff.1 hm).1)⟩;obtain ⟨g1,g2⟩ := h.2 i ve m hv hm;exact ⟨[ve],by simp [hv],ve,rfl,g1.belowEQ hb,g2.below hb⟩
def MsgP (n : Nat) (ts : List Tr) (w : World) (e : Ending) (w' : World) : Prop := ∃ v M,e = .returned v ∧ LvQ n w' v M ∧ MsgS ts M ∧ Below w.heap.size w w'
theorem messages_step (n : Nat) (v : Value) (ts : List Tr) (w : World) (h : TrsQ (n + 1) w v ts) (hl : ts.length ≤ 5000) :
  Calls Try.prog 44 #[v] w (MsgP n ts w) := by
 have hmm := @run_makeMap Try.prog;obtain ⟨a,cap,rfl,h1,h2,h3, -, -⟩ := RowP.open h;obtain ⟨N,hN⟩ : ∃ N,ts.length = N := ⟨_,rfl⟩;rw [hN] at h1 hl ⊢;have HH : Hid (TrsQ (n + 1) w (.slice a N cap) ts) := (by rw [← hN]; exact h : TrsQ (n + 1) w (.slice a N cap) ts);have HN : Hid (ts.length = N) := hN;unfold maxLen at h2;clear h hN h3
 go_enter Try.func44,Try.ntmps44
 go_wp2_with fail;have HS0 : Hid (PlSet (w.alloc (.map #[] 0)) w.heap.size (List.map plV [])) := PlSet.made w;have HO0 : Hid ((w.alloc (.map #[] 0)).ownsRow (w.heap.size + 1) 27 1 (.slice none 0 0) 0 []) := World.ownsRow_nil _ _ _ _;have hb0 : Below w.heap.size w (w.alloc (.map #[] 0)) := (Below.refl _ _).alloc (Nat.le_refl _) _
 go_loopw [3,13] (fun ov iv wr => ∃ (i k : Nat) (oa : Option Addr) (oc : Nat) (ves : List Value) (M : List (List (Int × List Tr))),iv = .int .i64 (i : Int) ∧ ov = .slice oa k oc ∧ i ≤ N ∧ k ≤ i ∧ Hid (Side n w ves M) ∧ Hid (MsgS (ts.take i) M) ∧ Hid (PlSet wr w.heap.size ((ves.map plOf).map plV)) ∧ Hid (wr.ownsRow (w.heap.size + 1) 27 1 (.slice oa k oc) k ves) ∧ Below w.heap.size w wr) (fun _ iv _ => N - (intOf iv).toNat)
 case atStart => exact ⟨0,0,none,0,[],[],rfl,rfl,by omega,by omega,Side.nil n w,(⟨by simp,by simp⟩ : MsgS (ts.take 0) []),HS0,HO0,hb0⟩
 case round =>
  clear HS0 HO0 hb0;obtain ⟨i,k,oa,oc,ves,M,rfl,rfl,hi,hk,HSD,HMS,HST,HO,hbel⟩ := hrel
  by_cases hlt : i < N
  ·obtain ⟨t,ht⟩ : ∃ r,ts[i]? = some r := ⟨_,List.getElem?_eq_getElem (by rw [HN.out]; exact hlt)⟩;obtain ⟨g,off,rfl,r,hr,hc⟩ := HH.out.get ht;obtain ⟨ve,vr,rfl,q1,q2,q3,q4,q5,q6,q7⟩ := hr;obtain ⟨ea,ec,rfl,e1,e2,e3, -, -⟩ := RowP.open q6;obtain ⟨ra,rc,rfl, -⟩ := rest_holds q5;have c0 := (hbel.cell (World.block_lt_of_cell? _ _ (hc 0 _ rfl))).trans (hc 0 _ rfl);have c1 := (hbel.cell (World.block_lt_of_cell? _ _ (hc 1 _ rfl))).trans (hc 1 _ rfl);have c2 := (hbel.cell (World.block_lt_of_cell? _ _ (hc 2 _ rfl))).trans (hc 2 _ rfl);have c3 := (hbel.cell (World.block_lt_of_cell? _ _ (hc 3 _ rfl))).trans (hc 3 _ rfl);have c4 := (hbel.cell (World.block_lt_of_cell? _ _ (hc 4 _ rfl))).trans (hc 4 _ rfl);simp only [Nat.add_zero] at c0;have HT : Hid (ts[i]? = some t) := ht;have HTK : Hid (ts.take (i + 1) = ts.take i ++ [t]) := (by obtain ⟨hl',e⟩ := List.getElem?_eq_some_iff.1 ht; rw [List.take_succ_eq_append_getElem hl',e] : ts.take (i + 1) = ts.take i ++ [t]);have HE : Hid (EnsQ n w (.slice ea t.es.length ec) t.es ∧ PlnV w (.slice ea t.es.length ec)) := ⟨q6,q7⟩;clear hc ht q1 q2 q3 q4 q5 q6 q7;generalize hEl : t.es.length = El at *;generalize t.rest.length = Rl at *;have HEl : Hid (t.es.length = El) := hEl;obtain ⟨K,hK⟩ : ∃ K,t.kind = K := ⟨_,rfl⟩;rw [hK] at c0;have HK : Hid (t.kind = K) := hK;clear hK hEl;generalize t.n = Tn at *;generalize t.s = Ts at *
   by_cases h3 : K = 3
   ·subst h3;obtain ⟨⟨p,m⟩,hpm⟩ : ∃ x,plOf (.slice ea El ec) = x := ⟨_,rfl⟩;have HPM : Hid (plOf (.slice ea El ec) = (p,m)) := hpm
    have HPC : Hid (∀ W,Calls Try.prog 75 #[.slice ea El ec] W fun e w' => e = .returned (.agg #[.pointer p,.int .i64 (m : Int)]) ∧ Below W.heap.size W w') := fun W => by
     have := place_any ea El ec W e1 e2 (e3.imp (fun h => by rw [← HEl.out,h]; rfl) id);rw [hpm] at this;exact this
    clear hpm e3;go_wp2_with fail;refine (HPC.out _).mono ?_;rintro e w2 ⟨rfl,hb2⟩;have BT : Blk w2 wr.heap.size #[.int .i64 3,.int .i64 Tn,.string Ts,.slice ea El ec,.slice ra Rl rc] 30 := (Blk.new wr _ _).below hb2;have hbr : Below wr.heap.size wr w2 := ((Below.refl _ _).alloc (Nat.le_refl _) _).trans (hb2.mono (by simp));have hbw : Below w.heap.size w w2 := hbel.trans (hbr.mono hbel.size);have HST2 : Hid (PlSet w2 w.heap.size ((ves.map plOf).map plV)) := HST.out.below hbr;have HO2 : Hid (w2.ownsRow (w.heap.size + 1) 27 1 (.slice oa k oc) k ves) := own_below HO.out hbr;generalize wr.heap.size = bt at *;clear hb2 hbr HPC c0 c1 c2 c3 c4 HST HO hbel
    have HTD : Hid (∀ W,Below w.heap.size w W → Told 160 W (.agg #[.pointer p,.int .i64 (m : Int)]) ((ves.map plOf).map plV)) := fun W hW => by
     have hx : PlOk W (p,m) := by rw [← HPM.out]; exact plOf_ok (HE.out.2.below hW) (HE.out.1.belowEQ hW)
     exact told_pl hx fun y hy => by
      obtain ⟨ve,hve,rfl⟩ := List.mem_map.1 hy;obtain ⟨m',_,g1,g2⟩ := HSD.out.mem hve;exact plOf_ok (g2.below hW) (RowP.belowEQ g1 hW)
    obtain ⟨R,hR⟩ : ∃ R : Bool,R = true ↔ (p,m) ∈ ves.map plOf := by
     by_cases hm : (p,m) ∈ ves.map plOf
     ·exact ⟨true,by simp [hm]⟩
     ·exact ⟨false,by simp [hm]⟩
    have HR : Hid (R = true ↔ (p,m) ∈ ves.map plOf) := hR;clear hR;have al3 : Below w2.heap.size w2 (w2.alloc (Obj.cells #[.pointer p,.int .i64 (m : Int)] 160)) := (Below.refl _ _).alloc (Nat.le_refl _) _;have hb3 : Below w.heap.size w (w2.alloc (Obj.cells #[.pointer p,.int .i64 (m : Int)] 160)) := hbw.trans (al3.mono hbw.size);have al4 : Below w2.heap.size w2 ((w2.alloc (Obj.cells #[.pointer p,.int .i64 (m : Int)] 160)).alloc (Obj.cells #[] 128)) := al3.alloc (by simp) _;have hb4 : Below w.heap.size w ((w2.alloc (Obj.cells #[.pointer p,.int .i64 (m : Int)] 160)).alloc (Obj.cells #[] 128)) := hbw.trans (al4.mono hbw.size)
    have HLK : Hid ((Instr.lookup 158 (.map (some w.heap.size)) (.agg #[.pointer p,.int .i64 (m : Int)]) true).run Try.prog (w2.alloc (Obj.cells #[.pointer p,.int .i64 (m : Int)] 160)) = .ok (.tuple #[.agg #[],.bool R]) (w2.alloc (Obj.cells #[.pointer p,.int .i64 (m : Int)] 160))) :=
     look_pl uPlace zeroEp Try.underlying160 (fun _ _ => rfl) rfl (fun e => check_pl _ e (p,m)) (HST2.out.below al3) (HTD.out _ hb3) R (HR.out.trans mem_plV.symm)
    cases R with
    | true =>
     have hes : t.es ∈ M := by
      obtain ⟨ve,hve,e⟩ := List.mem_map.1 (HR.out.1 rfl);obtain ⟨m',hm',g1,g2⟩ := HSD.out.mem hve;rw [pl_uniq HE.out.1 g1 (by rw [HPM.out,e])];exact hm'
     have HES : Hid (t.es ∈ M) := hes;have q0 := BT.cell 3;clear hes
     go_wp2_with (first | (at_lookup; refine wpList_lookup_pl rfl _ _ rfl rfl rfl HLK.out ?_) | fail)
     go_roundw
     case rel => exact ⟨i + 1,k,oa,oc,ves,M,by go_num,rfl,by omega,by omega,HSD,(by rw [HTK.out]; exact HMS.out.old HK.out HES.out : MsgS (ts.take (i + 1)) M),HST2.out.below al4,own_below HO2.out al4,hb4⟩
     case measure => simp [intOf]; omega
    | false =>
     obtain ⟨w5,r1,r2,r3,r4⟩ := update_pl (MT := 158) (E := 128) (w := ((w2.alloc (Obj.cells #[.pointer p,.int .i64 (m : Int)] 160)).alloc (Obj.cells #[] 128))) uPlace Try.underlying160 (fun _ _ => rfl) rfl (fun e => check_pl _ e (p,m)) (HST2.out.below al4) (HTD.out _ hb4) (fun h => by have := HR.out.2 (mem_plV.1 h); cases this);have HUP : Hid _ := r1;have BT5 : Blk w5 bt #[.int .i64 3,.int .i64 Tn,.string Ts,.slice ea El ec,.slice ra Rl rc] 30 := (BT.below al4).kp r3 (fun e => (HST2.out.below al4).neB (BT.below al4) e);have hO5 : w5.ownsRow (w.heap.size + 1) 27 1 (.slice oa k oc) k ves := own_kpV (own_below HO2.out al4) r3 (fun q hq e => by have := (own_lt (own_below HO2.out al4) hq).1; omega);have hb5 : Below w.heap.size w w5 := hb4.trans (r3.toBelow hb4.size (fun q e => by omega))
     have HST5 : Hid (PlSet w5 w.heap.size (((ves ++ [Value.slice ea El ec]).map plOf).map plV)) := by
      show PlSet _ _ _
      rw [List.map_append,List.map_append,List.map_cons,List.map_nil,HPM.out];exact r2
     have al6 : Below w5.heap.size w5 (w5.alloc (Obj.cells #[.slice ea El ec] 27)) := (Below.refl _ _).alloc (Nat.le_refl _) _;have BE : Blk (w5.alloc (Obj.cells #[.slice ea El ec] 27)) w5.heap.size #[.slice ea El ec] 27 := Blk.new w5 _ _;have hb6 : Below w.heap.size w (w5.alloc (Obj.cells #[.slice ea El ec] 27)) := hb5.trans (al6.mono hb5.size);have q3 := (BT5.cell 3).trans rfl;obtain ⟨i0,hi0,hz0,hz1,hz2⟩ := info_parts infoSl
     obtain ⟨v',W7,s1,s2,s3,_,s5⟩ := run_append_own_at (w5.alloc (Obj.cells #[.slice ea El ec] 27)) (w.heap.size + 1) 103 103 27 i0 _ 1 24 Try.underlying103 hi0 hz0 hz1 hz2 rfl (by decide) (.slice oa k oc) k _ (own_below hO5 al6) ⟨w5.heap.size,0,none⟩ 1 1 [.slice ea El ec] rfl (fun j u hu => by
      have := BE.cell j;rw [Addr.add_lit,Nat.zero_add,this]
      simpa using hu) (fun u hu => by
      simp only [List.mem_cons,List.not_mem_nil,or_false] at hu
      subst hu; rfl) (by unfold maxLen; omega) (by omega) (by have := hb6.size; have := HST5.out.lt; have := al6.size; omega)
     have HRUN : Hid _ := s1
     have HST7 : Hid (PlSet W7 w.heap.size (((ves ++ [Value.slice ea El ec]).map plOf).map plV)) := by
      have h6 := HST5.out.below al6;have hl6 := h6.lt;obtain ⟨es,c,g1,g2⟩ := h6;refine ⟨es,c,(s3.block _ hl6 (fun e => ?_)).trans g1,g2⟩;have := (own_lt hO5 e.symm).1
      omega
     have hb7 : Below w.heap.size w W7 := hb6.grown s3 hb6.size (fun q hq => by have := (own_lt hO5 hq).1; omega);obtain ⟨na,nc,hv'⟩ := own_form s2;subst hv';have HO7 : Hid (W7.ownsRow (w.heap.size + 1) 27 1 (.slice na (k + 1) nc) (k + 1) (ves ++ [Value.slice ea El ec])) := s2;have HSD7 : Hid (Side n w (ves ++ [Value.slice ea El ec]) (M ++ [t.es])) := HSD.out.snoc HE.out.1 HE.out.2;have q0 := (BT.cell 3).trans rfl;clear r1 r2 r3 r4 s1 s2 s3 s5 hO5 BE HTD HR HSD HST2 HO2 HST5 hi0 hz0 hz1 hz2
     go_wp2_with (first | (at_lookup; refine wpList_lookup_pl rfl _ _ rfl rfl rfl HLK.out ?_) | (at_mapUpdate; refine wpList_update_pl rfl _ _ _ rfl rfl rfl rfl HUP.out ?_) | (at_builtin; refine wpList_ran rfl (append_run rfl rfl rfl HRUN.out) ?_) | fail)
     go_roundw
     case rel => exact ⟨i + 1,k + 1,na,nc,_,_,by go_num,rfl,by omega,by omega,HSD7,(by rw [HTK.out]; exact HMS.out.new HK.out : MsgS (ts.take (i + 1)) (M ++ [t.es])),HST7,HO7,hb7⟩
     case measure => simp [intOf]; omega
   ·have hd : (K != 3) = true := by simpa using h3
    go_wp2_with fail;have hb2 : Below w.heap.size w (wr.alloc (Obj.cells #[.int .i64 K,.int .i64 Tn,.string Ts,.slice ea El ec,.slice ra Rl rc] 30)) := hbel.alloc hbel.size _;have hal : Below wr.heap.size wr (wr.alloc (Obj.cells #[.int .i64 K,.int .i64 Tn,.string Ts,.slice ea El ec,.slice ra Rl rc] 30)) := (Below.refl _ _).alloc (Nat.le_refl _) _
    go_roundw
    case rel => exact ⟨i + 1,k,oa,oc,ves,M,by go_num,rfl,by omega,by omega,HSD,(by rw [HTK.out]; exact HMS.out.skip (by rw [HK.out]; exact h3) : MsgS (ts.take (i + 1)) M),HST.out.below hal,own_below HO.out hal,hb2⟩
    case measure => simp [intOf]; omega
  ·go_wp2_with fail;go_ret;have h5 := HMS.out;rw [List.take_of_length_le (by rw [HN.out]; omega)] at h5;exact ⟨_,M,rfl,HSD.out.row hbel HO.out,h5,hbel⟩
theorem infoTq : (Try.prog.info? 30).map (fun i => (i.zero,i.size,i.bytes)) = some (some (.agg #[.int .i64 0,.int .i64 0,.string ⟨#[]⟩,.slice none 0 0,.slice none 0 0]),5,80) := by kernel_rfl
def SideT (n : Nat) (w : World) (rows : List (List Value)) (ts : List Tr) : Prop := rows.length = ts.length ∧ ∀ (i : Nat) (r : List Value) (t : Tr),rows[i]? = some r → ts[i]? = some t → TrQ n w r t
theorem SideT.append {n : Nat} {w : World} {rows rs : List (List Value)} {ts us : List Tr} (h : SideT n w rows ts) (k : SideT n w rs us) : SideT n w (rows ++ rs) (ts ++ us) := by
 refine ⟨by simp [h.1,k.1],fun i r t hr ht => ?_⟩
 by_cases hi : i < rows.length
 ·rw [List.getElem?_append_left hi] at hr;rw [List.getElem?_append_left (by rw [← h.1]; exact hi)] at ht;exact h.2 i r t hr ht
 ·rw [List.getElem?_append_right (by omega)] at hr;rw [List.getElem?_append_right (by rw [← h.1]; omega),← h.1] at ht;exact k.2 _ r t hr ht
theorem SideT.below {n : Nat} {w w1 : World} {rows : List (List Value)} {ts : List Tr} (h : SideT n w rows ts) (hb : Below w.heap.size w w1) : SideT n w1 rows ts := ⟨h.1,fun i r t hr ht => (h.2 i r t hr ht).below hb⟩
theorem TrQ.five {n : Nat} {w : World} {r : List Value} {t : Tr} (h : TrQ n w r t) : r.length = 5 ∧ ∀ u ∈ r,u.oneCell' = true := by
 cases n with
 | zero => exact h.elim
 | succ n =>
  obtain ⟨ve,vr,rfl,_,_,_,_,h6,h7,_⟩ := h;obtain ⟨a1,c1,rfl,_⟩ := RowP.open h7;obtain ⟨a2,c2,rfl,_⟩ := h6.form2;refine ⟨rfl,fun u hu => ?_⟩;simp only [List.mem_cons,List.not_mem_nil,or_false] at hu
  rcases hu with rfl | rfl | rfl | rfl | rfl <;> rfl
theorem SideT.rows {n : Nat} {w : World} {rows : List (List Value)} {ts : List Tr} (h : SideT n w rows ts) : (∀ r ∈ rows,r.length = 5) ∧ ∀ u ∈ rows.flatten,u.oneCell' = true := by
 have each : ∀ r ∈ rows,r.length = 5 ∧ ∀ u ∈ r,u.oneCell' = true := fun r hr => by
  obtain ⟨i,hi,e⟩ := List.getElem_of_mem hr;have ht : ts[i]? = some (ts[i]'(by rw [← h.1]; exact hi)) := List.getElem?_eq_getElem _;exact (h.2 i r _ (by rw [List.getElem?_eq_getElem hi,e]) ht).five
 refine ⟨fun r hr => (each r hr).1,fun u hu => ?_⟩;obtain ⟨r,hr,hu⟩ := List.mem_flatten.1 hu;exact (each r hr).2 u hu
theorem TrsQ_side {n : Nat} {w : World} {v : Value} {ts : List Tr} (h : TrsQ n w v ts) : ∃ rows,RowG w v 5 rows ∧ SideT n w rows ts := by
 obtain ⟨rows,h1,h2,h3⟩ := h;refine ⟨rows,h1,h2,fun i r t hr ht => ?_⟩;obtain ⟨r',e,hp⟩ := h3 i t ht;rw [hr] at e
 cases e
 exact hp
theorem SideT.row {n : Nat} {w : World} {rows : List (List Value)} {ts : List Tr} (h : SideT n w rows ts) {B k : Nat} {v : Value} (ho : w.ownsRow B 30 5 v k rows.flatten) : TrsQ n w v ts := by
 refine ⟨rows,(RowG.own h.rows.1 (by decide) ho).1,h.1,fun i t ht => ?_⟩;obtain ⟨r,hr⟩ : ∃ r,rows[i]? = some r := ⟨_,List.getElem?_eq_getElem (by rw [h.1]; exact (List.getElem?_eq_some_iff.1 ht).1)⟩;exact ⟨r,hr,h.2 i r t hr ht⟩
def subsL (M : List (List (Int × List Tr))) : List Tr := M.flatMap subs
theorem subs_snoc (es : List (Int × List Tr)) (e : Int × List Tr) : subs (es ++ [e]) = subs es ++ e.2 := by simp [subs,List.flatMap_append]
theorem subsL_snoc (M : List (List (Int × List Tr))) (m : List (Int × List Tr)) : subsL (M ++ [m]) = subsL M ++ subs m := by simp [subsL,List.flatMap_append]
theorem take_atQ {α : Type} {l : List α} {i : Nat} {x : α} (h : l[i]? = some x) : l.take (i + 1) = l.take i ++ [x] := by
 obtain ⟨hl,rfl⟩ := List.getElem?_eq_some_iff.1 h;rw [List.take_succ_eq_append_getElem hl]
theorem subs_take_le (m : List (Int × List Tr)) (j : Nat) : (subs (m.take j)).length ≤ (subs m).length := by
 have : subs m = subs (m.take j) ++ subs (m.drop j) := by rw [subs,subs,subs,← List.flatMap_append,List.take_append_drop]
 rw [this,List.length_append]
 omega
theorem subsL_take_le (M : List (List (Int × List Tr))) (j : Nat) : (subsL (M.take j)).length ≤ (subsL M).length := by
 have : subsL M = subsL (M.take j) ++ subsL (M.drop j) := by rw [subsL,subsL,subsL,← List.flatMap_append,List.take_append_drop]
 rw [this,List.length_append]
 omega
theorem acc_le {M : List (List (Int × List Tr))} {m : List (Int × List Tr)} {i j : Nat} (h : M[i]? = some m) : (subsL (M.take i) ++ subs (m.take j)).length ≤ (subsL M).length := by
 refine Nat.le_trans ?_ (subsL_take_le M (i + 1));rw [take_atQ h,subsL_snoc,List.length_append,List.length_append];have := subs_take_le m j
 omega
def InsP (n : Nat) (M : List (List (Int × List Tr))) (w : World) (e : Ending) (w' : World) : Prop := ∃ v,e = .returned v ∧ TrsQ n w' v (subsL M) ∧ Below w.heap.size w w'
theorem inside_any (n : Nat) (v : Value) (M : List (List (Int × List Tr))) (w : World) (h : LvQ n w v M) (hl : (subsL M).length ≤ 5000) :
  Calls Try.prog 43 #[v] w (InsP n M w) := by
 obtain ⟨a,cap,rfl,h1,h2, -⟩ := RowP.open h;obtain ⟨N,hN⟩ : ∃ N,M.length = N := ⟨_,rfl⟩;rw [hN] at h1 ⊢;have HH : Hid (LvQ n w (.slice a N cap) M) := (by rw [← hN]; exact h : LvQ n w (.slice a N cap) M);have HN : Hid (M.length = N) := hN;have HL : Hid ((subsL M).length ≤ 5000) := hl;unfold maxLen at h2;clear h hN hl
 go_enter Try.func43,Try.ntmps43
 go_wp2_with fail
 go_loopw [3,10] (fun ov iv wr => ∃ (i k : Nat) (oa : Option Addr) (oc : Nat) (rows : List (List Value)),iv = .int .i64 (i : Int) ∧ ov = .slice oa k oc ∧ i ≤ N ∧ Hid (SideT n w rows (subsL (M.take i))) ∧ Hid (wr.ownsRow w.heap.size 30 5 (.slice oa k oc) k rows.flatten) ∧ Below w.heap.size w wr) (fun _ iv _ => N - (intOf iv).toNat)
 case atStart => exact ⟨0,0,none,0,[],rfl,rfl,by omega,(⟨rfl,by simp⟩ : SideT n w [] (subsL (M.take 0))),World.ownsRow_nil _ _ _ _,Below.refl _ _⟩
 case round =>
  obtain ⟨i,k,oa,oc,rows,rfl,rfl,hi,HS,HO,hbel⟩ := hrel
  by_cases hlt : i < N
  ·obtain ⟨m,hm⟩ : ∃ r,M[i]? = some r := ⟨_,List.getElem?_eq_getElem (by rw [HN.out]; exact hlt)⟩;obtain ⟨g,off,rfl,r,⟨ve,rfl,he,hp⟩,hc⟩ := HH.out.get hm;obtain ⟨ea,ec,rfl,e1,e2, -⟩ := RowP.open he;have c0 := (hbel.cell (World.block_lt_of_cell? _ _ (hc 0 _ rfl))).trans (hc 0 _ rfl);simp only [Nat.mul_one,Nat.add_zero] at c0;obtain ⟨El,hEl⟩ : ∃ N,m.length = N := ⟨_,rfl⟩;rw [hEl] at e1 c0;have HE : Hid (EnsQ n w (.slice ea El ec) m) := (by rw [← hEl]; exact he : EnsQ n w (.slice ea El ec) m);have HEl : Hid (m.length = El) := hEl;have HM : Hid (M[i]? = some m) := hm;unfold maxLen at e2;clear hc he hp hm hEl;go_wp2_with fail;clear c0
   go_loopw [3,16] (fun ov jv wz => ∃ (j k : Nat) (oa : Option Addr) (oc : Nat) (rows : List (List Value)),jv = .int .i64 (j : Int) ∧ ov = .slice oa k oc ∧ j ≤ El ∧ Hid (SideT n w rows (subsL (M.take i) ++ subs (m.take j))) ∧ Hid (wz.ownsRow w.heap.size 30 5 (.slice oa k oc) k rows.flatten) ∧ Below w.heap.size w wz) (fun _ jv _ => El - (intOf jv).toNat)
   case atStart => exact ⟨0,k,oa,oc,rows,rfl,rfl,by omega,(by simpa [subs] using HS.out : SideT n w rows (subsL (M.take i) ++ subs (m.take 0))),HO,hbel⟩
   case round =>
    clear HS HO hbel;obtain ⟨j,k,oa,oc,rows,rfl,rfl,hj,HS,HO,hbel⟩ := hrel
    by_cases hlt2 : j < El
    ·obtain ⟨x,hx⟩ : ∃ r,m[j]? = some r := ⟨_,List.getElem?_eq_getElem (by rw [HEl.out]; exact hlt2)⟩;obtain ⟨ge,offe,rfl,r,⟨vt,rfl, -,ht⟩,hc⟩ := HE.out.get hx;obtain ⟨ta,tc,rfl, -⟩ := RowP.open ht;have c0 := (hbel.cell (World.block_lt_of_cell? _ _ (hc 0 _ rfl))).trans (hc 0 _ rfl);have c1 := (hbel.cell (World.block_lt_of_cell? _ _ (hc 1 _ rfl))).trans (hc 1 _ rfl);simp only [Nat.add_zero] at c0;obtain ⟨rs,hrg,hsd⟩ := TrsQ_side ht;have hal : Below wr.heap.size wr (wr.alloc (Obj.cells #[.int .i64 x.1,.slice ta x.2.length tc] 57)) := (Below.refl _ _).alloc (Nat.le_refl _) _;have hb2 : Below w.heap.size w (wr.alloc (Obj.cells #[.int .i64 x.1,.slice ta x.2.length tc] 57)) := hbel.trans (hal.mono hbel.size)
     have hlen : k + rs.length ≤ 5000 := by
      have h1 := acc_le (j := j + 1) HM.out;rw [take_atQ hx,subs_snoc] at h1;have h2 := HL.out;have h3 := HS.out.1;have h4 := hsd.1;have h5 := (RowG.own HS.out.rows.1 (by decide) HO.out).2;simp only [List.length_append] at h1 h3
      omega
     obtain ⟨v',W4,r1,r2,r3⟩ := run_joinG (w := wr.alloc (Obj.cells #[.int .i64 x.1,.slice ta x.2.length tc] 57)) 55 55 30 5 80 _ Try.underlying55 infoTq rfl (by decide) w.heap.size (.slice oa k oc) k rows.flatten (own_below HO.out hal) (.slice ta x.2.length tc) rs (hrg.below hb2) hsd.rows.1 hsd.rows.2 (by omega) (by decide) hb2.size;have HRUN : Hid _ := r1;have HS4 : Hid (SideT n w (rows ++ rs) (subsL (M.take i) ++ subs (m.take (j + 1)))) := (by rw [take_atQ hx,subs_snoc,← List.append_assoc]; exact HS.out.append hsd : SideT n w (rows ++ rs) (subsL (M.take i) ++ subs (m.take (j + 1))));have hb4 : Below w.heap.size w W4 := hb2.grown r3 hb2.size (fun q hq => (own_lt HO.out hq).1);rw [← List.flatten_append] at r2;obtain ⟨na,nc,hv'⟩ := own_form r2;subst hv';have HO4 : Hid (W4.ownsRow w.heap.size 30 5 (.slice na (k + rs.length) nc) (k + rs.length) (rows ++ rs).flatten) := r2;clear r1 r2 r3 hrg hsd hc ht hx HS HO;generalize x.2.length = Xl at *;generalize x.1 = xt at *;generalize k + rs.length = k2 at *
     go_wp2_with (first | (at_builtin; refine wpList_ran rfl (append_run rfl rfl rfl HRUN.out) ?_) | fail)
     clear HRUN c0 c1 hal hb2 hbel
     go_roundw
     case rel => exact ⟨j + 1,k2,na,nc,_,by go_num,rfl,by omega,HS4,HO4,hb4⟩
     case measure => simp [intOf]; omega
    ·have HS5 : Hid (SideT n w rows (subsL (M.take (i + 1)))) := (by
      have := HS.out;rw [List.take_of_length_le (l := m) (by rw [HEl.out]; omega)] at this;rw [take_atQ HM.out,subsL_snoc]
      exact this : SideT n w rows (subsL (M.take (i + 1))))
     clear HS;go_wp2_with fail
     go_roundw
     case rel => exact ⟨i + 1,k,oa,oc,rows,by go_num,rfl,by omega,HS5,HO,hbel⟩
     case measure => simp [intOf]; omega
  ·go_wp2_with fail;go_ret;have h5 := HS.out;rw [List.take_of_length_le (by rw [HN.out]; omega)] at h5;exact ⟨_,rfl,(h5.below hbel).row HO.out,hbel⟩
def cntL (m : Nat) (ts : List Tr) : Nat := (ts.map (cntN m)).sum
theorem blk_new2T (w : World) (o : Obj) (cs : Array Value) (t : TypeId) : Blk ((w.alloc o).alloc (.cells cs t)) (w.heap.size + 1) cs t := by
 have := Blk.new (w.alloc o) cs t
 rwa [show (w.alloc o).heap.size = w.heap.size + 1 from by simp] at this
end
end Go.Proofs.Ytmgbhicogmclgaa

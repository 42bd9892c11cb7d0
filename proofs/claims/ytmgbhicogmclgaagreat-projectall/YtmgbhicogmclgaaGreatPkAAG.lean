/- Part 7 of what the proof stands on. -/
import Derived.Test.YtmgbhicogmclgaaGreatPkAAF
import Derived.Deep.Cut
import Derived.Deep.CutRange
namespace Go.Proofs.YtmgbhicogmclgaaGreat
set_option maxHeartbeats 8000000
set_option linter.unusedVariables false
set_option linter.unusedSimpArgs false
set_option maxRecDepth 20000
section
open Go.ChangeShapes Go.WideShapes Go.ChangeAt Go.RowKit
theorem pt4 (w : World) (c1 c2 c3 c4 : Array Value) (t1 t2 t3 t4 : TypeId) : Blk ((((w.alloc (.cells c1 t1)).alloc (.cells c2 t2)).alloc (.cells c3 t3)).alloc (.cells c4 t4)) w.heap.size c1 t1 ∧ Blk ((((w.alloc (.cells c1 t1)).alloc (.cells c2 t2)).alloc (.cells c3 t3)).alloc (.cells c4 t4)) (w.heap.size + 1) c2 t2 ∧ Blk ((((w.alloc (.cells c1 t1)).alloc (.cells c2 t2)).alloc (.cells c3 t3)).alloc (.cells c4 t4)) (w.heap.size + 2) c3 t3 ∧ Blk ((((w.alloc (.cells c1 t1)).alloc (.cells c2 t2)).alloc (.cells c3 t3)).alloc (.cells c4 t4)) (w.heap.size + 3) c4 t4 ∧ Below w.heap.size w ((((w.alloc (.cells c1 t1)).alloc (.cells c2 t2)).alloc (.cells c3 t3)).alloc (.cells c4 t4)) := pblk4 w c1 c2 c3 c4 t1 t2 t3 t4
theorem leaf_of {n : Nat} {x : Tr} (hok : okN n x = true) (hsm : SmN n x) (hk : x.kind = 1 ∨ x.kind = 2) : ∃ m,n = m + 1 ∧ x.es = [] ∧ x.rest = [] := by
 cases n with
 | zero => exact hsm.elim
 | succ m =>
  have hlv : lvB x = true := by simp only [okN,Bool.and_eq_true] at hok; exact hok.1
  unfold lvB at hlv
  rcases hk with e | e
  ·rw [if_pos e] at hlv; simp at hlv; exact ⟨m,rfl,hlv.1.2,hlv.2⟩
  ·rw [if_neg (by rw [e]; decide),if_pos e] at hlv; simp at hlv; exact ⟨m,rfl,hlv.1.2,hlv.2⟩
theorem ptree_any {s : ScS} {W0 : World} {n : Nat} {sn : ByteArray} {ma ea ta : Option Addr} {mn mc en ec tn tc : Nat} (IH : MsgC s W0 n sn ma ea ta mn mc en ec tn tc)
  (b : Nat) (F : Nat → Prop) (f : FlS) (x : Tr) (K N : Int) (S : ByteArray) (a1 a2 : Option Addr) (n1 c1 n2 c2 : Nat) (w : World) (hk : 1 ≤ f.kind ∧ f.kind ≤ 7) (hp : pfitB f x = true) (hKn : KnP s W0 w b F) (hx : TrW n W0 (.agg #[.int .i64 K,.int .i64 N,.string S,.slice a1 n1 c1,.slice a2 n2 c2]) x) (hok : okN n x = true) (hsm : SmN n x) :
  Calls Tryz.prog 113 #[.agg #[.string sn,.slice ma mn mc,.slice ea en ec,.slice ta tn tc,.map (some b)],.agg #[.int .i64 f.kind,.string f.tname],.agg #[.int .i64 K,.int .i64 N,.string S,.slice a1 n1 c1,.slice a2 n2 c2]] w (SeenP s W0 b F n (oneP (prM n s) f x) w) := by
 have hkx : x.kind = kindT f.kind := by simp only [pfitB,Bool.and_eq_true,decide_eq_true_eq] at hp; exact hp.1
 obtain ⟨p1,p2,p3, -, -⟩ := hx.parts;obtain ⟨-, -, -, -, -, -, -,h64K,h64N,hsz, -⟩ := hx.open;have HIH : Hid (x.kind = 3 → ∀ w2,KnP s W0 w2 b F → Calls Tryz.prog 23 #[.agg #[.string sn,.slice ma mn mc,.slice ea en ec,.slice ta tn tc,.map (some b)],.string f.tname,.agg #[.int .i64 K,.int .i64 N,.string S,.slice a1 n1 c1,.slice a2 n2 c2]] w2 (SeenP s W0 b F n (prM n s f.tname x) w2)) := fun h3 w2 h2 => IH b F f.tname x K N S a1 a2 n1 c1 n2 c2 w2 h2 hx h3 hok hsm
 have HLF : Hid (x.kind = 1 ∨ x.kind = 2 → ∃ m,n = m + 1 ∧ x = ⟨K,N,S,[],[]⟩ ∧ Is64 K ∧ Is64 N ∧ S.size ≤ 140737488351232) := fun h => by
  obtain ⟨m,h1,h2,h3⟩ := leaf_of hok hsm h;refine ⟨m,h1,?_,p1 ▸ h64K,p2 ▸ h64N,p3 ▸ hsz⟩
  cases x; simp_all
 have HKN : Hid (KnP s W0 w b F) := hKn;have HXK : Hid (x.kind = kindT f.kind) := hkx;obtain ⟨T,hT⟩ : ∃ T,oneP (prM n s) f x = T := ⟨_,rfl⟩;have HT : Hid ((if f.kind = 1 then ⟨1,clampI x.n,⟨#[]⟩,[],[]⟩ else if f.kind = 7 then prM n s f.tname x else x) = T) := hT;rw [hT];clear hT hp hkx h64K h64N hsz hx hok hsm IH hKn p1 p2 p3;generalize f.kind = k at *;generalize f.tname = tm at *
 have hc : k = 1 ∨ k = 7 ∨ (k = 2 ∨ k = 3 ∨ k = 4 ∨ k = 5 ∨ k = 6) := by omega
 obtain ⟨BS,BY,BT,BR,hbw⟩ := pt4 w #[.string sn,.slice ma mn mc,.slice ea en ec,.slice ta tn tc,.map (some b)] #[.int .i64 k,.string tm] #[.int .i64 K,.int .i64 N,.string S,.slice a1 n1 c1,.slice a2 n2 c2] #[.int .i64 0,.int .i64 0,.string ⟨#[]⟩,.slice none 0 0,.slice none 0 0] 74 54 30 30
 rcases hc with rfl | rfl | hc
 ·skip
  obtain ⟨m,rfl,rfl,k1,k2,k3⟩ := HLF.out (.inl (by rw [HXK.out]; rfl));have hK1 : K = 1 := HXK.out;subst hK1;have HTT : Hid ((⟨1,clampI N,⟨#[]⟩,[],[]⟩ : Tr) = T) := HT.out;have HC : Hid (∀ W,Calls Tryz.prog 13 #[.int .i64 N] W fun e w' => e = .returned (.int .i64 (clampI N)) ∧ Below W.heap.size W w') := fun W => clamp_any N W
  have HCI : Hid (-2147483648 ≤ clampI N ∧ clampI N ≤ 2147483647) := clampI_in N;clear HIH HLF HXK HT k1 k2 k3;generalize clampI N = C at *
  go_enter Tryz.func113,Tryz.ntmps113
  go_upto_region 3 with fail
  generalize ((((w.alloc (Obj.cells #[.string sn,.slice ma mn mc,.slice ea en ec,.slice ta tn tc,.map (some b)] 74)).alloc (Obj.cells #[.int .i64 1,.string tm] 54)).alloc (Obj.cells #[.int .i64 1,.int .i64 N,.string S,.slice a1 n1 c1,.slice a2 n2 c2] 30)).alloc (Obj.cells #[.int .i64 0,.int .i64 0,.string ⟨#[]⟩,.slice none 0 0,.slice none 0 0] 30)) = U0 at *;obtain ⟨b0,hb0⟩ : ∃ z,w.heap.size = z := ⟨_,rfl⟩;have HBZ : Hid (w.heap.size = b0) := hb0;rw [hb0] at BS BY BT BR
  try simp only [hb0]
  clear hb0;have hTb : ∀ W,Below U0.heap.size U0 W → W.cell? ⟨b0 + 2,0,none⟩ = some (.int .i64 1) ∧ W.cell? ⟨b0 + 2,1,none⟩ = some (.int .i64 N) := fun W hW => ⟨(BT.below hW).cell 0,(BT.below hW).cell 1⟩
  refine M_region (T := fun W => W.cell? ⟨b0 + 2,0,none⟩ = some (.int .i64 1) ∧ W.cell? ⟨b0 + 2,1,none⟩ = some (.int .i64 N)) (m := 6) (by kernel_rfl) ?_;have hd : Below U0.heap.size U0 U0.drew := (Below.refl _ _).drew;have hS := hTb _ hd;refine M_take 0 11 (.pointer (some ⟨b0 + 2,0,none⟩)) _ rfl rfl (by kernel_rfl) (by kernel_rfl) (by kernel_rfl) (by kernel_rfl) (by kernel_rfl) (fun _ _ _ h => h) (by rfl) (fun w' hw' => ?_) hS (listed' := bts 7 1) (by kernel_rfl) rfl ?_
  ·go_simp
  simp only [zsA,zsZ,zsS];refine M_take 1 12 (.int .i64 1) _ rfl rfl (by kernel_rfl) (by kernel_rfl) (by kernel_rfl) (by kernel_rfl) (by kernel_rfl) (fun _ _ _ h => h) (by rfl) (fun w' hw' => ?_) hS (listed' := bts 7 3) (by kernel_rfl) rfl ?_
  ·obtain ⟨f3,f4⟩ := hw'; go_simp
  simp only [zsA,zsZ,zsS];refine M_take 2 13 (.pointer (some ⟨b0 + 2,1,none⟩)) _ rfl rfl (by kernel_rfl) (by kernel_rfl) (by kernel_rfl) (by kernel_rfl) (by kernel_rfl) (fun _ _ _ h => h) (by rfl) (fun w' hw' => ?_) hS (listed' := bts 7 7) (by kernel_rfl) rfl ?_
  ·go_simp
  simp only [zsA,zsZ,zsS];refine M_take 3 14 (.int .i64 N) _ rfl rfl (by kernel_rfl) (by kernel_rfl) (by kernel_rfl) (by kernel_rfl) (by kernel_rfl) (fun _ _ _ h => h) (by rfl) (fun w' hw' => ?_) hS (listed' := bts 7 15) (by kernel_rfl) rfl ?_
  ·obtain ⟨f3,f4⟩ := hw'; go_simp
  simp only [zsA,zsZ,zsS];refine M_call 4 15 13 #[.int .i64 N] rfl rfl (by kernel_rfl) (by rfl) (listed' := bts 7 31) (by kernel_rfl) (fun W => by go_simp) ?_;refine (HC.out _).mono ?_;rintro e W1 ⟨rfl,hb1⟩;have hd1 : Below U0.heap.size U0 W1 := hd.trans (hb1.mono hd.size);have hS := hTb _ hd1;refine ⟨_,rfl,hS,?_⟩;simp only [zsA,zsZ,zsS];refine M_take 5 16 (.agg #[.int .i64 1,.int .i64 C,.string ⟨#[]⟩,.slice none 0 0,.slice none 0 0]) _ rfl rfl (by kernel_rfl) (by kernel_rfl) (by kernel_rfl) (by kernel_rfl) (by kernel_rfl) (fun _ _ _ h => h) (by rfl) (fun w' hw' => ?_) hS (listed' := bts 7 63) (by kernel_rfl) rfl ?_
  ·go_simp
  simp only [zsA,zsZ,zsS];have BR1 := BR.below hd1;have r0 := (BR1.cell 0).trans rfl;have z0 := BR1.froz 0;have r1 := (BR1.cell 1).trans rfl;have z1 := BR1.froz 1;have r2 := (BR1.cell 2).trans rfl;have z2 := BR1.froz 2;have r3 := (BR1.cell 3).trans rfl;have z3 := BR1.froz 3;have r4 := (BR1.cell 4).trans rfl;have z4 := BR1.froz 4;have hfin : Blk (set5 W1 (b0 + 3) 0 (.int .i64 1) (.int .i64 C) (.string ⟨#[]⟩) (.slice none 0 0) (.slice none 0 0)) (b0 + 3) #[.int .i64 1,.int .i64 C,.string ⟨#[]⟩,.slice none 0 0,.slice none 0 0] 30 := blk_set5 BR1;have hbe : Below w.heap.size w (set5 W1 (b0 + 3) 0 (.int .i64 1) (.int .i64 C) (.string ⟨#[]⟩) (.slice none 0 0) (.slice none 0 0)) := (hbw.trans (hd1.mono hbw.size)).trans ((set5_kp W1 (b0 + 3) 0 (.int .i64 1) (.int .i64 C) (.string ⟨#[]⟩) (.slice none 0 0) (.slice none 0 0)).toBelow (Nat.le_trans hbw.size hd1.size) fun q e => by rw [e,HBZ.out]; omega);refine M_store 6 (set5 W1 (b0 + 3) 0 (.int .i64 1) (.int .i64 C) (.string ⟨#[]⟩) (.slice none 0 0) (.slice none 0 0)) rfl rfl (by kernel_rfl) (by rfl) (listed' := bts 7 127) (by kernel_rfl) (by unfold set5; go_simp) (by kernel_rfl) ?_;refine M_done (by kernel_rfl) ?_ _;clear r0 z0 r1 z1 r2 z2 r3 z3 r4 z4 hS;generalize (set5 W1 (b0 + 3) 0 (.int .i64 1) (.int .i64 C) (.string ⟨#[]⟩) (.slice none 0 0) (.slice none 0 0)) = W3 at *;have r0 := (hfin.cell 0).trans rfl;have r1 := (hfin.cell 1).trans rfl;have r2 := (hfin.cell 2).trans rfl;have r3 := (hfin.cell 3).trans rfl;have r4 := (hfin.cell 4).trans rfl
  have HRF : Hid (SeenP s W0 b F (m + 1) T w (.returned (.agg #[.int .i64 1,.int .i64 C,.string ⟨#[]⟩,.slice none 0 0,.slice none 0 0])) W3) := (by
   rw [← HTT.out];refine ⟨[.int .i64 1,.int .i64 C,.string ⟨#[]⟩,.slice none 0 0,.slice none 0 0],F,rfl,Grw.below HKN.out hbe,leaf_see (by constructor <;> decide) ?_ (by show (0 : Nat) ≤ _; omega)⟩;have := HCI.out
   constructor <;> omega : SeenP s W0 b F (m + 1) T w _ W3)
  clear HTT HCI HKN hbe;go_wp2_with fail;exact bodyPost_ret (results_cell rfl _ _ _ ⟨b0 + 3,0,none⟩ (.agg #[.int .i64 1,.int .i64 C,.string ⟨#[]⟩,.slice none 0 0,.slice none 0 0]) (by go_simp) (by go_simp)) rfl HRF.out
 ·skip
  have HTT : Hid (prM n s tm x = T) := HT.out;have HI : Hid (∀ w2,KnP s W0 w2 b F → Calls Tryz.prog 23 #[.agg #[.string sn,.slice ma mn mc,.slice ea en ec,.slice ta tn tc,.map (some b)],.string tm,.agg #[.int .i64 K,.int .i64 N,.string S,.slice a1 n1 c1,.slice a2 n2 c2]] w2 (SeenP s W0 b F n T w2)) := (by rw [← HTT.out]; exact HIH.out (by rw [HXK.out]; rfl));clear HIH HLF HXK HT
  go_enter Tryz.func113,Tryz.ntmps113
  go_upto_region 5 with fail
  generalize ((((w.alloc (Obj.cells #[.string sn,.slice ma mn mc,.slice ea en ec,.slice ta tn tc,.map (some b)] 74)).alloc (Obj.cells #[.int .i64 7,.string tm] 54)).alloc (Obj.cells #[.int .i64 K,.int .i64 N,.string S,.slice a1 n1 c1,.slice a2 n2 c2] 30)).alloc (Obj.cells #[.int .i64 0,.int .i64 0,.string ⟨#[]⟩,.slice none 0 0,.slice none 0 0] 30)) = U0 at *;obtain ⟨b0,hb0⟩ : ∃ z,w.heap.size = z := ⟨_,rfl⟩;have HBZ : Hid (w.heap.size = b0) := hb0;rw [hb0] at BS BY BT BR
  try simp only [hb0]
  clear hb0;have s0 := (BS.cell 0).trans rfl;have s1 := (BS.cell 1).trans rfl;have s2 := (BS.cell 2).trans rfl;have s3 := (BS.cell 3).trans rfl;have s4 := (BS.cell 4).trans rfl;have t0 := (BT.cell 0).trans rfl;have t1 := (BT.cell 1).trans rfl;have t2 := (BT.cell 2).trans rfl;have t3 := (BT.cell 3).trans rfl;have t4 := (BT.cell 4).trans rfl;have y1 := (BY.cell 1).trans rfl;go_wp2_with fail;refine (HI.out _ (HKN.out.mk_below hbw)).mono ?_;rintro e W1 ⟨r,G,rfl,hg,hse⟩;obtain ⟨q1,q2,q3,q4,q5,q6,rfl⟩ := trC_open hse.now.trQ.trC;have hnb : b0 + 3 ≠ b := (HKN.out.mk_below hbw).neB BR
  have hnF : ¬ F (b0 + 3) := fun e => by have := (HKN.out.new _ e).2; rw [HBZ.out] at this; omega
  have hnG : ¬ G (b0 + 3) := hg.fresh BR hnF;have BR1 := BR.kp hg.kp hnb;have hg1 := hg.before hbw;clear HI s0 s1 s2 s3 s4 t0 t1 t2 t3 t4 y1 BS BY BT;have r0 := (BR1.cell 0).trans rfl;have z0 := BR1.froz 0;have r1 := (BR1.cell 1).trans rfl;have z1 := BR1.froz 1;have r2 := (BR1.cell 2).trans rfl;have z2 := BR1.froz 2;have r3 := (BR1.cell 3).trans rfl;have z3 := BR1.froz 3;have r4 := (BR1.cell 4).trans rfl;have z4 := BR1.froz 4;have hk5 := set5_kp W1 (b0 + 3) 0 (.int .i64 T.kind) (.int .i64 T.n) (.string T.s) (.slice q1 q2 q3) (.slice q4 q5 q6)
  have hs5 : ∀ q,q = b0 + 3 → w.heap.size ≤ q ∧ ¬ G q ∧ q ≠ b := fun q e => by subst e; exact ⟨by rw [HBZ.out]; omega,hnG,hnb⟩
  have hfin : Blk (set5 W1 (b0 + 3) 0 (.int .i64 T.kind) (.int .i64 T.n) (.string T.s) (.slice q1 q2 q3) (.slice q4 q5 q6)) (b0 + 3) #[.int .i64 T.kind,.int .i64 T.n,.string T.s,.slice q1 q2 q3,.slice q4 q5 q6] 30 := blk_set5 BR1;have HRF : Hid (SeenP s W0 b F n T w (.returned (.agg #[.int .i64 T.kind,.int .i64 T.n,.string T.s,.slice q1 q2 q3,.slice q4 q5 q6])) (set5 W1 (b0 + 3) 0 (.int .i64 T.kind) (.int .i64 T.n) (.string T.s) (.slice q1 q2 q3) (.slice q4 q5 q6))) := ⟨_,G,rfl,hg1.after HKN.out.below.size hk5 hs5,hse.stay (hg1.stay hk5 hs5)⟩;clear hse hg hg1 hk5 hs5 hnb hnF hnG HTT HKN hbw;unfold set5 at hfin HRF;generalize T.kind = TK at *;generalize T.n = TN at *;generalize T.s = TS at *;go_wp2_with fail;clear r0 z0 r1 z1 r2 z2 r3 z3 r4 z4;have r0 := (hfin.cell 0).trans rfl;have r1 := (hfin.cell 1).trans rfl;have r2 := (hfin.cell 2).trans rfl;have r3 := (hfin.cell 3).trans rfl;have r4 := (hfin.cell 4).trans rfl;exact bodyPost_ret (results_cell rfl _ _ _ ⟨b0 + 3,0,none⟩ (.agg #[.int .i64 TK,.int .i64 TN,.string TS,.slice q1 q2 q3,.slice q4 q5 q6]) (by go_simp) (by go_simp)) rfl HRF.out
 ·skip
  obtain ⟨m,rfl,rfl,k1,k2,k3⟩ := HLF.out (by rw [HXK.out]; rcases hc with rfl | rfl | rfl | rfl | rfl <;> simp [kindT])
  have HTT : Hid ((⟨K,N,S,[],[]⟩ : Tr) = T) := by have := HT.out; rw [if_neg (by omega),if_neg (by omega)] at this; exact this
  have d1 : (k == 1) = false := by simp; omega
  have d7 : (k == 7) = false := by simp; omega
  have HLK : Hid (Is64 K ∧ Is64 N ∧ S.size ≤ 140737488351232) := ⟨k1,k2,k3⟩;clear HIH HLF HXK HT k1 k2 k3 hc hk
  go_enter Tryz.func113,Tryz.ntmps113
  go_upto_region 6 with fail
  generalize ((((w.alloc (Obj.cells #[.string sn,.slice ma mn mc,.slice ea en ec,.slice ta tn tc,.map (some b)] 74)).alloc (Obj.cells #[.int .i64 k,.string tm] 54)).alloc (Obj.cells #[.int .i64 K,.int .i64 N,.string S,.slice a1 n1 c1,.slice a2 n2 c2] 30)).alloc (Obj.cells #[.int .i64 0,.int .i64 0,.string ⟨#[]⟩,.slice none 0 0,.slice none 0 0] 30)) = U0 at *;obtain ⟨b0,hb0⟩ : ∃ z,w.heap.size = z := ⟨_,rfl⟩;have HBZ : Hid (w.heap.size = b0) := hb0;rw [hb0] at BS BY BT BR
  try simp only [hb0]
  clear hb0;have t0 := (BT.cell 0).trans rfl;have t1 := (BT.cell 1).trans rfl;have t2 := (BT.cell 2).trans rfl;have r0 := (BR.cell 0).trans rfl;have z0 := BR.froz 0;have r1 := (BR.cell 1).trans rfl;have z1 := BR.froz 1;have r2 := (BR.cell 2).trans rfl;have z2 := BR.froz 2;have r3 := (BR.cell 3).trans rfl;have z3 := BR.froz 3;have r4 := (BR.cell 4).trans rfl;have z4 := BR.froz 4;have hk5 := set5_kp U0 (b0 + 3) 0 (.int .i64 K) (.int .i64 N) (.string S) (.slice none 0 0) (.slice none 0 0);have hfin : Blk (set5 U0 (b0 + 3) 0 (.int .i64 K) (.int .i64 N) (.string S) (.slice none 0 0) (.slice none 0 0)) (b0 + 3) #[.int .i64 K,.int .i64 N,.string S,.slice none 0 0,.slice none 0 0] 30 := blk_set5 BR;have hbe : Below w.heap.size w (set5 U0 (b0 + 3) 0 (.int .i64 K) (.int .i64 N) (.string S) (.slice none 0 0) (.slice none 0 0)) := hbw.trans (hk5.toBelow hbw.size fun q e => by rw [e,HBZ.out]; omega)
  have HRF : Hid (SeenP s W0 b F (m + 1) T w (.returned (.agg #[.int .i64 K,.int .i64 N,.string S,.slice none 0 0,.slice none 0 0])) (set5 U0 (b0 + 3) 0 (.int .i64 K) (.int .i64 N) (.string S) (.slice none 0 0) (.slice none 0 0))) := (by
   rw [← HTT.out]
   exact ⟨_,F,rfl,Grw.below HKN.out hbe,leaf_see HLK.out.1 HLK.out.2.1 HLK.out.2.2⟩ : SeenP s W0 b F (m + 1) T w _ _)
  clear hk5 hbe HTT HLK HKN hbw BS BY;unfold set5 at hfin HRF;go_wp2_with fail;clear r0 z0 r1 z1 r2 z2 r3 z3 r4 z4 t0 t1 t2;have r0 := (hfin.cell 0).trans rfl;have r1 := (hfin.cell 1).trans rfl;have r2 := (hfin.cell 2).trans rfl;have r3 := (hfin.cell 3).trans rfl;have r4 := (hfin.cell 4).trans rfl;exact bodyPost_ret (results_cell rfl _ _ _ ⟨b0 + 3,0,none⟩ (.agg #[.int .i64 K,.int .i64 N,.string S,.slice none 0 0,.slice none 0 0]) (by go_simp) (by go_simp)) rfl HRF.out
def SeesP (s : ScS) (W0 : World) (b : Nat) (F : Nat → Prop) (n : Nat) (T : List Tr) (w : World) (e : Ending) (w' : World) : Prop := ∃ a c G,e = .returned (.slice a T.length c) ∧ Grw s W0 b F w w' G ∧ SeeL n w' (.slice a T.length c) T G
def RowsG (n : Nat) (w : World) (G : Nat → Prop) (φ : Tr → Tr) (ts : List Tr) (rows : List (List Value)) (i : Nat) : Prop := ∀ (j : Nat) (x : Tr),j < i → ts[j]? = some x → ∃ r,rows[j]? = some r ∧ SeeG n w r (φ x) G
theorem RowsG.step {n i : Nat} {w w' : World} {G H : Nat → Prop} {φ : Tr → Tr} {ts : List Tr} {rows : List (List Value)} {x : Tr} {r : List Value} (h : RowsG n w G φ ts rows i) (hs : ∀ r x,SeeG n w r x G → SeeG n w' r x H) (hx : ts[i]? = some x) (hi : i < rows.length) (hr : SeeG n w' r (φ x) H) : RowsG n w' H φ ts (rows.set i r) (i + 1) := fun j y hj hy => by
 by_cases hji : j = i
 ·subst hji;rw [hx] at hy
  obtain rfl : x = y := by simpa using hy
  exact ⟨r,by rw [List.getElem?_set,if_pos rfl,if_pos hi],hr⟩
 ·obtain ⟨q,g1,g2⟩ := h j y (by omega) hy;exact ⟨q,by rw [List.getElem?_set,if_neg (Ne.symm hji)]; exact g1,hs _ _ g2⟩
theorem RowsG.done {s : ScS} {W0 w wr : World} {b : Nat} {F G : Nat → Prop} {n N g B : Nat} {φ : Tr → Tr} {ts : List Tr} {rows : List (List Value)} (h : RowsG n wr G φ ts rows N) (hN : ts.length = N) (ho : wr.ownsRow B 30 5 (.slice (some ⟨g,0,none⟩) N N) N rows.flatten ∧ rows.length = N ∧ ∀ r ∈ rows,r.length = 5) (hg : Grw s W0 b F w wr G) (hw : W0.heap.size ≤ w.heap.size) (hgw : w.heap.size ≤ g) : SeesP s W0 b F n (ts.map φ) w (.returned (.slice (some ⟨g,0,none⟩) N N)) wr := by
 obtain ⟨h1,h2,h3⟩ := ho;have hgl : g < wr.heap.size := (own_lt h1 (k := g) rfl).2
 have hgb : g ≠ b := by
  rcases h1.2 with ⟨e,_⟩ | ⟨g',cap,cur,e,g1,g2,_⟩
  ·cases e
  ·simp only [Value.slice.injEq,Option.some.injEq,Addr.mk.injEq,and_true,true_and] at e;obtain ⟨rfl, -⟩ := e;exact hg.kn.neB g2
 refine ⟨some ⟨g,0,none⟩,N,fun k => G k ∨ k = g,by rw [List.length_map,hN],hg.more (fun k e => .inl e) (fun k e => e.imp id fun e => by subst e; exact ⟨hgw,hgl⟩) hw (fun e => by
  rcases e with e | e
  ·exact hg.kn.nb e
  ·exact hgb e.symm),fun w' hw' => ?_⟩
 have h1' : w'.ownsRow B 30 5 (.slice (some ⟨g,0,none⟩) N N) N rows.flatten := by
  refine ⟨h1.1,h1.2.imp id ?_⟩;rintro ⟨g',cap,cur,e,g1,g2,g3⟩
  have hgg : g' = g := by
   simp only [Value.slice.injEq,Option.some.injEq,Addr.mk.injEq,and_true,true_and] at e;exact e.1.symm
  exact ⟨g',cap,cur,e,g1,(hw' g' (.inr hgg)).trans g2,g3⟩
 rw [List.length_map,hN];refine ⟨rows,(RowG.own h3 (by decide) h1').1,by rw [h2,List.length_map,hN],fun i y hy => ?_⟩;rw [List.getElem?_map,Option.map_eq_some_iff] at hy;obtain ⟨x,hx,rfl⟩ := hy;obtain ⟨r,g1,g2⟩ := h i x (by rw [← hN]; exact (List.getElem?_eq_some_iff.1 hx).1) hx;exact ⟨r,g1,g2 w' (hw'.less fun k e => .inl e)⟩
theorem TrsR.tail {n : Nat} {w : World} {g off N cap : Nat} {ts : List Tr} (h : TrsR n w (.slice (some ⟨g,off,none⟩) (N + 1) cap) ts) : TrsR n w (.slice (some ⟨g,off + N * 5,none⟩) 1 (cap - N)) (ts.drop N) := by
 obtain ⟨rows,h1,h2,h3⟩ := h;obtain ⟨a,c,e,k1,k2,k3,k4⟩ := h1.form;simp only [Value.slice.injEq] at e;obtain ⟨rfl,e2,rfl⟩ := e
 have hl : (rows.drop N).length = 1 := by rw [List.length_drop]; omega
 refine ⟨rows.drop N,⟨some ⟨g,off + N * 5,none⟩,cap - N,by rw [hl],by rw [hl]; omega,by omega,(fun e => by cases e),fun hne => ⟨g,off + N * 5,rfl,fun i c u j hc hu => ?_⟩⟩,by rw [List.length_drop,List.length_drop]; omega,fun i x hx => ?_⟩
 ·obtain ⟨g',off',e3,e4⟩ := k4 (fun e => by rw [e] at e2; simp at e2);simp only [Option.some.injEq,Addr.mk.injEq,and_true] at e3;obtain ⟨rfl,rfl⟩ := e3;rw [List.getElem?_drop] at hc;have := e4 (N + i) c u j hc hu;rw [Nat.add_mul,← Nat.add_assoc] at this;exact this
 ·rw [List.getElem?_drop] at hx;obtain ⟨r,g1,g2⟩ := h3 (N + i) x hx;exact ⟨r,by rw [List.getElem?_drop]; exact g1,g2⟩
theorem ptrees_any {s : ScS} {W0 : World} {n : Nat} {sn : ByteArray} {ma ea ta : Option Addr} {mn mc en ec tn tc : Nat} (IH : MsgC s W0 n sn ma ea ta mn mc en ec tn tc)
  (b : Nat) (F : Nat → Prop) (f : FlS) (ts : List Tr) (vl : Value) (w : World) (hk : 1 ≤ f.kind ∧ f.kind ≤ 7) (hp : ts.all (pfitB f) = true) (hKn : KnP s W0 w b F) (hts : TrsR n W0 vl ts) (hl1 : 1 ≤ ts.length) (hl2 : ts.length ≤ 70) (hok : ∀ x ∈ ts,okN n x = true) (hsm : ∀ x ∈ ts,SmN n x) :
  Calls Tryz.prog 84 #[.agg #[.string sn,.slice ma mn mc,.slice ea en ec,.slice ta tn tc,.map (some b)],.agg #[.string f.name,.int .i64 f.tag,.int .i64 f.label,.int .i64 f.kind,.string f.tname],vl] w (SeesP s W0 b F n ((lastP f ts).map (oneP (prM n s) f)) w) := by
 have HTC : Hid (∀ W2 F2 x K N S a1 a2 n1 c1 n2 c2,x ∈ ts → KnP s W0 W2 b F2 → TrW n W0 (.agg #[.int .i64 K,.int .i64 N,.string S,.slice a1 n1 c1,.slice a2 n2 c2]) x → Calls Tryz.prog 113 #[.agg #[.string sn,.slice ma mn mc,.slice ea en ec,.slice ta tn tc,.map (some b)],.agg #[.int .i64 f.kind,.string f.tname],.agg #[.int .i64 K,.int .i64 N,.string S,.slice a1 n1 c1,.slice a2 n2 c2]] W2 (SeenP s W0 b F2 n (oneP (prM n s) f x) W2)) := fun W2 F2 x K N S a1 a2 n1 c1 n2 c2 hx h2 h3 => ptree_any IH b F2 f x K N S a1 a2 n1 c1 n2 c2 W2 hk (List.all_eq_true.1 hp x hx) h2 h3 (hok x hx) (hsm x hx)
 have HKN : Hid (KnP s W0 w b F) := hKn
 have HLP : Hid (∀ ys,ys = lastP f ts → (lastP f ts).map (oneP (prM n s) f) = ys.map (oneP (prM n s) f)) := fun ys e => by rw [e]
 have HLF : Hid ((f.label = 3 → lastP f ts = ts) ∧ (f.label ≠ 3 → lastP f ts = ts.drop (ts.length - 1))) := ⟨fun e => if_pos e,fun e => if_neg e⟩;obtain ⟨la,lc,rfl,t1,t2,t3, -⟩ := RowP.open hts
 obtain ⟨g0,o0,rfl⟩ : ∃ g o,la = some ⟨g,o,none⟩ := by
  rcases t3 with h | h
  ·rw [h] at hl1; simp at hl1
  ·exact h
 obtain ⟨N,hN⟩ : ∃ N,ts.length = N + 1 := ⟨ts.length - 1,by omega⟩;have HN : Hid (ts.length = N + 1) := hN;rw [hN] at hts t1 hl2 ⊢;have HTS : Hid (TrsR n W0 (.slice (some ⟨g0,o0,none⟩) (N + 1) lc) ts) := hts;unfold maxLen at t2;generalize oneP (prM n s) f = φ at *;obtain ⟨y1,y2,y3,y4,y5⟩ := f;simp only at HTC HLF ⊢;generalize lastP (⟨y1,y2,y3,y4,y5⟩ : FlS) ts = YS at *;clear hk hp hKn hts hl1 hok hsm IH t3 hN;have BF : Blk ((w.alloc (Obj.cells #[.string sn,.slice ma mn mc,.slice ea en ec,.slice ta tn tc,.map (some b)] 74)).alloc (Obj.cells #[.string y1,.int .i64 y2,.int .i64 y3,.int .i64 y4,.string y5] 56)) (w.heap.size + 1) #[.string y1,.int .i64 y2,.int .i64 y3,.int .i64 y4,.string y5] 56 := blk_new2T _ _ _ _;have BS : Blk ((w.alloc (Obj.cells #[.string sn,.slice ma mn mc,.slice ea en ec,.slice ta tn tc,.map (some b)] 74)).alloc (Obj.cells #[.string y1,.int .i64 y2,.int .i64 y3,.int .i64 y4,.string y5] 56)) w.heap.size #[.string sn,.slice ma mn mc,.slice ea en ec,.slice ta tn tc,.map (some b)] 74 := (Blk.new w _ _).below ((Below.refl _ _).alloc (Nat.le_refl _) _);have hbw : Below w.heap.size w ((w.alloc (Obj.cells #[.string sn,.slice ma mn mc,.slice ea en ec,.slice ta tn tc,.map (some b)] 74)).alloc (Obj.cells #[.string y1,.int .i64 y2,.int .i64 y3,.int .i64 y4,.string y5] 56)) := ((Below.refl _ _).alloc (Nat.le_refl _) _).alloc (by simp) _
 by_cases h3 : y3 = 3
 ·skip
  subst h3;generalize hM : N + 1 = M at *
  have hM1 : 1 ≤ M := by omega
  clear hM;have HYS : Hid (TrsR n W0 (.slice (some ⟨g0,o0,none⟩) M lc) YS) := (by rw [HLF.out.1 rfl]; exact HTS.out : TrsR n W0 _ YS);have HYN : Hid (YS.length = M) := (by rw [HLF.out.1 rfl]; exact HN.out : YS.length = M);have HYM : Hid (∀ x ∈ YS,x ∈ ts) := (by rw [HLF.out.1 rfl]; exact fun _ e => e : ∀ x ∈ YS,x ∈ ts);clear HLF HLP HTS HN;have f2 := (BF.cell 2).trans rfl
  go_enter Tryz.func84,Tryz.ntmps84
  go_upto_region 3 with fail
  clear f2;generalize ((w.alloc (Obj.cells #[.string sn,.slice ma mn mc,.slice ea en ec,.slice ta tn tc,.map (some b)] 74)).alloc (Obj.cells #[.string y1,.int .i64 y2,.int .i64 3,.int .i64 y4,.string y5] 56)) = U0 at *;obtain ⟨i0,hi0,hz0,hz1,hz2⟩ := info_parts infoTr;obtain ⟨MC,hMC⟩ : ∃ z,madeCells (Value.agg #[.int .i64 0,.int .i64 0,.string ⟨#[]⟩,.slice none 0 0,.slice none 0 0]).cells (M * 5) = z := ⟨_,rfl⟩
  have hMs : MC.size = M * 5 := by rw [← hMC,size_madeCells]
  have hmk : ∀ W : World,(Instr.makeSlice 67 (.int .i64 (M : Int)) (.int .i64 (M : Int))).run Tryz.prog W = .ok (.slice (some ⟨W.heap.size,0,none⟩) M M) (W.alloc (.cells MC 30)) := fun W => by
   have := run_makeSlice (P := Tryz.prog) W 67 30 i0 _ Tryz.underlying67 hi0 hz0 .i64 .i64 M M (by omega) (by omega) (by rw [hz1]; simp; omega) (by rw [hz2]; omega) (by omega);rw [hz1] at this;simp only [Int.toNat_natCast] at this;rw [hMC] at this;exact this
  have al : Below U0.heap.size U0 (U0.alloc (.cells MC 30)) := (Below.refl _ _).alloc (Nat.le_refl _) _;have hBg : Blk (U0.alloc (.cells MC 30)) U0.heap.size MC 30 := Blk.new U0 _ _;obtain ⟨rows0,hr1,hr2,hr3⟩ := p5_chunk M MC.toList (by rw [Array.length_toList]; exact hMs)
  have HO0 : Hid ((U0.alloc (.cells MC 30)).ownsRow W0.heap.size 30 5 (.slice (some ⟨U0.heap.size,0,none⟩) M M) M rows0.flatten ∧ rows0.length = M ∧ ∀ r ∈ rows0,r.length = 5) := ⟨by
   rw [hr1]
   exact ⟨by rw [Array.length_toList]; exact hMs,.inr ⟨_,M,MC,rfl,Nat.le_trans HKN.out.below.size hbw.size,hBg,Nat.le_refl _,by unfold maxLen; omega,hMs,List.take_of_length_le (by rw [Array.length_toList,hMs]; omega)⟩⟩,hr2,hr3⟩
  have hbA := hbw.trans (al.mono hbw.size);have HG0 : Hid (Grw s W0 b F w (U0.alloc (.cells MC 30)) F) := Grw.below HKN.out hbA;have HGW : Hid (w.heap.size + 2 ≤ U0.heap.size) := BF.lt;have BFA := BF.below al;have BSA := BS.below al
  have hnF0 : ¬ F U0.heap.size := fun e => by have := (HKN.out.new _ e).2; have := HGW.out; omega
  clear hi0 hz0 hz1 hz2 hMC hr1 hr2 hr3 hBg al hbA hbw BF BS;go_wp2_with fail;clear hmk;generalize (U0.alloc (.cells MC 30)) = WA at *;obtain ⟨g,hg⟩ : ∃ z,U0.heap.size = z := ⟨_,rfl⟩;rw [hg] at HO0 HGW hnF0;simp only [hg];clear hg;have HFB : Hid (Blk WA (w.heap.size + 1) #[.string y1,.int .i64 y2,.int .i64 3,.int .i64 y4,.string y5] 56 ∧ Blk WA w.heap.size #[.string sn,.slice ma mn mc,.slice ea en ec,.slice ta tn tc,.map (some b)] 74) := ⟨BFA,BSA⟩;have HNF0 : Hid (¬ F g) := hnF0;clear BFA BSA hnF0;obtain ⟨bw,hbw⟩ : ∃ z,w.heap.size = z := ⟨_,rfl⟩;have HBW : Hid (w.heap.size = bw) := hbw;rw [hbw] at HFB HGW;simp only [hbw];clear hbw
  go_loopw [23] (fun iv wr => ∃ (i : Nat) (G : Nat → Prop) (rows : List (List Value)),iv = .int .i64 (i : Int) ∧ i ≤ M ∧ Hid (wr.ownsRow W0.heap.size 30 5 (.slice (some ⟨g,0,none⟩) M M) M rows.flatten ∧ rows.length = M ∧ ∀ r ∈ rows,r.length = 5) ∧ Hid (RowsG n wr G φ YS rows i) ∧ Hid (Grw s W0 b F w wr G ∧ ¬ G g) ∧ Hid (Blk wr (bw + 1) #[.string y1,.int .i64 y2,.int .i64 3,.int .i64 y4,.string y5] 56 ∧ Blk wr bw #[.string sn,.slice ma mn mc,.slice ea en ec,.slice ta tn tc,.map (some b)] 74)) (fun iv _ => M - (intOf iv).toNat)
  case atStart => exact ⟨0,F,rows0,rfl,by omega,HO0,(fun j x hj => absurd hj (by omega) : RowsG n WA F φ YS rows0 0),⟨HG0.out,HNF0.out⟩,HFB⟩
  case round =>
   clear HO0 HG0 HFB HNF0;obtain ⟨i,G,rows,rfl,hi,HO,HRT,HG,HB⟩ := hrel
   by_cases hlt : i < M
   ·obtain ⟨x,hx⟩ : ∃ r,YS[i]? = some r := ⟨_,List.getElem?_eq_getElem (by rw [HYN.out]; exact hlt)⟩;obtain ⟨gx,off,a1,n1,c1,a2,n2,c2,e0,u0,u1,u2,u3,u4,hxw⟩ := trsR_get HYS.out hx;simp only [Option.some.injEq,Addr.mk.injEq,and_true] at e0;obtain ⟨rfl,rfl⟩ := e0;have hcl := fun {p : Addr} {v : Value} (h : W0.cell? p = some v) => Cel.cell (Cel.ofBelow HG.out.1.kn.below) h
    have y0 := hcl u0;have y1' := hcl u1;have y2' := hcl u2;have y3' := hcl u3;have y4' := hcl u4;have HX : Hid (YS[i]? = some x) := hx;have HXM : Hid (x ∈ ts) := HYM.out x (List.mem_of_getElem? hx);have HXW : Hid (TrW n W0 (.agg #[.int .i64 x.kind,.int .i64 x.n,.string x.s,.slice a1 n1 c1,.slice a2 n2 c2]) x) := hxw;have HTX : Hid (∀ W2,KnP s W0 W2 b G → Calls Tryz.prog 113 #[.agg #[.string sn,.slice ma mn mc,.slice ea en ec,.slice ta tn tc,.map (some b)],.agg #[.int .i64 y4,.string y5],.agg #[.int .i64 x.kind,.int .i64 x.n,.string x.s,.slice a1 n1 c1,.slice a2 n2 c2]] W2 (SeenP s W0 b G n (φ x) W2)) := fun W2 h2 => HTC.out W2 G x x.kind x.n x.s a1 a2 n1 c1 n2 c2 HXM.out h2 HXW.out
    obtain ⟨XK,hXK⟩ : ∃ z,x.kind = z := ⟨_,rfl⟩;obtain ⟨XN,hXN⟩ : ∃ z,x.n = z := ⟨_,rfl⟩;obtain ⟨XS,hXS⟩ : ∃ z,x.s = z := ⟨_,rfl⟩;rw [hXK,hXN,hXS] at HTX;rw [hXK] at y0;rw [hXN] at y1';rw [hXS] at y2';clear hx hxw u0 u1 u2 u3 u4 hcl hXK hXN hXS HXW HXM;have hbl : bw < wr.heap.size := HB.out.2.lt;have hbl1 : bw + 1 < wr.heap.size := HB.out.1.lt;have f3 := (HB.out.1.cell 3).trans rfl;have f4 := (HB.out.1.cell 4).trans rfl;have s0 := (HB.out.2.cell 0).trans rfl;have s1 := (HB.out.2.cell 1).trans rfl;have s2 := (HB.out.2.cell 2).trans rfl;have s3 := (HB.out.2.cell 3).trans rfl;have s4 := (HB.out.2.cell 4).trans rfl;go_wp2_with fail;have al : Below wr.heap.size wr (wr.alloc (Obj.cells #[.int .i64 XK,.int .i64 XN,.string XS,.slice a1 n1 c1,.slice a2 n2 c2] 30)) := (Below.refl _ _).alloc (Nat.le_refl _) _;refine (HTX.out _ (HG.out.1.kn.mk_below al)).mono ?_;rintro e w2 ⟨r,G2,rfl,hg2,hse⟩;obtain ⟨z1,l1,e1,z2,l2,e2,rfl⟩ := trC_open hse.now.trQ.trC;have hg3 : Grw s W0 b G wr w2 G2 := hg2.before al;have hgl : g < wr.heap.size := (own_lt HO.out.1 (k := g) rfl).2
    have hgb : g ≠ b := by
     rcases HO.out.1.2 with ⟨e,_⟩ | ⟨g',cap,cur,e,q1,q2,_⟩
     ·cases e
     ·simp only [Value.slice.injEq,Option.some.injEq,Addr.mk.injEq,and_true,true_and] at e;obtain ⟨rfl, -⟩ := e;exact HG.out.1.kn.neB q2
    have hnG2 : ¬ G2 g := fun e => by
     rcases hg3.new g e with e | e
     ·exact HG.out.2 e
     ·omega
    have hO2 : w2.ownsRow W0.heap.size 30 5 (.slice (some ⟨g,0,none⟩) M M) M rows.flatten := MsP.kp.own_kpT2 HO.out.1 hg3.kp fun k e1 e2 => by
     have hkg : g = k := by simpa [Value.ownBlock] using e2
     exact hgb (hkg.trans e1)
    have BF2 := HB.out.1.kp hg3.kp (HG.out.1.kn.neB HB.out.1);have BS2 := HB.out.2.kp hg3.kp (HG.out.1.kn.neB HB.out.2);obtain ⟨v0,v1,v2,v3,v4,p0,p1,p2,p3,p4,hfz⟩ := p5_cells hO2 HO.out.2.2 (j := i) (by rw [HO.out.2.1]; exact hlt);have q0 := hfz (i * 5);have q1 := hfz (i * 5 + 1);have q2 := hfz (i * 5 + 2);have q3 := hfz (i * 5 + 3);have q4 := hfz (i * 5 + 4);have hstG : Stay G wr w2 := Stay.kp hg3.kp (fun k e => (HG.out.1.kn.new k e).2) fun k e e2 => HG.out.1.kn.nb (e2 ▸ e)
    have hgr := HG.out.1.trans hg3;generalize hTK : (φ x).kind = TK at *;generalize hTN : (φ x).n = TN at *;generalize hTS : (φ x).s = TS at *;have hk5 := set5_kp w2 g (i * 5) (.int .i64 TK) (.int .i64 TN) (.string TS) (.slice z1 l1 e1) (.slice z2 l2 e2)
    have hs5 : ∀ q,q = g → w.heap.size ≤ q ∧ ¬ G2 q ∧ q ≠ b := fun q e => by subst e; exact ⟨by have := HGW.out; rw [HBW.out]; omega,hnG2,hgb⟩
    have HO3 : Hid ((set5 w2 g (i * 5) (.int .i64 TK) (.int .i64 TN) (.string TS) (.slice z1 l1 e1) (.slice z2 l2 e2)).ownsRow W0.heap.size 30 5 (.slice (some ⟨g,0,none⟩) M M) M (rows.set i [.int .i64 TK,.int .i64 TN,.string TS,.slice z1 l1 e1,.slice z2 l2 e2]).flatten ∧ (rows.set i [.int .i64 TK,.int .i64 TN,.string TS,.slice z1 l1 e1,.slice z2 l2 e2]).length = M ∧ ∀ r ∈ rows.set i [.int .i64 TK,.int .i64 TN,.string TS,.slice z1 l1 e1,.slice z2 l2 e2],r.length = 5) := ⟨own_set5 hO2 HO.out.2.2 (by rw [HO.out.2.1]; exact hlt) _ _ _ _ _,by rw [List.length_set]; exact HO.out.2.1,fun r hr => by
     rcases List.mem_or_eq_of_mem_set hr with hr | rfl
     ·exact HO.out.2.2 r hr
     ·rfl⟩
    have HRT3 : Hid (RowsG n (set5 w2 g (i * 5) (.int .i64 TK) (.int .i64 TN) (.string TS) (.slice z1 l1 e1) (.slice z2 l2 e2)) G2 φ YS (rows.set i [.int .i64 TK,.int .i64 TN,.string TS,.slice z1 l1 e1,.slice z2 l2 e2]) (i + 1)) := RowsG.step HRT.out (fun r x h => ((h.stay hstG).more hg3.sub).stay (hgr.stay hk5 hs5)) HX.out (by rw [HO.out.2.1]; exact hlt) (hse.stay (hgr.stay hk5 hs5));have HG3 : Hid (Grw s W0 b F w (set5 w2 g (i * 5) (.int .i64 TK) (.int .i64 TN) (.string TS) (.slice z1 l1 e1) (.slice z2 l2 e2)) G2 ∧ ¬ G2 g) := ⟨hgr.after HKN.out.below.size hk5 hs5,hnG2⟩;have HB3 : Hid (Blk (set5 w2 g (i * 5) (.int .i64 TK) (.int .i64 TN) (.string TS) (.slice z1 l1 e1) (.slice z2 l2 e2)) (bw + 1) #[.string y1,.int .i64 y2,.int .i64 3,.int .i64 y4,.string y5] 56 ∧ Blk (set5 w2 g (i * 5) (.int .i64 TK) (.int .i64 TN) (.string TS) (.slice z1 l1 e1) (.slice z2 l2 e2)) bw #[.string sn,.slice ma mn mc,.slice ea en ec,.slice ta tn tc,.map (some b)] 74) := ⟨BF2.kp hk5 (fun e => by have := HGW.out; omega),BS2.kp hk5 (fun e => by have := HGW.out; omega)⟩;unfold set5 at HO3 HRT3 HG3 HB3;clear hk5 hs5 hgr hstG hfz hO2 hnG2 hgb BF2 BS2 hg3 hg2 hse al HO HRT HG HB HTX HX y0 y1' y2' y3' y4' f3 f4 s0 s1 s2 s3 s4 hbl hbl1 hTK hTN hTS;go_wp2_with fail;clear p0 p1 p2 p3 p4 q0 q1 q2 q3 q4
    go_roundw
    case rel => exact ⟨i + 1,G2,_,by go_num,by omega,HO3,HRT3,HG3,HB3⟩
    case measure => simp [intOf]; omega
   ·have hiN : i = M := by omega
    have HF : Hid (SeesP s W0 b F n (YS.map φ) w (.returned (.slice (some ⟨g,0,none⟩) M M)) wr) := (by
     have h1 := HRT.out;rw [hiN] at h1
     exact h1.done HYN.out HO.out HG.out.1 HKN.out.below.size (by have := HGW.out; rw [HBW.out]; omega) : SeesP s W0 b F n (YS.map φ) w _ wr)
    have dlt : decide ((i : Int) < (M : Int)) = false := by simp; omega
    clear HO HRT HG HB hiN;go_wp2_with fail;go_ret;exact HF.out
 ·skip
  have d3 : (y3 != 3) = true := by simpa using h3
  have HYS : Hid (TrsR n W0 (.slice (some ⟨g0,o0 + N * 5,none⟩) 1 (lc - N)) YS) := (by rw [HLF.out.2 h3,HN.out]; exact HTS.out.tail : TrsR n W0 _ YS);have HYN : Hid (YS.length = 1) := (by rw [HLF.out.2 h3,List.length_drop,HN.out]; omega : YS.length = 1);have HYM : Hid (∀ x ∈ YS,x ∈ ts) := (by rw [HLF.out.2 h3]; exact fun x e => List.mem_of_mem_drop e : ∀ x ∈ YS,x ∈ ts);clear HLF HLP HTS HN h3;have f2 := (BF.cell 2).trans rfl
  go_enter Tryz.func84,Tryz.ntmps84
  go_upto_region 3 with fail
  clear f2;generalize ((w.alloc (Obj.cells #[.string sn,.slice ma mn mc,.slice ea en ec,.slice ta tn tc,.map (some b)] 74)).alloc (Obj.cells #[.string y1,.int .i64 y2,.int .i64 y3,.int .i64 y4,.string y5] 56)) = U0 at *;obtain ⟨i0,hi0,hz0,hz1,hz2⟩ := info_parts infoTr;obtain ⟨MC,hMC⟩ : ∃ z,madeCells (Value.agg #[.int .i64 0,.int .i64 0,.string ⟨#[]⟩,.slice none 0 0,.slice none 0 0]).cells (1 * 5) = z := ⟨_,rfl⟩
  have hMs : MC.size = 1 * 5 := by rw [← hMC,size_madeCells]
  have hmk : ∀ W : World,(Instr.makeSlice 67 (.int .i64 1) (.int .i64 1)).run Tryz.prog W = .ok (.slice (some ⟨W.heap.size,0,none⟩) 1 1) (W.alloc (.cells MC 30)) := fun W => by
   have := run_makeSlice (P := Tryz.prog) W 67 30 i0 _ Tryz.underlying67 hi0 hz0 .i64 .i64 ((1 : Nat) : Int) ((1 : Nat) : Int) (by omega) (by omega) (by rw [hz1]; simp) (by rw [hz2]; omega) (by omega);rw [hz1] at this;simp only [Int.toNat_natCast] at this;rw [hMC] at this;exact this
  have al : Below U0.heap.size U0 (U0.alloc (.cells MC 30)) := (Below.refl _ _).alloc (Nat.le_refl _) _;have hBg : Blk (U0.alloc (.cells MC 30)) U0.heap.size MC 30 := Blk.new U0 _ _;obtain ⟨rows0,hr1,hr2,hr3⟩ := p5_chunk 1 MC.toList (by rw [Array.length_toList]; exact hMs)
  have HO0 : Hid ((U0.alloc (.cells MC 30)).ownsRow W0.heap.size 30 5 (.slice (some ⟨U0.heap.size,0,none⟩) 1 1) 1 rows0.flatten ∧ rows0.length = 1 ∧ ∀ r ∈ rows0,r.length = 5) := ⟨by
   rw [hr1]
   exact ⟨by rw [Array.length_toList]; exact hMs,.inr ⟨_,1,MC,rfl,Nat.le_trans HKN.out.below.size hbw.size,hBg,Nat.le_refl _,by unfold maxLen; omega,hMs,List.take_of_length_le (by rw [Array.length_toList,hMs]; omega)⟩⟩,hr2,hr3⟩
  have hbA := hbw.trans (al.mono hbw.size);have HG0 : Hid (Grw s W0 b F w (U0.alloc (.cells MC 30)) F) := Grw.below HKN.out hbA;have HGW : Hid (w.heap.size + 2 ≤ U0.heap.size) := BF.lt;have BFA := BF.below al;have BSA := BS.below al
  have hnF0 : ¬ F U0.heap.size := fun e => by have := (HKN.out.new _ e).2; have := HGW.out; omega
  clear hi0 hz0 hz1 hz2 hMC hr1 hr2 hr3 hBg al hbA hbw BF BS;go_wp2_with fail;clear hmk;generalize (U0.alloc (.cells MC 30)) = WA at *;obtain ⟨g,hg⟩ : ∃ z,U0.heap.size = z := ⟨_,rfl⟩;rw [hg] at HO0 HGW hnF0;simp only [hg];clear hg;have HFB : Hid (Blk WA (w.heap.size + 1) #[.string y1,.int .i64 y2,.int .i64 y3,.int .i64 y4,.string y5] 56 ∧ Blk WA w.heap.size #[.string sn,.slice ma mn mc,.slice ea en ec,.slice ta tn tc,.map (some b)] 74) := ⟨BFA,BSA⟩;have HNF0 : Hid (¬ F g) := hnF0;clear BFA BSA hnF0;obtain ⟨bw,hbw⟩ : ∃ z,w.heap.size = z := ⟨_,rfl⟩;have HBW : Hid (w.heap.size = bw) := hbw;rw [hbw] at HFB HGW;simp only [hbw];clear hbw
  go_loopw [23] (fun iv wr => ∃ (i : Nat) (G : Nat → Prop) (rows : List (List Value)),iv = .int .i64 (i : Int) ∧ i ≤ 1 ∧ Hid (wr.ownsRow W0.heap.size 30 5 (.slice (some ⟨g,0,none⟩) 1 1) 1 rows.flatten ∧ rows.length = 1 ∧ ∀ r ∈ rows,r.length = 5) ∧ Hid (RowsG n wr G φ YS rows i) ∧ Hid (Grw s W0 b F w wr G ∧ ¬ G g) ∧ Hid (Blk wr (bw + 1) #[.string y1,.int .i64 y2,.int .i64 y3,.int .i64 y4,.string y5] 56 ∧ Blk wr bw #[.string sn,.slice ma mn mc,.slice ea en ec,.slice ta tn tc,.map (some b)] 74)) (fun iv _ => 1 - (intOf iv).toNat)
  case atStart => exact ⟨0,F,rows0,rfl,by omega,HO0,(fun j x hj => absurd hj (by omega) : RowsG n WA F φ YS rows0 0),⟨HG0.out,HNF0.out⟩,HFB⟩
  case round =>
   clear HO0 HG0 HFB HNF0;obtain ⟨i,G,rows,rfl,hi,HO,HRT,HG,HB⟩ := hrel
   by_cases hlt : i < 1
   ·obtain ⟨x,hx⟩ : ∃ r,YS[i]? = some r := ⟨_,List.getElem?_eq_getElem (by rw [HYN.out]; exact hlt)⟩;obtain ⟨gx,off,a1,n1,c1,a2,n2,c2,e0,u0,u1,u2,u3,u4,hxw⟩ := trsR_get HYS.out hx;simp only [Option.some.injEq,Addr.mk.injEq,and_true] at e0;obtain ⟨rfl,rfl⟩ := e0;have hcl := fun {p : Addr} {v : Value} (h : W0.cell? p = some v) => Cel.cell (Cel.ofBelow HG.out.1.kn.below) h
    have y0 := hcl u0;have y1' := hcl u1;have y2' := hcl u2;have y3' := hcl u3;have y4' := hcl u4;have HX : Hid (YS[i]? = some x) := hx;have HXM : Hid (x ∈ ts) := HYM.out x (List.mem_of_getElem? hx);have HXW : Hid (TrW n W0 (.agg #[.int .i64 x.kind,.int .i64 x.n,.string x.s,.slice a1 n1 c1,.slice a2 n2 c2]) x) := hxw;have HTX : Hid (∀ W2,KnP s W0 W2 b G → Calls Tryz.prog 113 #[.agg #[.string sn,.slice ma mn mc,.slice ea en ec,.slice ta tn tc,.map (some b)],.agg #[.int .i64 y4,.string y5],.agg #[.int .i64 x.kind,.int .i64 x.n,.string x.s,.slice a1 n1 c1,.slice a2 n2 c2]] W2 (SeenP s W0 b G n (φ x) W2)) := fun W2 h2 => HTC.out W2 G x x.kind x.n x.s a1 a2 n1 c1 n2 c2 HXM.out h2 HXW.out
    obtain ⟨XK,hXK⟩ : ∃ z,x.kind = z := ⟨_,rfl⟩;obtain ⟨XN,hXN⟩ : ∃ z,x.n = z := ⟨_,rfl⟩;obtain ⟨XS,hXS⟩ : ∃ z,x.s = z := ⟨_,rfl⟩;rw [hXK,hXN,hXS] at HTX;rw [hXK] at y0;rw [hXN] at y1';rw [hXS] at y2';clear hx hxw u0 u1 u2 u3 u4 hcl hXK hXN hXS HXW HXM;have hbl : bw < wr.heap.size := HB.out.2.lt;have hbl1 : bw + 1 < wr.heap.size := HB.out.1.lt;have f3 := (HB.out.1.cell 3).trans rfl;have f4 := (HB.out.1.cell 4).trans rfl;have s0 := (HB.out.2.cell 0).trans rfl;have s1 := (HB.out.2.cell 1).trans rfl;have s2 := (HB.out.2.cell 2).trans rfl;have s3 := (HB.out.2.cell 3).trans rfl;have s4 := (HB.out.2.cell 4).trans rfl;go_wp2_with fail;have al : Below wr.heap.size wr (wr.alloc (Obj.cells #[.int .i64 XK,.int .i64 XN,.string XS,.slice a1 n1 c1,.slice a2 n2 c2] 30)) := (Below.refl _ _).alloc (Nat.le_refl _) _;refine (HTX.out _ (HG.out.1.kn.mk_below al)).mono ?_;rintro e w2 ⟨r,G2,rfl,hg2,hse⟩;obtain ⟨z1,l1,e1,z2,l2,e2,rfl⟩ := trC_open hse.now.trQ.trC;have hg3 : Grw s W0 b G wr w2 G2 := hg2.before al;have hgl : g < wr.heap.size := (own_lt HO.out.1 (k := g) rfl).2
    have hgb : g ≠ b := by
     rcases HO.out.1.2 with ⟨e,_⟩ | ⟨g',cap,cur,e,q1,q2,_⟩
     ·cases e
     ·simp only [Value.slice.injEq,Option.some.injEq,Addr.mk.injEq,and_true,true_and] at e;obtain ⟨rfl, -⟩ := e;exact HG.out.1.kn.neB q2
    have hnG2 : ¬ G2 g := fun e => by
     rcases hg3.new g e with e | e
     ·exact HG.out.2 e
     ·omega
    have hO2 : w2.ownsRow W0.heap.size 30 5 (.slice (some ⟨g,0,none⟩) 1 1) 1 rows.flatten := MsP.kp.own_kpT2 HO.out.1 hg3.kp fun k e1 e2 => by
     have hkg : g = k := by simpa [Value.ownBlock] using e2
     exact hgb (hkg.trans e1)
    have BF2 := HB.out.1.kp hg3.kp (HG.out.1.kn.neB HB.out.1);have BS2 := HB.out.2.kp hg3.kp (HG.out.1.kn.neB HB.out.2);obtain ⟨v0,v1,v2,v3,v4,p0,p1,p2,p3,p4,hfz⟩ := p5_cells hO2 HO.out.2.2 (j := i) (by rw [HO.out.2.1]; exact hlt);have q0 := hfz (i * 5);have q1 := hfz (i * 5 + 1);have q2 := hfz (i * 5 + 2);have q3 := hfz (i * 5 + 3);have q4 := hfz (i * 5 + 4);have hstG : Stay G wr w2 := Stay.kp hg3.kp (fun k e => (HG.out.1.kn.new k e).2) fun k e e2 => HG.out.1.kn.nb (e2 ▸ e)
    have hgr := HG.out.1.trans hg3;generalize hTK : (φ x).kind = TK at *;generalize hTN : (φ x).n = TN at *;generalize hTS : (φ x).s = TS at *;have hk5 := set5_kp w2 g (i * 5) (.int .i64 TK) (.int .i64 TN) (.string TS) (.slice z1 l1 e1) (.slice z2 l2 e2)
    have hs5 : ∀ q,q = g → w.heap.size ≤ q ∧ ¬ G2 q ∧ q ≠ b := fun q e => by subst e; exact ⟨by have := HGW.out; rw [HBW.out]; omega,hnG2,hgb⟩
    have HO3 : Hid ((set5 w2 g (i * 5) (.int .i64 TK) (.int .i64 TN) (.string TS) (.slice z1 l1 e1) (.slice z2 l2 e2)).ownsRow W0.heap.size 30 5 (.slice (some ⟨g,0,none⟩) 1 1) 1 (rows.set i [.int .i64 TK,.int .i64 TN,.string TS,.slice z1 l1 e1,.slice z2 l2 e2]).flatten ∧ (rows.set i [.int .i64 TK,.int .i64 TN,.string TS,.slice z1 l1 e1,.slice z2 l2 e2]).length = 1 ∧ ∀ r ∈ rows.set i [.int .i64 TK,.int .i64 TN,.string TS,.slice z1 l1 e1,.slice z2 l2 e2],r.length = 5) := ⟨own_set5 hO2 HO.out.2.2 (by rw [HO.out.2.1]; exact hlt) _ _ _ _ _,by rw [List.length_set]; exact HO.out.2.1,fun r hr => by
     rcases List.mem_or_eq_of_mem_set hr with hr | rfl
     ·exact HO.out.2.2 r hr
     ·rfl⟩
    have HRT3 : Hid (RowsG n (set5 w2 g (i * 5) (.int .i64 TK) (.int .i64 TN) (.string TS) (.slice z1 l1 e1) (.slice z2 l2 e2)) G2 φ YS (rows.set i [.int .i64 TK,.int .i64 TN,.string TS,.slice z1 l1 e1,.slice z2 l2 e2]) (i + 1)) := RowsG.step HRT.out (fun r x h => ((h.stay hstG).more hg3.sub).stay (hgr.stay hk5 hs5)) HX.out (by rw [HO.out.2.1]; exact hlt) (hse.stay (hgr.stay hk5 hs5));have HG3 : Hid (Grw s W0 b F w (set5 w2 g (i * 5) (.int .i64 TK) (.int .i64 TN) (.string TS) (.slice z1 l1 e1) (.slice z2 l2 e2)) G2 ∧ ¬ G2 g) := ⟨hgr.after HKN.out.below.size hk5 hs5,hnG2⟩;have HB3 : Hid (Blk (set5 w2 g (i * 5) (.int .i64 TK) (.int .i64 TN) (.string TS) (.slice z1 l1 e1) (.slice z2 l2 e2)) (bw + 1) #[.string y1,.int .i64 y2,.int .i64 y3,.int .i64 y4,.string y5] 56 ∧ Blk (set5 w2 g (i * 5) (.int .i64 TK) (.int .i64 TN) (.string TS) (.slice z1 l1 e1) (.slice z2 l2 e2)) bw #[.string sn,.slice ma mn mc,.slice ea en ec,.slice ta tn tc,.map (some b)] 74) := ⟨BF2.kp hk5 (fun e => by have := HGW.out; omega),BS2.kp hk5 (fun e => by have := HGW.out; omega)⟩;unfold set5 at HO3 HRT3 HG3 HB3;clear hk5 hs5 hgr hstG hfz hO2 hnG2 hgb BF2 BS2 hg3 hg2 hse al HO HRT HG HB HTX HX y0 y1' y2' y3' y4' f3 f4 s0 s1 s2 s3 s4 hbl hbl1 hTK hTN hTS;go_wp2_with fail;clear p0 p1 p2 p3 p4 q0 q1 q2 q3 q4
    go_roundw
    case rel => exact ⟨i + 1,G2,_,by go_num,by omega,HO3,HRT3,HG3,HB3⟩
    case measure => simp [intOf]; omega
   ·have hiN : i = 1 := by omega
    have HF : Hid (SeesP s W0 b F n (YS.map φ) w (.returned (.slice (some ⟨g,0,none⟩) 1 1)) wr) := (by
     have h1 := HRT.out;rw [hiN] at h1
     exact h1.done HYN.out HO.out HG.out.1 HKN.out.below.size (by have := HGW.out; rw [HBW.out]; omega) : SeesP s W0 b F n (YS.map φ) w _ wr)
    have dlt : decide ((i : Int) < 1) = false := by simp; omega
    clear HO HRT HG HB hiN;go_wp2_with fail;go_ret;exact HF.out
def EntP (s : ScS) (W0 : World) (b : Nat) (F : Nat → Prop) (n : Nat) (R : Option (Int × List Tr)) (w : World) (e : Ending) (w' : World) : Prop := ∃ a c G tg xs ok,e = .returned (.tuple #[.agg #[.int .i64 tg,.slice a xs.length c],.bool ok]) ∧ Grw s W0 b F w w' G ∧ SeeL n w' (.slice a xs.length c) xs G ∧ (R = none ∧ ok = false ∨ R = some (tg,xs) ∧ ok = true)
theorem EntP.no {s : ScS} {W0 w w' : World} {b : Nat} {F G : Nat → Prop} {n : Nat} {R : Option (Int × List Tr)} (hR : R = none) (hg : Grw s W0 b F w w' G) : EntP s W0 b F n R w (.returned (.tuple #[.agg #[.int .i64 0,.slice none 0 0],.bool false])) w' :=
 ⟨none,0,G,0,[],false,rfl,hg,fun w' _ => RowP.nil _ _ _,.inl ⟨hR,rfl⟩⟩
theorem pentry_any {s : ScS} {W0 : World} {n : Nat} {sn : ByteArray} {ma ea ta : Option Addr} {mn mc en ec tn tc : Nat} (IH : MsgC s W0 n sn ma ea ta mn mc en ec tn tc)
  (b : Nat) (F : Nat → Prop) (fs : List FlS) (tag : Int) (xl : List Tr) (qn : ByteArray) (vf : Value) (ra pt : Option Addr) (rl rc Kt ct : Nat) (w : World) (hvf : RowG w vf 5 (flRows fs)) (hKn : KnP s W0 w b F) (hks : ∀ f,fldOf fs tag = some f → 1 ≤ f.kind ∧ f.kind ≤ 7) (hts : TrsR n W0 (.slice pt Kt ct) xl) (hl1 : 1 ≤ xl.length) (hl2 : xl.length ≤ 70) (hok : ∀ x ∈ xl,okN n x = true) (hsm : ∀ x ∈ xl,SmN n x) :
  Calls Tryz.prog 46 #[.agg #[.string sn,.slice ma mn mc,.slice ea en ec,.slice ta tn tc,.map (some b)],.agg #[.string qn,vf,.slice ra rl rc],.agg #[.int .i64 tag,.slice pt Kt ct]] w (EntP s W0 b F n (entP (prM n s) fs (tag,xl)) w) := by
 have HKN : Hid (KnP s W0 w b F) := hKn;have HTS : Hid (TrsR n W0 (.slice pt Kt ct) xl) := hts;obtain ⟨X,hX⟩ : ∃ z,fldOf fs tag = z := ⟨_,rfl⟩;have HXF : Hid (fldOf fs tag = X) := hX
 have HFC0 : Hid (∀ W,Below w.heap.size w W → Calls Tryz.prog 81 #[.agg #[.string qn,vf,.slice ra rl rc],.int .i64 tag] W fun e w' => e = .returned (.tuple #[flV (X.getD zeroF),.bool X.isSome]) ∧ Below W.heap.size W w') := fun W hW => by
  have h1 := cfield_any (w := W) (snm := qn) (nm := tag) (am := ra) (M := rl) (cm := rc) (hvf.below hW);have h2 : (fs.find? fun m => decide (m.tag = tag)) = X := hX;rw [h2] at h1;exact h1
 obtain ⟨fa,fc,rfl, -⟩ := hvf.form;generalize (flRows fs).length = fl at *;obtain ⟨BS,BM,BE,BR,hbw⟩ := pt4 w #[.string sn,.slice ma mn mc,.slice ea en ec,.slice ta tn tc,.map (some b)] #[.string qn,.slice fa fl fc,.slice ra rl rc] #[.int .i64 tag,.slice pt Kt ct] #[.int .i64 0,.slice none 0 0] 74 52 69 69
 cases X with
 | none =>
  have HR : Hid (entP (prM n s) fs (tag,xl) = none) := (by simp only [entP,HXF.out] : entP (prM n s) fs (tag,xl) = none);clear HXF HTS hts hl1 hl2 hok hsm hks IH hKn hvf;simp only [flV,zeroF,Option.getD_none,Option.isSome_none] at HFC0
  go_enter Tryz.func46,Tryz.ntmps46
  go_upto_region 1 with fail
  generalize ((((w.alloc (Obj.cells #[.string sn,.slice ma mn mc,.slice ea en ec,.slice ta tn tc,.map (some b)] 74)).alloc (Obj.cells #[.string qn,.slice fa fl fc,.slice ra rl rc] 52)).alloc (Obj.cells #[.int .i64 tag,.slice pt Kt ct] 69)).alloc (Obj.cells #[.int .i64 0,.slice none 0 0] 69)) = U0 at *;obtain ⟨b0,hb0⟩ : ∃ z,w.heap.size = z := ⟨_,rfl⟩;have HBZ : Hid (w.heap.size = b0) := hb0;rw [hb0] at BS BM BE BR
  try simp only [hb0]
  clear hb0;have m0 := (BM.cell 0).trans rfl;have m1 := (BM.cell 1).trans rfl;have m2 := (BM.cell 2).trans rfl;have e0 := (BE.cell 0).trans rfl;have e1 := (BE.cell 1).trans rfl;go_wp2_with fail;refine (HFC0.out _ hbw).mono ?_;rintro ee w1 ⟨rfl,hb1⟩;have hbw1 := hbw.trans (hb1.mono hbw.size);have BS1 := BS.below hb1;have BE1 := BE.below hb1;have BR1 := BR.below hb1;clear m0 m1 m2 e0 e1 BS BM BE BR hb1 HFC0 hbw;have hbl : b0 + 3 < w1.heap.size := BR1.lt;have r0 := (BR1.cell 0).trans rfl;have rz0 := BR1.froz 0;have r1 := (BR1.cell 1).trans rfl;have rz1 := BR1.froz 1;go_wp2_with fail;have hb2 : ∀ u v,Below w.heap.size w ((w1.setCell ⟨b0 + 3,0,none⟩ u).setCell ⟨b0 + 3,1,none⟩ v) := fun u v => Below.setCell (p := ⟨b0 + 3,1,none⟩) (Below.setCell (p := ⟨b0 + 3,0,none⟩) hbw1 (by have := HBZ.out; show w.heap.size ≤ b0 + 3; omega) _) (by have := HBZ.out; show w.heap.size ≤ b0 + 3; omega) _
  have hbe : ∀ o u v,Below w.heap.size w (((w1.setCell ⟨b0 + 3,0,none⟩ u).setCell ⟨b0 + 3,1,none⟩ v).alloc o) := fun o u v => (hb2 u v).alloc (hb2 u v).size _
  exact bodyPost_ret (results_two rfl _ _ _ ⟨b0 + 3,0,none⟩ (.agg #[.int .i64 0,.slice none 0 0]) (by go_simp) (by go_simp)) rfl (EntP.no HR.out (Grw.below HKN.out (hbe _ _ _)))
 | some f =>
  have HFT : Hid (f.tag = tag) := (fldP HXF.out).1;have hk := hks f hX;have HR : Hid (entP (prM n s) fs (tag,xl) = if xl.all (pfitB f) = true then (if f.label = 1 ∧ zroB (((lastP f xl).map (oneP (prM n s) f)).headD tr0) = true then none else some (f.tag,(lastP f xl).map (oneP (prM n s) f))) else none) := (by simp only [entP,HXF.out] : entP (prM n s) fs (tag,xl) = _)
  have HCN : Hid (∀ W bf,Below w.heap.size w W → Blk W bf #[.string f.name,.int .i64 f.tag,.int .i64 f.label,.int .i64 f.kind,.string f.tname] 56 → Calls Tryz.prog 43 #[.slice pt Kt ct,.func (.func 82) #[] #[.pointer (some ⟨bf,0,none⟩)]] W fun e w' => e = .returned (.bool (xl.any fun x => !pfitB f x)) ∧ Below W.heap.size W w') := fun W bf hW hB => containsP_any bf n _ xl W _ ((HTS.out.celT (Cel.ofBelow (HKN.out.below.trans (hW.mono HKN.out.below.size)))).imp fun _ _ _ hp => hp.trQ) (pfun_any bf f W n xl hB hk fun x hx => by
   have h1 := hsm x hx
   cases n with
   | zero => exact h1.elim
   | succ n => have := h1.1; omega)
  have HTR : Hid (∀ W2 F2,xl.all (pfitB f) = true → KnP s W0 W2 b F2 → Calls Tryz.prog 84 #[.agg #[.string sn,.slice ma mn mc,.slice ea en ec,.slice ta tn tc,.map (some b)],.agg #[.string f.name,.int .i64 f.tag,.int .i64 f.label,.int .i64 f.kind,.string f.tname],.slice pt Kt ct] W2 (SeesP s W0 b F2 n ((lastP f xl).map (oneP (prM n s) f)) W2)) := fun W2 F2 h1 h2 => ptrees_any IH b F2 f xl _ W2 hk h1 h2 HTS.out hl1 hl2 hok hsm
  have HLL : Hid (1 ≤ ((lastP f xl).map (oneP (prM n s) f)).length) := (by rw [List.length_map]; exact (lastP_len hl1).1 : 1 ≤ _);have HAN : Hid ((xl.any fun x => !pfitB f x) = !xl.all (pfitB f)) := (by rw [List.not_all_eq_any_not] : _ = _);clear HXF HTS hts hl1 hl2 hok hsm hks IH hKn hvf hX hk;generalize (lastP f xl).map (oneP (prM n s) f) = YS at *;obtain ⟨A,hA⟩ : ∃ z,xl.all (pfitB f) = z := ⟨_,rfl⟩;rw [HAN.out,hA] at HCN;rw [hA] at HTR HR;clear hA HAN;obtain ⟨y1,y2,y3,y4,y5⟩ := f;simp only [flV,Option.getD_some,Option.isSome_some] at HFC0 HCN HTR HR HFT
  go_enter Tryz.func46,Tryz.ntmps46
  go_upto_region 1 with fail
  generalize ((((w.alloc (Obj.cells #[.string sn,.slice ma mn mc,.slice ea en ec,.slice ta tn tc,.map (some b)] 74)).alloc (Obj.cells #[.string qn,.slice fa fl fc,.slice ra rl rc] 52)).alloc (Obj.cells #[.int .i64 tag,.slice pt Kt ct] 69)).alloc (Obj.cells #[.int .i64 0,.slice none 0 0] 69)) = U0 at *;obtain ⟨b0,hb0⟩ : ∃ z,w.heap.size = z := ⟨_,rfl⟩;have HBZ : Hid (w.heap.size = b0) := hb0;rw [hb0] at BS BM BE BR
  try simp only [hb0]
  clear hb0;have m0 := (BM.cell 0).trans rfl;have m1 := (BM.cell 1).trans rfl;have m2 := (BM.cell 2).trans rfl;have e0 := (BE.cell 0).trans rfl;have e1 := (BE.cell 1).trans rfl;go_wp2_with fail;refine (HFC0.out _ hbw).mono ?_;rintro ee w1 ⟨rfl,hb1⟩;have hbw1 := hbw.trans (hb1.mono hbw.size);have BS1 := BS.below hb1;have BE1 := BE.below hb1;have BR1 := BR.below hb1;clear m0 m1 m2 e0 e1 BS BM BE BR hb1 HFC0 hbw;have hbl : b0 + 3 < w1.heap.size := BR1.lt;have hbl0 : b0 < w1.heap.size := BS1.lt;have hbl2 : b0 + 2 < w1.heap.size := BE1.lt;have e0 := (BE1.cell 0).trans rfl;have e1 := (BE1.cell 1).trans rfl;go_wp2_with fail;have alF : Below w1.heap.size w1 (w1.alloc (Obj.cells #[.string y1,.int .i64 y2,.int .i64 y3,.int .i64 y4,.string y5] 56)) := (Below.refl _ _).alloc (Nat.le_refl _) _;refine Calls.mono (HCN.out _ w1.heap.size (hbw1.trans (alF.mono hbw1.size)) (Blk.new w1 _ _)) ?_;rintro ee w2 ⟨rfl,hb2⟩;have hbw2 := (hbw1.trans (alF.mono hbw1.size)).trans (hb2.mono (hbw1.trans (alF.mono hbw1.size)).size);have BF2 := (Blk.new w1 #[.string y1,.int .i64 y2,.int .i64 y3,.int .i64 y4,.string y5] 56).below hb2;have BS2 := (BS1.below alF).below hb2;have BE2 := (BE1.below alF).below hb2;have BR2 := (BR1.below alF).below hb2;have HLB : Hid (w.heap.size ≤ w1.heap.size) := hbw1.size;clear alF hb2 HCN hbw1 BS1 BE1 BR1 e0 e1 hbl hbl0 hbl2;obtain ⟨bf,hbf⟩ : ∃ z,w1.heap.size = z := ⟨_,rfl⟩;rw [hbf] at BF2 HLB
  try simp only [hbf]
  clear hbf
  cases A with
  | false =>
   have HR2 : Hid (entP (prM n s) fs (tag,xl) = none) := (by rw [HR.out]; rfl : entP (prM n s) fs (tag,xl) = none);clear HR HTR HLL HFT BF2 BS2 BE2;have r0 := (BR2.cell 0).trans rfl;have rz0 := BR2.froz 0;have r1 := (BR2.cell 1).trans rfl;have rz1 := BR2.froz 1;go_wp2_with fail;have hbe : ∀ u v,Below w.heap.size w ((w2.setCell ⟨b0 + 3,0,none⟩ u).setCell ⟨b0 + 3,1,none⟩ v) := fun u v => Below.setCell (p := ⟨b0 + 3,1,none⟩) (Below.setCell (p := ⟨b0 + 3,0,none⟩) hbw2 (by have := HBZ.out; show w.heap.size ≤ b0 + 3; omega) _) (by have := HBZ.out; show w.heap.size ≤ b0 + 3; omega) _
   exact bodyPost_ret (results_two rfl _ _ _ ⟨b0 + 3,0,none⟩ (.agg #[.int .i64 0,.slice none 0 0]) (by go_simp) (by go_simp)) rfl (EntP.no HR2.out (Grw.below HKN.out (hbe _ _)))
  | true =>
   have HR2 : Hid (entP (prM n s) fs (tag,xl) = if y3 = 1 ∧ zroB (YS.headD tr0) = true then none else some (y2,YS)) := (by rw [HR.out]; rfl : entP (prM n s) fs (tag,xl) = _);clear HR;have s0 := (BS2.cell 0).trans rfl;have s1 := (BS2.cell 1).trans rfl;have s2 := (BS2.cell 2).trans rfl;have s3 := (BS2.cell 3).trans rfl;have s4 := (BS2.cell 4).trans rfl;have e1 := (BE2.cell 1).trans rfl;have f0 := (BF2.cell 0).trans rfl;have f1 := (BF2.cell 1).trans rfl;have f2 := (BF2.cell 2).trans rfl;have f3 := (BF2.cell 3).trans rfl;have f4 := (BF2.cell 4).trans rfl;have hK2 := HKN.out.mk_below hbw2;go_wp2_with fail;refine Calls.mono (HTR.out _ F trivial hK2) ?_;rintro ee w3 ⟨ya,yc,G,rfl,hg,hse⟩;have BE3 := BE2.kp hg.kp (hK2.neB BE2);have BR3 := BR2.kp hg.kp (hK2.neB BR2);have BF3 := BF2.kp hg.kp (hK2.neB BF2);have hrb : b0 + 3 ≠ b := hK2.neB BR2
   have hnF : ¬ F (b0 + 3) := fun e => by have h1 := (HKN.out.new _ e).2; have h2 := HBZ.out; omega
   have hnG : ¬ G (b0 + 3) := hg.fresh BR2 hnF;have HG : Hid (Grw s W0 b F w w3 G) := hg.before hbw2;have HSE : Hid (SeeL n w3 (.slice ya YS.length yc) YS G) := hse
   have HGA : Hid (∀ W u v,Below w3.heap.size w3 W → Grw s W0 b F w ((W.setCell ⟨b0 + 3,0,none⟩ u).setCell ⟨b0 + 3,1,none⟩ v) G ∧ Stay G w3 ((W.setCell ⟨b0 + 3,0,none⟩ u).setCell ⟨b0 + 3,1,none⟩ v)) := (fun W u v hW => by
    have hk2 : Kp (fun q => q = b0 + 3) w3 ((W.setCell ⟨b0 + 3,0,none⟩ u).setCell ⟨b0 + 3,1,none⟩ v) := Kp.setCell (S := fun q => q = b0 + 3) (p := ⟨b0 + 3,1,none⟩) (Kp.setCell (S := fun q => q = b0 + 3) (p := ⟨b0 + 3,0,none⟩) (Kp.ofBelow hW) (fun _ => rfl) _) (fun _ => rfl) _
    have hs2 : ∀ q,q = b0 + 3 → w.heap.size ≤ q ∧ ¬ G q ∧ q ≠ b := fun q e => by subst e; exact ⟨by have := HBZ.out; omega,hnG,hrb⟩
    exact ⟨HG.out.after HKN.out.below.size hk2 hs2,HG.out.stay hk2 hs2⟩ : ∀ W u v,Below w3.heap.size w3 W → _ ∧ _)
   clear s0 s1 s2 s3 s4 e1 f0 f1 f2 f3 f4 BS2 BE2 BF2 BR2 hg hse hrb hnF hnG hK2 hbw2 HTR;have e0 := (BE3.cell 0).trans rfl;have f2 := (BF3.cell 2).trans rfl;have r0 := (BR3.cell 0).trans rfl;have rz0 := BR3.froz 0;have r1 := (BR3.cell 1).trans rfl;have rz1 := BR3.froz 1;clear BE3 BF3;obtain ⟨M,hM⟩ : ∃ z,YS.length = z := ⟨_,rfl⟩;have HM : Hid (YS.length = M) := hM
   have hM1 : 1 ≤ M := by rw [← hM]; exact HLL.out
   rw [hM] at HSE;simp only [hM];clear hM HLL
   by_cases hy : y3 = 1
   ·subst hy;obtain ⟨x,hx⟩ : ∃ r,YS[0]? = some r := ⟨_,List.getElem?_eq_getElem (by rw [HM.out]; omega)⟩;obtain ⟨gx,off,a1,n1,c1,a2,n2,c2,rfl,y0,y1',y2',y3',y4',hxw⟩ := trsR_get HSE.out.now hx;simp only [Nat.zero_mul,Nat.add_zero] at y0 y1' y2' y3' y4'
    have hhd : YS.headD tr0 = x := by
     cases YS with
     | nil => simp at hx
     | cons a l => simpa using hx
    obtain ⟨Z,hZ⟩ : ∃ z,zroB x = z := ⟨_,rfl⟩
    have HZ : Hid (∀ W,Calls Tryz.prog 85 #[.agg #[.int .i64 x.kind,.int .i64 x.n,.string x.s,.slice a1 n1 c1,.slice a2 n2 c2]] W fun e w' => e = .returned (.bool Z) ∧ Below W.heap.size W w') := fun W => by
     obtain ⟨-, -, -,q4,q5⟩ := hxw.parts;rw [← hZ];exact zero_any x a1 a2 n1 c1 n2 c2 W q4.symm q5.symm
    have HR3 : Hid (entP (prM n s) fs (tag,xl) = if Z = true then none else some (y2,YS)) := (by rw [HR2.out,hhd,hZ]; simp : entP (prM n s) fs (tag,xl) = _);clear hhd hZ hxw hx HR2;generalize x.kind = XK at *;generalize x.n = XN at *;generalize x.s = XS at *;go_wp2_with fail;refine Calls.mono (HZ.out _) ?_;rintro ee w4 ⟨rfl,hb4⟩;have e0 := (hb4.cell (World.block_lt_of_cell? _ _ e0)).trans e0;have BR4 := BR3.below hb4;clear HZ r0 rz0 r1 rz1 y0 y1' y2' y3' y4' f2;have r0 := (BR4.cell 0).trans rfl;have rz0 := BR4.froz 0;have r1 := (BR4.cell 1).trans rfl;have rz1 := BR4.froz 1;clear BR3 BR4
    cases Z with
    | true =>
     have HR4 : Hid (entP (prM n s) fs (tag,xl) = none) := (by rw [HR3.out]; rfl : entP (prM n s) fs (tag,xl) = none);clear HR3;go_wp2_with fail;exact bodyPost_ret (results_two rfl _ _ _ ⟨b0 + 3,0,none⟩ (.agg #[.int .i64 0,.slice none 0 0]) (by go_simp) (by go_simp)) rfl (EntP.no HR4.out (HGA.out _ _ _ hb4).1)
    | false =>
     have HR4 : Hid (entP (prM n s) fs (tag,xl) = some (y2,YS)) := (by rw [HR3.out]; rfl : entP (prM n s) fs (tag,xl) = _);clear HR3;go_wp2_with fail;refine bodyPost_ret (results_two rfl _ _ _ ⟨b0 + 3,0,none⟩ (.agg #[.int .i64 tag,.slice (some ⟨gx,off,none⟩) M yc]) (by go_simp) (by go_simp)) rfl ?_;refine ⟨_,yc,G,tag,YS,true,by rw [HM.out]; rfl,(HGA.out _ _ _ hb4).1,?_,.inr ⟨by rw [HR4.out]; exact congrArg (fun z => some (z,YS)) HFT.out,rfl⟩⟩;rw [HM.out];exact HSE.out.stay (HGA.out _ _ _ hb4).2
   ·have d1 : (y3 == 1) = false := by simpa using hy
    have HR3 : Hid (entP (prM n s) fs (tag,xl) = some (y2,YS)) := (by rw [HR2.out,if_neg (fun h => hy h.1)] : entP (prM n s) fs (tag,xl) = _);clear HR2 hy;go_wp2_with fail;refine bodyPost_ret (results_two rfl _ _ _ ⟨b0 + 3,0,none⟩ (.agg #[.int .i64 tag,.slice ya M yc]) (by go_simp) (by go_simp)) rfl ?_;refine ⟨ya,yc,G,tag,YS,true,by rw [HM.out]; rfl,(HGA.out _ _ _ (Below.refl _ _)).1,?_,.inr ⟨by rw [HR3.out]; exact congrArg (fun z => some (z,YS)) HFT.out,rfl⟩⟩;rw [HM.out];exact HSE.out.stay (HGA.out _ _ _ (Below.refl _ _)).2
theorem infoFl : (Tryz.prog.info? 56).map (fun i => (i.zero,i.size,i.bytes)) = some (some (.agg #[.string ⟨#[]⟩,.int .i64 0,.int .i64 0,.int .i64 0,.string ⟨#[]⟩]),5,56) := by kernel_rfl
theorem infoIn : (Tryz.prog.info? 3).map (fun i => (i.zero,i.size,i.bytes)) = some (some (.int .i64 0),1,8) := by kernel_rfl
theorem infoNm : (Tryz.prog.info? 61).map (fun i => (i.zero,i.size,i.bytes)) = some (some (.agg #[.string ⟨#[]⟩,.int .i64 0]),2,24) := by kernel_rfl
theorem infoMs : (Tryz.prog.info? 52).map (fun i => (i.zero,i.size,i.bytes)) = some (some (.agg #[.string ⟨#[]⟩,.slice none 0 0,.slice none 0 0]),3,64) := by kernel_rfl
theorem infoEn : (Tryz.prog.info? 59).map (fun i => (i.zero,i.size,i.bytes)) = some (some (.agg #[.string ⟨#[]⟩,.slice none 0 0]),2,40) := by kernel_rfl
theorem infoMt : (Tryz.prog.info? 63).map (fun i => (i.zero,i.size,i.bytes)) = some (some (.agg #[.string ⟨#[]⟩,.string ⟨#[]⟩,.string ⟨#[]⟩]),3,48) := by kernel_rfl
theorem flr_len (fs : List FlS) : ∀ r ∈ flRows fs,r.length = 5 := fun r hr => by simp only [flRows,List.mem_map] at hr; obtain ⟨_,_,rfl⟩ := hr; rfl
theorem inr_len (fs : List Int) : ∀ r ∈ inRows fs,r.length = 1 := fun r hr => by simp only [inRows,List.mem_map] at hr; obtain ⟨_,_,rfl⟩ := hr; rfl
theorem nmr_len (fs : List NmS) : ∀ r ∈ nmRows fs,r.length = 2 := fun r hr => by simp only [nmRows,List.mem_map] at hr; obtain ⟨_,_,rfl⟩ := hr; rfl
theorem mtr_len (fs : List MtS) : ∀ r ∈ mtRows fs,r.length = 3 := fun r hr => by simp only [mtRows,List.mem_map] at hr; obtain ⟨_,_,rfl⟩ := hr; rfl
theorem flr_one (fs : List FlS) : ∀ u ∈ (flRows fs).flatten,u.oneCell' = true := by
 intro u hu;simp only [List.mem_flatten,flRows,List.mem_map] at hu;obtain ⟨l,⟨f,_,rfl⟩,hu⟩ := hu;simp only [FlS.cells,List.mem_cons,List.not_mem_nil,or_false] at hu
 rcases hu with rfl | rfl | rfl | rfl | rfl <;> rfl
theorem inr_one (fs : List Int) : ∀ u ∈ (inRows fs).flatten,u.oneCell' = true := by
 intro u hu;simp only [List.mem_flatten,inRows,List.mem_map] at hu;obtain ⟨l,⟨f,_,rfl⟩,hu⟩ := hu;simp only [List.mem_cons,List.not_mem_nil,or_false] at hu;subst hu; rfl
theorem nmr_one (fs : List NmS) : ∀ u ∈ (nmRows fs).flatten,u.oneCell' = true := by
 intro u hu;simp only [List.mem_flatten,nmRows,List.mem_map] at hu;obtain ⟨l,⟨f,_,rfl⟩,hu⟩ := hu;simp only [NmS.cells,List.mem_cons,List.not_mem_nil,or_false] at hu
 rcases hu with rfl | rfl <;> rfl
theorem mtr_one (fs : List MtS) : ∀ u ∈ (mtRows fs).flatten,u.oneCell' = true := by
 intro u hu;simp only [List.mem_flatten,mtRows,List.mem_map] at hu;obtain ⟨l,⟨f,_,rfl⟩,hu⟩ := hu;simp only [MtS.cells,List.mem_cons,List.not_mem_nil,or_false] at hu
 rcases hu with rfl | rfl | rfl <;> rfl
theorem freshF_any {w : World} {v : Value} {fs : List FlS} (hr : RowG w v 5 (flRows fs)) (hl : fs.length ≤ 100) :
  Calls Tryz.prog 38 #[v] w fun e w' => ∃ r,e = .returned r ∧ w'.ownsRow w.heap.size 56 5 r fs.length (flRows fs).flatten ∧ Below w.heap.size w w' := by
 have hN : (flRows fs).length = fs.length := by simp [flRows]
 have HN : Hid ((flRows fs).length = fs.length) := hN;have HR : Hid (RowG w v 5 (flRows fs)) := hr;have HL : Hid (fs.length ≤ 100) := hl;clear hr hN hl
 go_enter Tryz.func38,Tryz.ntmps38
 go_wp2_with (first
  | (at_builtin; refine wpList_joinG rfl _ _ 49 56 5 56 _ rfl Tryz.underlying49 infoFl rfl (by decide) w.heap.size (.slice none 0 0) 0 [] rfl (World.ownsRow_nil _ _ _ _) v (flRows fs) rfl HR.out (flr_len fs) (flr_one fs) ?c1 (by decide) (Nat.le_refl _) ?_)
  | fail)
 case c1 => have h1 := HN.out; have h2 := HL.out; omega
 intro r w1 ho hg;have hb : Below w.heap.size w w1 := (Below.refl _ _).grown hg (Nat.le_refl _) (fun k hk => by cases hk)
 have HO : Hid (w1.ownsRow w.heap.size 56 5 r fs.length (flRows fs).flatten) := by
  show World.ownsRow _ _ _ _ _ _ _
  rw [HN.out] at ho;exact ho
 clear hg ho;go_wp2_with fail;go_ret;exact ⟨_,rfl,HO.out,hb⟩
theorem freshI_any {w : World} {v : Value} {fs : List Int} (hr : RowG w v 1 (inRows fs)) (hl : fs.length ≤ 100) :
  Calls Tryz.prog 39 #[v] w fun e w' => ∃ r,e = .returned r ∧ w'.ownsRow w.heap.size 3 1 r fs.length (inRows fs).flatten ∧ Below w.heap.size w w' := by
 have hN : (inRows fs).length = fs.length := by simp [inRows]
 have HN : Hid ((inRows fs).length = fs.length) := hN;have HR : Hid (RowG w v 1 (inRows fs)) := hr;have HL : Hid (fs.length ≤ 100) := hl;clear hr hN hl
 go_enter Tryz.func39,Tryz.ntmps39
 go_wp2_with (first
  | (at_builtin; refine wpList_joinG rfl _ _ 50 3 1 8 _ rfl Tryz.underlying50 infoIn rfl (by decide) w.heap.size (.slice none 0 0) 0 [] rfl (World.ownsRow_nil _ _ _ _) v (inRows fs) rfl HR.out (inr_len fs) (inr_one fs) ?c1 (by decide) (Nat.le_refl _) ?_)
  | fail)
 case c1 => have h1 := HN.out; have h2 := HL.out; omega
 intro r w1 ho hg;have hb : Below w.heap.size w w1 := (Below.refl _ _).grown hg (Nat.le_refl _) (fun k hk => by cases hk)
 have HO : Hid (w1.ownsRow w.heap.size 3 1 r fs.length (inRows fs).flatten) := by
  show World.ownsRow _ _ _ _ _ _ _
  rw [HN.out] at ho;exact ho
 clear hg ho;go_wp2_with fail;go_ret;exact ⟨_,rfl,HO.out,hb⟩
end
section
open Go.ChangeShapes Go.WideShapes Go.ChangeAt Go.RowKit Go.Maps
theorem cmessage_any {w : World} {snm nm : ByteArray} {ae at' : Option Addr} {E ce T ct : Nat} {vm : Value} {ms : List MsS} (hr : MsIn w vm ms) (hl : ∀ m ∈ ms,m.fields.length ≤ 20 ∧ m.reserved.length ≤ 40) :
  Calls Tryz.prog 21 #[.agg #[.string snm,vm,.slice ae E ce,.slice at' T ct],.string nm] w fun e w' => ∃ vf vr,e = .returned (.tuple #[.agg #[.string ((ms.find? (fun m => decide (m.name = nm))).getD zeroM).name,vf,vr],.bool (ms.find? (fun m => decide (m.name = nm))).isSome]) ∧ w'.ownsRow w.heap.size 56 5 vf ((ms.find? (fun m => decide (m.name = nm))).getD zeroM).fields.length (flRows ((ms.find? (fun m => decide (m.name = nm))).getD zeroM).fields).flatten ∧ w'.ownsRow w.heap.size 3 1 vr ((ms.find? (fun m => decide (m.name = nm))).getD zeroM).reserved.length (inRows ((ms.find? (fun m => decide (m.name = nm))).getD zeroM).reserved).flatten ∧ Below w.heap.size w w' := by
 obtain ⟨a,c,rfl,q1,q2⟩ := hr.form2;have HR : Hid (MsIn w (.slice a ms.length c) ms) := hr;obtain ⟨N,hN⟩ : ∃ N,ms.length = N := ⟨_,rfl⟩;rw [hN] at HR q1 ⊢;have HN : Hid (ms.length = N) := hN;clear hN hr;have HL : Hid (∀ m ∈ ms,m.fields.length ≤ 20 ∧ m.reserved.length ≤ 40) := hl;clear hl;obtain ⟨A,hA⟩ : ∃ A,(ms.find? (fun m => decide (m.name = nm))) = A := ⟨_,rfl⟩;rw [hA];have HA : Hid (A = ((ms.drop 0).find? (fun m => decide (m.name = nm)))) := hA.symm;clear hA;have BX0 : Blk ((w.alloc (.cells #[.string snm,.slice a N c,.slice ae E ce,.slice at' T ct] 26)).alloc (.cells #[.string ⟨#[]⟩,.slice none 0 0,.slice none 0 0] 52)) w.heap.size #[.string snm,.slice a N c,.slice ae E ce,.slice at' T ct] 26 := (Blk.new w _ _).below ((Below.refl _ _).alloc (Nat.le_refl _) _)
 have BR0 : Blk ((w.alloc (.cells #[.string snm,.slice a N c,.slice ae E ce,.slice at' T ct] 26)).alloc (.cells #[.string ⟨#[]⟩,.slice none 0 0,.slice none 0 0] 52)) (w.heap.size + 1) #[.string ⟨#[]⟩,.slice none 0 0,.slice none 0 0] 52 := by
  have := Blk.new (w.alloc (.cells #[.string snm,.slice a N c,.slice ae E ce,.slice at' T ct] 26)) #[.string ⟨#[]⟩,.slice none 0 0,.slice none 0 0] 52
  rwa [show (w.alloc (.cells #[.string snm,.slice a N c,.slice ae E ce,.slice at' T ct] 26)).heap.size = w.heap.size + 1 by simp] at this
 have hb0 : Below w.heap.size w ((w.alloc (.cells #[.string snm,.slice a N c,.slice ae E ce,.slice at' T ct] 26)).alloc (.cells #[.string ⟨#[]⟩,.slice none 0 0,.slice none 0 0] 52)) := ((Below.refl _ _).alloc (Nat.le_refl _) _).alloc (by simp) _
 go_enter Tryz.func21,Tryz.ntmps21
 go_wp2_with fail
 go_loopw [11] (fun iv wr => ∃ k : Nat,iv = .int .i64 (k : Int) ∧ k ≤ N ∧ Hid (A = ((ms.drop k).find? (fun m => decide (m.name = nm)))) ∧ Below w.heap.size w wr ∧ Blk wr (w.heap.size + 1) #[.string ⟨#[]⟩,.slice none 0 0,.slice none 0 0] 52) (fun iv _ => N - (intOf iv).toNat)
 case atStart => exact ⟨0,rfl,by omega,HA,hb0,BR0⟩
 case round =>
  obtain ⟨k,rfl,hk,HAk,hbel,BR⟩ := hrel;clear BX0 BR0 hb0;have hlt2 : w.heap.size + 1 < wr.heap.size := BR.lt;have r0 := (BR.cell 0).trans rfl;have z0 := BR.froz 0;have r1 := (BR.cell 1).trans rfl;have z1 := BR.froz 1;have r2 := (BR.cell 2).trans rfl;have z2 := BR.froz 2
  by_cases hlt : k < N
  ·obtain ⟨f,hf⟩ : ∃ n,ms[k]? = some n := ⟨_,List.getElem?_eq_getElem (by rw [HN.out]; exact hlt)⟩;obtain ⟨g,off,vf,vr,rfl,c0',c1',c2',hrf,hrr⟩ := HR.out.get hf;have c0 := (hbel.cell (World.block_lt_of_cell? _ _ c0')).trans c0';have c1 := (hbel.cell (World.block_lt_of_cell? _ _ c1')).trans c1';have c2 := (hbel.cell (World.block_lt_of_cell? _ _ c2')).trans c2';clear c0' c1' c2';have HF : Hid (RowG w vf 5 (flRows f.fields)) := hrf;have HV : Hid (RowG w vr 1 (inRows f.reserved)) := hrr;obtain ⟨a3,c3,rfl,_,_⟩ := hrf.form2;obtain ⟨a4,c4,rfl,_,_⟩ := hrr.form2;have HF : Hid (RowG w (.slice a3 (flRows f.fields).length c3) 5 (flRows f.fields)) := HF;have HV : Hid (RowG w (.slice a4 (inRows f.reserved).length c4) 1 (inRows f.reserved)) := HV;have HLf : Hid _ := HL.out f (List.mem_of_getElem? hf)
   have HA2 : Hid (A = if decide (f.name = nm) = true then some f else ((ms.drop (k + 1)).find? (fun m => decide (m.name = nm)))) := by
    show _ = _
    rw [HAk.out,drop_at hf,List.find?_cons]
    cases decide (f.name = nm) <;> rfl
   obtain ⟨f0,ff,fr⟩ := f;simp only at c0 c1 c2 HA2 HF HV HLf;generalize hnF : (flRows ff).length = nF at *;generalize hnR : (inRows fr).length = nR at *;clear hrf hrr hf HAk hnF hnR
   by_cases he : f0 = nm
   ·subst he
    have HA3 : Hid (A = some ⟨f0,ff,fr⟩) := by show _ = _; rw [HA2.out,if_pos (by simp)]
    clear HA2;go_wp2_with fail;refine wp_region_held_drew (S := fun _ => True) (by kernel_rfl) trivial (fun hS => ?_);have hba : Below w.heap.size w (wr.alloc (.cells #[.string f0,.slice a3 nF c3,.slice a4 nR c4] 52)).drew := below_drewN 1 (hbel.alloc (by omega) _);have BT : Blk (wr.alloc (.cells #[.string f0,.slice a3 nF c3,.slice a4 nR c4] 52)).drew wr.heap.size #[.string f0,.slice a3 nF c3,.slice a4 nR c4] 52 := Blk.new wr #[.string f0,.slice a3 nF c3,.slice a4 nR c4] 52;have BR2 : Blk (wr.alloc (.cells #[.string f0,.slice a3 nF c3,.slice a4 nR c4] 52)).drew (w.heap.size + 1) #[.string ⟨#[]⟩,.slice none 0 0,.slice none 0 0] 52 := BR.below (below_drewN 1 ((Below.refl _ _).alloc (Nat.le_refl _) _))
    have HSZ : Hid ((wr.alloc (.cells #[.string f0,.slice a3 nF c3,.slice a4 nR c4] 52)).drew.heap.size = wr.heap.size + 1) := by show _ = _; simp [World.drew]
    generalize (wr.alloc (.cells #[.string f0,.slice a3 nF c3,.slice a4 nR c4] 52)).drew = W0 at *;obtain ⟨bt,hbt⟩ : ∃ n,wr.heap.size = n := ⟨_,rfl⟩;rw [hbt] at BT HSZ hlt2 ⊢;clear hbt c0 c1 c2 r0 r1 r2 z0 z1 z2 hS;have t1 : W0.cell? ⟨bt,1,none⟩ = some (.slice a3 nF c3) := BT.cell 1;have t2 : W0.cell? ⟨bt,2,none⟩ = some (.slice a4 nR c4) := BT.cell 2;refine rg_take 0 19 (.pointer (some ⟨bt,1,none⟩)) _ rfl rfl (by kernel_rfl) (by kernel_rfl) (by kernel_rfl) (fun _ _ _ h => h) (by rfl) (fun w' hw' => ?_) trivial (listed' := bts 10 1) (by kernel_rfl) rfl ?_
    ·go_simp
    simp only [zsA,zsZ,zsS];refine rg_take 3 22 (.pointer (some ⟨bt,2,none⟩)) _ rfl rfl (by kernel_rfl) (by kernel_rfl) (by kernel_rfl) (fun _ _ _ h => h) (by rfl) (fun w' hw' => ?_) trivial (listed' := bts 10 9) (by kernel_rfl) rfl ?_
    ·go_simp
    simp only [zsA,zsZ,zsS];refine rg_llc 1 4 2 20 23 21 (.slice a3 nF c3) (.slice a4 nR c4) 38 #[.slice a3 nF c3] (fun W => W.cell? ⟨bt,2,none⟩ = some (.slice a4 nR c4)) rfl rfl rfl rfl rfl rfl (by kernel_rfl) (by kernel_rfl) (by kernel_rfl) (by kernel_rfl) (by kernel_rfl) (fun _ => rfl) (fun _ => rfl) (fun _ => rfl) (by decide) (by decide) (by decide) (by decide) (by go_simp) (by go_simp) (by go_simp) (by go_simp) (fun v W hLD => by go_simp) (fun W => by go_simp) (fun W => by go_simp) ?_;refine (freshF_any (HF.out.below hba) (by have := HLf.out; omega)).mono ?_;rintro e w2 ⟨rv,rfl,ho,hb2⟩;have BT2 := BT.below hb2;have BR3 := BR2.below hb2;have hbw2 : Below w.heap.size w w2 := hba.trans (hb2.mono hba.size);refine ⟨_,rfl,BT2.cell 2,?_⟩;simp only [zsA,zsZ,zsS];clear t1 t2;refine rg_take 6 25 (.pointer (some ⟨bt,1,none⟩)) _ rfl rfl (by kernel_rfl) (by kernel_rfl) (by kernel_rfl) (fun _ _ _ h => h) (by rfl) (fun w' hw' => ?_) trivial (listed' := bts 10 95) (by kernel_rfl) rfl ?_
    ·go_simp
    simp only [zsA,zsZ,zsS];refine rg_call 5 24 39 #[.slice a4 nR c4] rfl rfl (by kernel_rfl) (by rfl) (listed' := bts 10 127) (by kernel_rfl) (fun W => by go_simp) ?_;refine (freshI_any (HV.out.below hbw2) (by have := HLf.out; omega)).mono ?_;rintro e w3 ⟨rw,rfl,ho2,hb3⟩;refine ⟨_,rfl,trivial,?_⟩;simp only [zsA,zsZ,zsS];have BT3 := BT2.below hb3;have BR4 := BR3.below hb3;have hbw : Below w.heap.size w w3 := hbw2.trans (hb3.mono hbw2.size)
    have HO1 : Hid (w3.ownsRow (bt + 1) 56 5 rv ff.length (flRows ff).flatten) := by show World.ownsRow _ _ _ _ _ _ _; rw [HSZ.out] at ho; exact own_below ho hb3
    have HO2 : Hid (w3.ownsRow (bt + 1) 3 1 rw fr.length (inRows fr).flatten) := own_base ho2 (by have := hb2.size; have := HSZ.out; omega);obtain ⟨ra,rc,hrv⟩ := own_form ho;obtain ⟨qa,qc,hqv⟩ := own_form ho2;subst hrv hqv;have HO1 : Hid (w3.ownsRow (bt + 1) 56 5 (.slice ra ff.length rc) ff.length (flRows ff).flatten) := HO1;have HO2 : Hid (w3.ownsRow (bt + 1) 3 1 (.slice qa fr.length qc) fr.length (inRows fr).flatten) := HO2;obtain ⟨nFF,hNL⟩ : ∃ x,ff.length = x := ⟨_,rfl⟩;obtain ⟨nRR,hRL⟩ : ∃ x,fr.length = x := ⟨_,rfl⟩;rw [hNL] at HO1 ⊢;rw [hRL] at HO2 ⊢;have HNL : Hid (ff.length = nFF) := hNL;have HRL : Hid (fr.length = nRR) := hRL;clear hNL hRL;have hlt3 : bt < w3.heap.size := BT3.lt;clear ho ho2 hb2 hb3 BT BT2 BR2 BR3 hba hbw2 hbel HSZ BR;have t0 : w3.cell? ⟨bt,0,none⟩ = some (.string f0) := BT3.cell 0;have t1 : w3.cell? ⟨bt,1,none⟩ = some (.slice a3 nF c3) := BT3.cell 1;have t2 : w3.cell? ⟨bt,2,none⟩ = some (.slice a4 nR c4) := BT3.cell 2;have y1 := BT3.froz 1;have y2 := BT3.froz 2;have r0 := (BR4.cell 0).trans rfl;have r1 := (BR4.cell 1).trans rfl;have r2 := (BR4.cell 2).trans rfl;have z0 := BR4.froz 0;have z1 := BR4.froz 1;have z2 := BR4.froz 2
    have hdd : w.heap.size + 1 ≠ bt := by omega
    refine rg_store 7 (w3.setCell ⟨bt,1,none⟩ (.slice ra nFF rc)) rfl rfl (by kernel_rfl) (by rfl) (listed' := bts 10 255) (by kernel_rfl) (by go_simp) trivial ?_;refine rg_take 8 26 (.pointer (some ⟨bt,2,none⟩)) _ rfl rfl (by kernel_rfl) (by kernel_rfl) (by kernel_rfl) (fun _ _ _ h => h) (by rfl) (fun w' hw' => ?_) trivial (listed' := bts 10 511) (by kernel_rfl) rfl ?_
    ·go_simp
    simp only [zsA,zsZ,zsS];refine rg_store 9 ((w3.setCell ⟨bt,1,none⟩ (.slice ra nFF rc)).setCell ⟨bt,2,none⟩ (.slice qa nRR qc)) rfl rfl (by kernel_rfl) (by rfl) (listed' := bts 10 1023) (by kernel_rfl) (by go_simp) trivial ?_;refine wpAnyH_done (by kernel_rfl) ?_ _;go_wp2_with fail;refine bodyPost_ret (results_two rfl _ _ _ ⟨w.heap.size + 1,0,none⟩ (.agg #[.string f0,.slice ra nFF rc,.slice qa nRR qc]) (by go_simp) (by go_simp)) rfl ?_;refine ⟨.slice ra nFF rc,.slice qa nRR qc,ret_two (by rw [HA3.out]; rfl) (by rw [HA3.out]; rfl),?_,?_,?_⟩
    ·rw [HA3.out];rw [show ((some (⟨f0,ff,fr⟩ : MsS)).getD zeroM).fields.length = nFF from HNL.out];refine own_base (own_kp HO1.out (S := fun k => k = bt ∨ k = w.heap.size + 1) ?_ (fun k hk => by omega)) (by omega)
     repeat' first | exact Kp.refl _ _ | refine Kp.setCell ?_ (fun _ => by simp) _
    ·rw [HA3.out];rw [show ((some (⟨f0,ff,fr⟩ : MsS)).getD zeroM).reserved.length = nRR from HRL.out];refine own_base (own_kp HO2.out (S := fun k => k = bt ∨ k = w.heap.size + 1) ?_ (fun k hk => by omega)) (by omega)
     repeat' first | exact Kp.refl _ _ | refine Kp.setCell ?_ (fun _ => by simp) _
    ·repeat' first | exact hbw | refine Below.setCell ?_ (by first | (simp; done) | (simp; omega)) _
   ·have hq := bytes_ne he
    have HA3 : Hid (A = ((ms.drop (k + 1)).find? (fun m => decide (m.name = nm)))) := by show _ = _; rw [HA2.out,if_neg (by simpa using he)]
    have hb2 : Below w.heap.size w (wr.alloc (.cells #[.string f0,.slice a3 nF c3,.slice a4 nR c4] 52)) := hbel.alloc (by omega) _;have BR2 : Blk (wr.alloc (.cells #[.string f0,.slice a3 nF c3,.slice a4 nR c4] 52)) (w.heap.size + 1) #[.string ⟨#[]⟩,.slice none 0 0,.slice none 0 0] 52 := BR.below ((Below.refl _ _).alloc (Nat.le_refl _) _);go_wp2_with fail
    go_roundw
    case rel => exact ⟨k + 1,by go_num,by omega,HA3,hb2,BR2⟩
    case measure => simp [intOf]; omega
  ·have HA2 : Hid (A = none) := by show _ = _; rw [HAk.out,drop_end (by rw [HN.out]; omega)]; rfl
   go_wp2_with fail;refine bodyPost_ret (results_two rfl _ _ _ ⟨w.heap.size + 1,0,none⟩ (.agg #[.string ⟨#[]⟩,.slice none 0 0,.slice none 0 0]) (by go_simp) (by go_simp)) rfl ?_;exact ⟨.slice none 0 0,.slice none 0 0,ret_two (by rw [HA2.out]; rfl) (by rw [HA2.out]; rfl),by rw [HA2.out]; exact World.ownsRow_nil _ _ _ _,by rw [HA2.out]; exact World.ownsRow_nil _ _ _ _,(Below.setCell (Below.setCell (Below.setCell hbel (by simp) _) (by simp) _) (by simp) _)⟩
end
section
open Go.ChangeShapes Go.WideShapes Go.ChangeAt Go.RowKit
section
variable {T MT : TypeId} {k : Value}
variable {E : TypeId} {L : List (Value × Value)} {b : Nat} {w : World}
end
end
end Go.Proofs.YtmgbhicogmclgaaGreat

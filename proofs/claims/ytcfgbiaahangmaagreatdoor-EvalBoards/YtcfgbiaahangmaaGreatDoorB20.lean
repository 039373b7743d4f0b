import Derived.Test.YtcfgbiaahangmaaGreatDoorB19
set_option maxHeartbeats 1000000
set_option maxRecDepth 100000
namespace Go.Proofs.YtcfgbiaahangmaaGreatDoor
open Go.Proofs.Tryz
open Go.RowKit Go.Sort
theorem size_le {W : World} {g n : Nat} {D : DataW Value} (h : W.ownsMap Tryz.prog 24 hR g n D) : Maps.size D ≤ n:=by
 obtain ⟨es,cl,_,_,h3,h4⟩:=h
 rw [h4,Maps.size_eq,length_read]
 exact h3
structure AlS (W : World) (M : Bov) (D : DataW Value) (g R : Nat) (left : Lit → Bool) (cnt : Nat) (A : List Kn) (gg cv : Nat) (wr : World) : Prop where
 e : Ext W wr
 rg : wr.ranges Tryz.prog 24 hR g R 200 D left cnt
 o : wr.ownsRow W.heap.size 35 6 (.slice (some ⟨gg,0,none⟩) A.length cv) A.length (A.flatMap cK)
 l : LsA M left A
 n : A.length + cnt ≤ 200
 h : ∀ z,left z = true → Maps.has D z = true
 b0 : W.heap.size ≤ R
theorem own_ne {w : World} {g R n cnt gg m c base k : Nat} {D : DataW Value} {left : Lit → Bool} {T : TypeId} {xs : List Value} (h : w.ranges Tryz.prog 24 hR g R n D left cnt) (o : w.ownsRow base T k (.slice (some ⟨gg,0,none⟩) m c) m xs) : gg ≠ g ∧ gg ≠ R:=by
 obtain ⟨es,clock,since,seen,c0,h1,_,_,_,h2,_⟩:=h
 rcases o.2 with ⟨h0,_⟩ | ⟨g',cap,cur,e,_,h3,_⟩
 · cases h0
 · cases e
   exact ⟨fun e=>(by rw [e,h1] at h3;cases h3),fun e=>(by rw [e,h2] at h3;cases h3)⟩
theorem own_kept {w w' : World} {gg m c base k : Nat} {T : TypeId} {xs : List Value} (o : w.ownsRow base T k (.slice (some ⟨gg,0,none⟩) m c) m xs) (hb : gg < w.heap.size → w'.heap[gg]? = w.heap[gg]?) : w'.ownsRow base T k (.slice (some ⟨gg,0,none⟩) m c) m xs:=by
 refine ⟨o.1,?_⟩
 rcases o.2 with ⟨h0,_⟩ | ⟨g',cap,cur,e,h2,h3,h4⟩
 · cases h0
 · cases e
   exact .inr ⟨gg,c,cur,rfl,h2,(hb (Array.getElem?_eq_some_iff.1 h3).1).trans h3,h4⟩
theorem own_some {w : World} {p : Option Addr} {n c base k : Nat} {T : TypeId} {xs : List Value} (o : w.ownsRow base T k (.slice p (n + 1) c) (n + 1) xs) : ∃ g,p = some ⟨g,0,none⟩:=by
 rcases o.2 with ⟨h0,_⟩ | ⟨g',cap,cur,e,_⟩
 · cases h0
 · cases e
   exact ⟨g',rfl⟩
theorem Ext.grow1 {W w w' : World} {r : Nat} (e : Ext W w) (h : w.grownBy w' (some r)) (hr : W.heap.size ≤ r) : Ext W w' :=
 ⟨h.os.trans e.os,h.tape.trans e.tape,h.output.trans e.output,Nat.le_trans e.size h.size,fun k hk=>(h.block k (llL hk e.size) (fun q=>by cases q;omega)).trans (e.block k hk)⟩
theorem allB_some (W : World) (b g : Nat) (M : Bov) (L : List Kn) (hB : Brd W b (some g) 200 M) (hL : LB L M) :
   Calls Tryz.prog 9 #[.pointer (some ⟨b,0,none⟩)] W fun e w'=>∃ p c,e = .returned (.slice p L.length c) ∧ RdKn w' (.slice p L.length c) L ∧ Ext W w':=by
 obtain ⟨D,hown,hrel⟩ : MapB W g 200 M:=hB.map
 have hlen:=fun ty=>hown.len Tryz.underlying64 ty
 have hc:=hB.cell
 have hz:=size_le hown
 obtain ⟨N,hN⟩ : ∃ N,Maps.size D = N:=⟨_,rfl⟩
 have HD : Hid (W.ownsMap Tryz.prog 24 hR g 200 D ∧ RelD D M ∧ BdOk M ∧ LB L M ∧ b < W.heap.size ∧ g < W.heap.size ∧ Maps.size D ≤ 200 ∧ Maps.size D = N):=⟨hown,hrel,hB.ok,hL,hB.lt,hown.lt,hz,hN⟩
 rw [hN] at hlen hz
 clear hown hrel hL hB hN
 have own3 : ∀ w3,Ext W w3 → w3.ownsMap Tryz.prog 24 hR g 200 D:=fun w3 e=>by
   obtain ⟨es,cl,h1,r⟩:=HD.out.1
   exact ⟨es,cl,(e.block g HD.out.2.2.2.2.2.1).trans h1,r⟩
 go_enter func9,ntmps9
 go_wp2_with (first
   | (at_make;refine own_make eltK _ _ _ _ N W.heap.size rfl rfl J25 J25 J25 J2 J28 nrf ?_;intro w3 O3 E3;have H3 : Hid (Ext W w3 ∧ w3.ownsRow W.heap.size 35 6 (.slice (some ⟨W.heap.size,0,none⟩) 0 N) 0 []):=⟨E3,O3⟩;have hc3:=(E3.cell.1 b 0 HD.out.2.2.2.2.1).trans hc;clear O3 E3)
   | (at_range;refine wpList_range_own _ rfl _ 64 rfl 24 33 kLaw Tryz.underlying64 hR g 200 D rfl (own3 _ H3.out.1) ?_;intro w0 hrg0 hg0 hs0))
 go_frame
 have hR3 : W.heap.size < w3.heap.size:=by
   rcases H3.out.2.2 with ⟨h,_⟩ | ⟨g',cap,cur,h,_,h3,_⟩
   · cases h
   · cases h
     exact (Array.getElem?_eq_some_iff.1 h3).1
 have HA : Hid (AlS W M D g w3.heap.size (Maps.has D) (Maps.size D) [] W.heap.size N w0):=by
   have E0 : Ext w3 w0:=grownE hg0
   exact ⟨H3.out.1.trans E0,hrg0,ownsRow_ext H3.out.2 E0,lsa_start HD.out.2.1 HD.out.2.2.1,by have:=HD.out.2.2.2.2.2.2.1;simpa using this,fun z h=>h,H3.out.1.size⟩
 obtain ⟨R,hR0⟩ : ∃ R,w3.heap.size = R:=⟨_,rfl⟩
 rw [hR0] at HA ⊢
 clear hrg0 hg0 hs0 own3 hR3 hR0 H3 hlen hc3 hc hz
 go_loopw [3] (fun ov wr=>∃ (left : Lit → Bool) (cnt : Nat) (A : List Kn) (gg nv cv : Nat),ov = .slice (some ⟨gg,0,none⟩) nv cv ∧ nv = A.length ∧ AlS W M D g R left cnt A gg cv wr) (fun _ wr=>wr.rangeLeft g R)
 case atStart=>exact ⟨_,_,[],_,0,_,rfl,rfl,HA.out⟩
 case round =>
   clear HA
   obtain ⟨left,cnt,A,gg,nv,cv,rfl,hnv,hS⟩:=hrel
   have HA : Hid (AlS W M D g R left cnt A gg cv wr ∧ nv = A.length):=⟨hS,hnv⟩
   have hrg:=hS.rg
   clear hS hnv
   go_wp2_with (at_next;refine wpList_next_ranges _ rfl _ rfl 24 kLaw hR (fun x : Int × Int=>plc x.1 x.2) (id : Value → Value) key_inv' hR_inv g R 200 _ _ _ rfl hrg ?_ ?_)
   · intro hc0 hl0
     have hO:=HA.out.1.o
     rw [← HA.out.2] at hO
     have HL0 : Hid (∀ kl,left kl = false):=hl0
     have cS:=sortK_any wr W.heap.size gg cv nv A hO HA.out.2 (by have:=HA.out.1.n;omega)
     clear hO hc0 hl0 hrg
     go_wp2_with fail
     refine cS.mono ?_
     rintro e w5 ⟨dd,rfl,hp,hs,hrd,hE⟩
     have hd:=lsa_end HA.out.1.l HL0.out hp hs HD.out.2.2.2.1
     subst hd
     have hn5 : nv = dd.length:=by rw [HA.out.2,hp.length_eq]
     subst hn5
     have H5 : Hid (RdKn w5 (.slice (some ⟨gg,0,none⟩) dd.length cv) dd ∧ Ext W w5):=⟨hrd,hE W nrf HA.out.1.e⟩
     clear hp hs hrd hE cS
     go_wp2_with fail
     go_ret
     exact ⟨_,_,rfl,H5.out.1,H5.out.2⟩
   · intro r q cc kl' y1 y2 w1 cnt1 hkey hlx hv hat hrg1 hlt hg1 hs1 hen
     obtain ⟨r',q',e1,e2,ir,iq⟩:=key_inv hkey
     obtain ⟨rfl,rfl⟩ : r = r' ∧ q = q':=by simpa [plc] using e1
     subst e2
     have hyy : y1 = .held cc:=by simp [hR] at hv;exact hv.1.symm
     have hcc : cc = (M r q).dat:=by
       have h9:=hat (.held V.blank.dat)
       rw [(HD.out.2.1 r q ir iq).1,hyy] at h9
       simpa using h9.symm
     subst hcc
     have hk : (M r q).k ≠ 0:=(HD.out.2.1 r q ir iq).2.1 (HA.out.1.h _ hlx)
     have hLs:=lsa_step HD.out.2.2.1 HA.out.1.l ir iq hlx hk
     obtain ⟨x,hx⟩ : ∃ x : Kn,x = ⟨r,q,(M r q).rw⟩:=⟨_,rfl⟩
     rw [← hx] at hLs
     have hen2 : (Instr.entry (.pointer (some ⟨R,0,none⟩))).run Tryz.prog w1 = .ok (.tuple #[.agg #[.int .i64 x.r,.int .i64 x.c],.agg #[.int .i64 x.v.k,.int .i64 x.v.n,.string x.v.s,.int .i64 x.v.e]]) w1:=by
       rw [hx,hen,dat_eq]
       rfl
     have H1 : Hid (Ext W w1 ∧ w1.ranges Tryz.prog 24 hR g R 200 D (fun z=>left z && !z.sameKey (kl r q)) cnt1 ∧ w1.ownsRow W.heap.size 35 6 (.slice (some ⟨gg,0,none⟩) A.length cv) A.length (A.flatMap cK) ∧ LsA M (fun z=>left z && !z.sameKey (kl r q)) (A ++ [x]) ∧ cnt1 < cnt):=⟨HA.out.1.e.grow1 hg1 HA.out.1.b0,hrg1,own_kept HA.out.1.o (fun h=>hg1.block gg h (fun e=>(own_ne hrg HA.out.1.o).2 (Option.some.inj e))),hLs,hlt⟩
     have HRD : Hid (RdKn (((w1.alloc (.cells #[.int .i64 x.r,.int .i64 x.c] 24)).alloc (.cells #[.int .i64 x.v.k,.int .i64 x.v.n,.string x.v.s,.int .i64 x.v.e] 33)).alloc (.cells #[.int .i64 x.r,.int .i64 x.c,.int .i64 x.v.k,.int .i64 x.v.n,.string x.v.s,.int .i64 x.v.e] 35)) (.slice (some ⟨w1.heap.size + 1 + 1,0,none⟩) 1 1) [x]):=by
       have t6:=top6 (W:=((w1.alloc (.cells #[.int .i64 x.r,.int .i64 x.c] 24)).alloc (.cells #[.int .i64 x.v.k,.int .i64 x.v.n,.string x.v.s,.int .i64 x.v.e] 33))) (x:=x) (T:=35)
       have hz : ((w1.alloc (.cells #[.int .i64 x.r,.int .i64 x.c] 24)).alloc (.cells #[.int .i64 x.v.k,.int .i64 x.v.n,.string x.v.s,.int .i64 x.v.e] 33)).heap.size = w1.heap.size + 1 + 1:=J58
       simp only [hz] at t6
       exact RdKn.one J58 t6
     have HO : Hid ((((w1.alloc (.cells #[.int .i64 x.r,.int .i64 x.c] 24)).alloc (.cells #[.int .i64 x.v.k,.int .i64 x.v.n,.string x.v.s,.int .i64 x.v.e] 33)).alloc (.cells #[.int .i64 x.r,.int .i64 x.c,.int .i64 x.v.k,.int .i64 x.v.n,.string x.v.s,.int .i64 x.v.e] 35)).ownsRow W.heap.size 35 6 (.slice (some ⟨gg,0,none⟩) nv cv) nv (A.flatMap cK)):=by
       rw [HA.out.2]
       exact ownsRow_ext H1.out.2.2.1 (((xr.alloc _).alloc _).alloc _)
     have HG : Hid ((((w1.alloc (.cells #[.int .i64 x.r,.int .i64 x.c] 24)).alloc (.cells #[.int .i64 x.v.k,.int .i64 x.v.n,.string x.v.s,.int .i64 x.v.e] 33)).alloc (.cells #[.int .i64 x.r,.int .i64 x.c,.int .i64 x.v.k,.int .i64 x.v.n,.string x.v.s,.int .i64 x.v.e] 35)).ranges Tryz.prog 24 hR g R 200 D (fun z=>left z && !z.sameKey (kl r q)) cnt1):=((H1.out.2.1.alloc _).alloc _).alloc _
     have HX : Hid (Ext W (((w1.alloc (.cells #[.int .i64 x.r,.int .i64 x.c] 24)).alloc (.cells #[.int .i64 x.v.k,.int .i64 x.v.n,.string x.v.s,.int .i64 x.v.e] 33)).alloc (.cells #[.int .i64 x.r,.int .i64 x.c,.int .i64 x.v.k,.int .i64 x.v.n,.string x.v.s,.int .i64 x.v.e] 35))):=((H1.out.1.alloc _).alloc _).alloc _
     have HNV : Hid (A.length = nv ∧ nv + cnt ≤ 200):=⟨HA.out.2.symm,by have:=HA.out.1.n;have:=HA.out.2;omega⟩
     clear hkey hlx hv hat hrg1 hlt hg1 hs1 hen e1 ir iq hyy hk hLs hx
     go_wp2_with (at_builtin;refine kn_app W _ _ _ _ _ A [x] nv 1 W.heap.size rfl rfl J25 J25 HNV.out.1 rfl HO.out HRD.out HX.out nrf HX.out.size (by have:=HNV.out.2;omega) ?_;intro pv6 c6 w6 o6 e6 g6;obtain ⟨g6',hg6⟩:=own_some o6;subst hg6;have H6 : Hid (AlS W M D g R (fun z=>left z && !z.sameKey (kl r q)) cnt1 (A ++ [x]) g6' c6 w6):=⟨e6,HG.out.kept g6 (fun e=>(own_ne HG.out HO.out).1 (Option.some.inj e).symm) (fun e=>(own_ne HG.out HO.out).2 (Option.some.inj e).symm),(by rw [List.length_append,HNV.out.1];exact o6),H1.out.2.2.2.1,(by rw [List.length_append,HNV.out.1];have:=HNV.out.2;have:=H1.out.2.2.2.2;simp;omega),(fun z hz=>HA.out.1.h z (by simp at hz;exact hz.1)),HA.out.1.b0⟩;clear o6 e6 g6)
     go_roundw
     case rel=>exact ⟨_,_,_,_,_,_,rfl,by rw [List.length_append,HNV.out.1];rfl,H6.out⟩
     case measure=>rw [H6.out.rg.left_eq,hrg.left_eq];exact H1.out.2.2.2.2
theorem allB_none (W : World) (b : Nat) (M : Bov) (L : List Kn) (hB : Brd W b none 200 M) (hL : LB L M) :
   Calls Tryz.prog 9 #[.pointer (some ⟨b,0,none⟩)] W fun e w'=>∃ p c,e = .returned (.slice p L.length c) ∧ RdKn w' (.slice p L.length c) L ∧ Ext W w':=by
 have hM : M = bz:=hB.map
 have hL0 : L = []:=by
   subst hM
   exact lb_same hL lb_z
 subst hL0
 have hlen:=fun (w : World) ty=>Maps.len_nil (P:=Tryz.prog) (w:=w) Tryz.underlying64 ty
 have hc:=hB.cell
 have hmk : ∀ w,(Instr.makeSlice 22 (.int .i64 0) (.int .i64 0)).run Tryz.prog w = .ok (.slice (some ⟨w.heap.size,0,none⟩) 0 0) (w.alloc (.cells #[] 35)):=fun _=>by kernel_rfl
 obtain ⟨W1,hW1⟩ : ∃ W1,W.alloc (.cells #[] 35) = W1:=⟨_,rfl⟩
 have H1 : Hid (Ext W W1 ∧ W1.ownsRow W.heap.size 35 6 (.slice (some ⟨W.heap.size,0,none⟩) 0 0) 0 []):=by
   rw [← hW1]
   exact ⟨xr.alloc _,own_newK W W rfl nrf⟩
 have hc1:=(H1.out.1.cell.1 b 0 hB.lt).trans hc
 have hrg:=run_range_nilMap (P:=Tryz.prog) W1 64 24 33 Tryz.underlying64
 have hnx : ∀ ty,(Instr.next (.pointer (some ⟨W1.heap.size,0,none⟩)) false ty).run Tryz.prog (W1.alloc (.mapIter none 0 #[] 0)) = _:=fun ty=>run_next_nilMap _ ty 0 0 #[]
 have cS:=sortK_any (W1.alloc (.mapIter none 0 #[] 0)) W.heap.size W.heap.size 0 0 [] (ownsRow_ext H1.out.2 (xr.alloc _)) rfl J9
 clear hB hL hM
 go_enter func9,ntmps9
 go_wp2_with fail
 refine wp_loop_rounds 1 ?_
 rw [rounds_succ]
 go_wp2_with fail
 refine cS.mono ?_
 rintro e w5 ⟨dd,rfl,hp,_,hrd,hE⟩
 have hd:=hp.eq_nil
 subst hd
 have H5 : Hid (RdKn w5 (.slice (some ⟨W.heap.size,0,none⟩) 0 0) [] ∧ Ext W w5):=⟨hrd,hE W nrf (H1.out.1.alloc _)⟩
 clear hp hrd hE cS
 go_wp2_with fail
 go_ret
 exact ⟨_,_,rfl,H5.out.1,H5.out.2⟩
theorem allB_any (W : World) (b : Nat) (g : Option Nat) (M : Bov) (L : List Kn) (hB : Brd W b g 200 M) (hL : LB L M) :
   Calls Tryz.prog 9 #[.pointer (some ⟨b,0,none⟩)] W fun e w'=>∃ p c,e = .returned (.slice p L.length c) ∧ RdKn w' (.slice p L.length c) L ∧ Ext W w':=by
 cases g with
 | none=>exact allB_none W b M L hB hL
 | some g=>exact allB_some W b g M L hB hL
open Go.RowKit
def mStep (M : Bov) (x : Kn) : Bov:=bset M x.r x.c x.v.v
def lStep (L : List Kn) (x : Kn) : List Kn:=putL L x.r x.c x.v.v
def bM (l : List Kn) : Bov:=l.foldl mStep bz
def bL (l : List Kn) : List Kn:=l.foldl lStep []
theorem bM_snoc (l : List Kn) (x : Kn) : bM (l ++ [x]) = bset (bM l) x.r x.c x.v.v:=by unfold bM;rw [List.foldl_append];rfl
theorem bL_snoc (l : List Kn) (x : Kn) : bL (l ++ [x]) = putL (bL l) x.r x.c x.v.v:=by unfold bL;rw [List.foldl_append];rfl
theorem bLB (l : List Kn) : LB (bL l) (bM l):=by
 have : ∀ (l : List Kn) (L : List Kn) (M : Bov),LB L M → LB (l.foldl lStep L) (l.foldl mStep M):=by
   intro l
   induction l with
   | nil=>intro L M h;exact h
   | cons x l ih=>intro L M h;exact ih _ _ (lb_put h _ _ _)
 exact this l [] bz lb_z
theorem bL_len (l : List Kn) : (bL l).length ≤ l.length:=by
 have : ∀ (l : List Kn) (L : List Kn),(l.foldl lStep L).length ≤ L.length + l.length:=by
   intro l
   induction l with
   | nil=>intro L;exact Nat.le_refl _
   | cons x l ih =>
     intro L
     have h1:=ih (lStep L x)
     have h2:=putL_len x.r x.c x.v.v L
     unfold lStep at h1
     simp only [List.foldl_cons,List.length_cons]
     unfold lStep
     omega
 have h:=this l []
 unfold bL
 simpa using h
theorem map_not_cell {W : World} {g n o : Nat} {M : Bov} {u : Value} (h : MapB W g n M) (hu : W.cell? ⟨g,o,none⟩ = some u) : False:=by
 obtain ⟨D,⟨es,clock,hb,_⟩,_⟩:=h
 unfold World.cell? at hu
 simp only [hb] at hu
 cases hu
structure BdI (W : World) (b d : Nat) (g : Option Nat) (p : Option Addr) (c n : Nat) (M : Bov) (L : List Kn) (wr : World) : Prop where
 e : Ext W wr
 br : Brd wr b g n M
 gl : ∀ k,g = some k → W.heap.size ≤ k
 db : DBr wr d p c L
 pl : ∀ a,p = some a → d < a.block
 hb : W.heap.size ≤ b
 bd : b < d
theorem BdI.ext {W wr w' : World} {b d c n : Nat} {g : Option Nat} {p : Option Addr} {M : Bov} {L : List Kn} (h : BdI W b d g p c n M L wr) (e : Ext wr w') : BdI W b d g p c n M L w' :=
 ⟨h.e.trans e,h.br.ext e,h.gl,h.db.ext e,h.pl,h.hb,h.bd⟩
theorem Brd.notMap {W : World} {b n o : Nat} {g : Option Nat} {M : Bov} (h : Brd W b g n M) {k : Nat} {u : Value} (hu : W.cell? ⟨k,o,none⟩ = some u) : g ≠ some k:=by
 intro e
 subst e
 exact map_not_cell h.map hu
theorem BdI.put {W wr w' : World} {b d c n : Nat} {g g' : Option Nat} {p : Option Addr} {M M' : Bov} {L : List Kn} (h : BdI W b d g p c n M L wr) (hB : Brd w' b g' (n + 1) M') (hg : g' = g ∨ (g = none ∧ ∃ q,g' = some q ∧ wr.heap.size ≤ q)) (e : ExtS (fun k=>k = b ∨ g = some k) wr w') : BdI W b d g' p c (n + 1) M' L w':=by
 have hS : ∀ k,(k = b ∨ g = some k) → W.heap.size ≤ k:=fun k hk=>by
   rcases hk with rfl | hk
   · exact h.hb
   · exact h.gl k hk
 refine ⟨e.ext h.e hS,hB,fun k hk=>?_,h.db.keep e (fun hd=>?_) (fun a ha hL hd=>?_),h.pl,h.hb,h.bd⟩
 · rcases hg with hg | ⟨_,q,hq,hge⟩
   · exact h.gl k (hg ▸ hk)
   · rw [hq] at hk;cases hk;exact Nat.le_trans h.e.size hge
 · rcases hd with hd | hd
   · have:=h.bd;omega
   · exact h.br.notMap h.db.cell hd
 · rcases hd with hd | hd
   · have:=h.pl a ha;have:=h.bd;omega
   · obtain ⟨x,hx⟩ : ∃ x,L[0]? = some x:=by
       cases L with
       | nil=>exact absurd rfl hL
       | cons x l=>exact ⟨x,rfl⟩
     obtain ⟨gb,off,hp,_,hc,_⟩:=h.db.rd.at hx
     rw [hp] at ha
     cases ha
     exact h.br.notMap hc hd
theorem BdI.dput {W wr w' : World} {b d c n c' : Nat} {g : Option Nat} {p p' : Option Addr} {M : Bov} {L L' : List Kn} (h : BdI W b d g p c n M L wr) (hD : DBr w' d p' c' L') (hp : p' = p ∨ ∀ a,p' = some a → wr.heap.size ≤ a.block) (e : ExtB d wr w') : BdI W b d g p' c' n M L' w':=by
 have eS : ExtS (fun k=>k = d) wr w':=⟨e.os,e.tape,e.output,e.size,fun k hk hn=>e.block k hk hn⟩
 refine ⟨e.ext h.e (by have:=h.hb;have:=h.bd;omega),h.br.keep eS (by have:=h.bd;omega) (fun k hk hd=>by subst hd;exact h.br.notMap h.db.cell hk),h.gl,hD,fun a ha=>?_,h.hb,h.bd⟩
 rcases hp with rfl | hp
 · exact h.pl a ha
 · have:=hp a ha;have:=h.db.lt;omega
def BoQ (W : World) (l : List Kn) (e : Ending) (w' : World) : Prop:=∃ d g p c,e = .returned (.tuple #[.pointer (some ⟨W.heap.size,0,none⟩),.pointer (some ⟨d,0,none⟩)]) ∧ BdI W W.heap.size d g p c 200 (bM (l.take 200)) (bL (l.take 200)) w'
theorem boards_any (W : World) (l : List Kn) (pp : Option Addr) (n cl : Nat) (hI : RdKn W (.slice pp n cl) l) (hk : KnI l) (hN : Nm W) :
   Calls Tryz.prog 8 #[.slice pp n cl] W (BoQ W l):=by
 have hn:=hI.len
 have cN:=fun W=>new_any W
 have HI : Hid (RdKn W (.slice pp n cl) l ∧ KnI l ∧ Nm W ∧ n = l.length):=⟨hI,hk,hN,hn⟩
 clear hI hk hN hn
 go_enter func8,ntmps8
 go_wp2_with fail
 refine (cN _).mono ?_
 rintro e w0 ⟨rfl,hB0,E0⟩
 have HZ : Hid (BdI W W.heap.size w0.heap.size none none 0 0 bz [] (w0.alloc (.cells #[.slice none 0 0] 31))):=by
   refine ⟨E0.alloc _,hB0.ext (xr.alloc _),fun k hk=>(by cases hk),⟨by simp,by simp [go_sem],by simp [go_sem],RdKn.nil _,fun a ha=>(by cases ha)⟩,fun a ha=>(by cases ha),Nat.le_refl _,hB0.lt⟩
 clear hB0 E0 cN
 go_wp2_with fail
 go_loopw [6] (fun iv wr=>∃ (j : Nat) (g : Option Nat) (pd : Option Addr) (cd : Nat),iv = .int .i64 (j : Int) ∧ j ≤ n ∧ j ≤ 200 ∧ BdI W W.heap.size w0.heap.size g pd cd j (bM (l.take j)) (bL (l.take j)) wr) (fun iv _=>200 - (intOf iv).toNat)
 case atStart=>exact ⟨0,_,_,_,rfl,Nat.zero_le _,Nat.zero_le _,HZ.out⟩
 case round =>
   clear HZ
   obtain ⟨j,g,pd,cd,rfl,hj,hj2,hS⟩:=hrel
   have HB0 : Hid (BdI W W.heap.size w0.heap.size g pd cd j (bM (l.take j)) (bL (l.take j)) wr):=hS
   clear hS
   by_cases hlt : j < n
   · have hltI : (j : Int) < (n : Int):=J2
     have t1 : decide ((j : Int) < (n : Int)) = true:=by simpa using hltI
     by_cases h200 : j < 200
     · have h200I : (j : Int) < 200:=J2
       obtain ⟨x,hx⟩ : ∃ x,l[j]? = some x:=⟨_,gEq (by rw [← HI.out.2.2.2];exact hlt)⟩
       have HX : Hid (l[j]? = some x ∧ I64 x.r ∧ I64 x.c ∧ I64 x.v.n):=⟨hx,HI.out.2.1 x (List.mem_of_getElem? hx)⟩
       obtain ⟨gb,off,rfl,hgb,c0,c1,c2,c3,c4,c5⟩:=HI.out.1.at hx
       have mkS : Hid (∀ W2,Ext W W2 → (fun W2=>W2.cell? ⟨gb,off + j * 6,none⟩ = some (.int .i64 x.r) ∧ W2.cell? ⟨gb,off + j * 6 + 1,none⟩ = some (.int .i64 x.c) ∧ W2.cell? ⟨gb,off + j * 6 + 2,none⟩ = some (.int .i64 x.v.k) ∧ W2.cell? ⟨gb,off + j * 6 + 3,none⟩ = some (.int .i64 x.v.n) ∧ W2.cell? ⟨gb,off + j * 6 + 4,none⟩ = some (.string x.v.s) ∧ W2.cell? ⟨gb,off + j * 6 + 5,none⟩ = some (.int .i64 x.v.e)) W2):=fun W2 e=>by
         have k:=fun o=>e.cell.1 gb o hgb
         exact ⟨(k _).trans c0,(k _).trans c1,(k _).trans c2,(k _).trans c3,(k _).trans c4,(k _).trans c5⟩
       have cP:=fun V (g : Option Nat) (h : BdI W W.heap.size w0.heap.size g pd cd j (bM (l.take j)) (bL (l.take j)) V)=>put_any V.drew W.heap.size j g (bM (l.take j)) (h.br.ext xr.drew) J2 x.r x.c x.v.k x.v.n x.v.s x.v.e HX.out.2.2.2 (HI.out.2.2.1.ext h.e.drew)
       have HLL : Hid ((bL (l.take j)).length ≤ 1000):=by
         show _ ≤ _
         have h1:=bL_len (l.take j)
         have h2 : (l.take j).length ≤ j:=J7
         omega
       have cD:=fun V (g : Option Nat) (h : BdI W W.heap.size w0.heap.size g pd cd (j + 1) (bset (bM (l.take j)) x.r x.c x.v.v) (bL (l.take j)) V)=>dput_any V.drew w0.heap.size cd pd (bL (l.take j)) (h.db.ext xr.drew) HLL.out x.r x.c x.v.k x.v.n x.v.s x.v.e
       have HT : Hid (l.take (j + 1) = l.take j ++ [x]):=by show _ = _;rw [List.take_add_one,hx];rfl
       have HJ : Hid (j < n ∧ j < 200):=⟨hlt,h200⟩
       clear c0 c1 c2 c3 c4 c5 hgb hx hlt h200 hj hj2
       go_wp2_with fail
       refine wp_region_held_drew (S:=(fun W2=>W2.cell? ⟨gb,off + j * 6,none⟩ = some (.int .i64 x.r) ∧ W2.cell? ⟨gb,off + j * 6 + 1,none⟩ = some (.int .i64 x.c) ∧ W2.cell? ⟨gb,off + j * 6 + 2,none⟩ = some (.int .i64 x.v.k) ∧ W2.cell? ⟨gb,off + j * 6 + 3,none⟩ = some (.int .i64 x.v.n) ∧ W2.cell? ⟨gb,off + j * 6 + 4,none⟩ = some (.string x.v.s) ∧ W2.cell? ⟨gb,off + j * 6 + 5,none⟩ = some (.int .i64 x.v.e))) J3 ?_ (fun hHeld0=>?_)
       · (first | exact mkS.out _ HB0.out.e.drew | exact mkS.out _ HB1.out.e | exact mkS.out _ HB1.out.e.drew | exact mkS.out _ HB2.out.e)
       refine tkI (i:=0) (oi:=⟨some 22,.move (.tmp 4),25,"law.go:38",#[],none⟩) ?_
       try simp only [Act.put,List.setIfInBounds_toArray,List.set_cons_zero,List.set_cons_succ]
       refine tkI (i:=1) (oi:=⟨some 23,.move (.tmp 0),22,"law.go:38",#[],none⟩) ?_
       try simp only [Act.put,List.setIfInBounds_toArray,List.set_cons_zero,List.set_cons_succ]
       refine tkI (i:=2) (oi:=⟨some 24,.move (.tmp 6),3,"law.go:38",#[],none⟩) ?_
       try simp only [Act.put,List.setIfInBounds_toArray,List.set_cons_zero,List.set_cons_succ]
       refine tkI (i:=3) (oi:=⟨some 25,.indexAddr 22 (.tmp 23) (.tmp 24),0,"law.go:38",#[⟨1,.data⟩,⟨2,.data⟩],none⟩) ?_
       try simp only [Act.put,List.setIfInBounds_toArray,List.set_cons_zero,List.set_cons_succ]
       refine tkI (i:=4) (oi:=⟨some 26,.fieldAddr 35 (.tmp 25) 0,0,"law.go:38",#[⟨3,.data⟩],none⟩) ?_
       try simp only [Act.put,List.setIfInBounds_toArray,List.set_cons_zero,List.set_cons_succ]
       refine tkI (i:=5) (oi:=⟨some 27,.load 3 (.tmp 26),3,"law.go:38",#[⟨4,.data⟩],none⟩) ?_
       try simp only [Act.put,List.setIfInBounds_toArray,List.set_cons_zero,List.set_cons_succ]
       refine tkI (i:=6) (oi:=⟨some 28,.move (.tmp 0),22,"law.go:38",#[],none⟩) ?_
       try simp only [Act.put,List.setIfInBounds_toArray,List.set_cons_zero,List.set_cons_succ]
       refine tkI (i:=7) (oi:=⟨some 29,.move (.tmp 6),3,"law.go:38",#[],none⟩) ?_
       try simp only [Act.put,List.setIfInBounds_toArray,List.set_cons_zero,List.set_cons_succ]
       refine tkI (i:=8) (oi:=⟨some 30,.indexAddr 22 (.tmp 28) (.tmp 29),0,"law.go:38",#[⟨6,.data⟩,⟨7,.data⟩],none⟩) ?_
       try simp only [Act.put,List.setIfInBounds_toArray,List.set_cons_zero,List.set_cons_succ]
       refine tkI (i:=9) (oi:=⟨some 31,.fieldAddr 35 (.tmp 30) 1,0,"law.go:38",#[⟨8,.data⟩],none⟩) ?_
       try simp only [Act.put,List.setIfInBounds_toArray,List.set_cons_zero,List.set_cons_succ]
       refine tkI (i:=10) (oi:=⟨some 32,.load 3 (.tmp 31),3,"law.go:38",#[⟨9,.data⟩],none⟩) ?_
       try simp only [Act.put,List.setIfInBounds_toArray,List.set_cons_zero,List.set_cons_succ]
       refine tkI (i:=11) (oi:=⟨some 33,.move (.tmp 0),22,"law.go:38",#[],none⟩) ?_
       try simp only [Act.put,List.setIfInBounds_toArray,List.set_cons_zero,List.set_cons_succ]
       refine tkI (i:=12) (oi:=⟨some 34,.move (.tmp 6),3,"law.go:38",#[],none⟩) ?_
       try simp only [Act.put,List.setIfInBounds_toArray,List.set_cons_zero,List.set_cons_succ]
       refine tkI (i:=13) (oi:=⟨some 35,.indexAddr 22 (.tmp 33) (.tmp 34),0,"law.go:38",#[⟨11,.data⟩,⟨12,.data⟩],none⟩) ?_
       try simp only [Act.put,List.setIfInBounds_toArray,List.set_cons_zero,List.set_cons_succ]
       refine tkI (i:=14) (oi:=⟨some 36,.fieldAddr 35 (.tmp 35) 2,0,"law.go:38",#[⟨13,.data⟩],none⟩) ?_
       try simp only [Act.put,List.setIfInBounds_toArray,List.set_cons_zero,List.set_cons_succ]
       refine tkI (i:=15) (oi:=⟨some 37,.load 33 (.tmp 36),33,"law.go:38",#[⟨14,.data⟩],none⟩) ?_
       try simp only [Act.put,List.setIfInBounds_toArray,List.set_cons_zero,List.set_cons_succ]
       refine wpAnyH_ready (rs:=[16]) J3 J58 ?_
       refine AllReadyH.cons (o:=⟨some 38,.call { callee:=.value (.func 22),args:=#[.tmp 22,.tmp 27,.tmp 32,.tmp 37],argTypes:=#[25,3,3,33] },0,"law.go:38",#[⟨0,.data⟩,⟨5,.data⟩,⟨10,.data⟩,⟨15,.data⟩],none⟩) rfl (fun K hK=>?_) AllReadyH.nil
       go_simp
       refine (cP _ _ HB0.out).mono ?_;rintro e w1 ⟨rfl,g1,hB1,hg1,S1⟩;have HB1 : Hid (BdI W W.heap.size w0.heap.size g1 pd cd (j + 1) (bset (bM (l.take j)) x.r x.c x.v.v) (bL (l.take j)) w1):=(HB0.out.ext xr.drew).put hB1 hg1 S1;clear hB1 hg1 S1
       try go_wp2_with fail
       refine hK.out _ _ ?_ (fun hHeld1=>?_)
       · (try dsimp only);(first | exact mkS.out _ HB0.out.e.drew | exact mkS.out _ HB1.out.e | exact mkS.out _ HB1.out.e.drew | exact mkS.out _ HB2.out.e)
       clear hK K hHeld0
       try simp only [Act.put,List.setIfInBounds_toArray,List.set_cons_zero,List.set_cons_succ]
       refine wpAnyH_done J3 ?_ _
       go_wp2_with fail
       refine wp_region_held_drew (S:=(fun W2=>W2.cell? ⟨gb,off + j * 6,none⟩ = some (.int .i64 x.r) ∧ W2.cell? ⟨gb,off + j * 6 + 1,none⟩ = some (.int .i64 x.c) ∧ W2.cell? ⟨gb,off + j * 6 + 2,none⟩ = some (.int .i64 x.v.k) ∧ W2.cell? ⟨gb,off + j * 6 + 3,none⟩ = some (.int .i64 x.v.n) ∧ W2.cell? ⟨gb,off + j * 6 + 4,none⟩ = some (.string x.v.s) ∧ W2.cell? ⟨gb,off + j * 6 + 5,none⟩ = some (.int .i64 x.v.e))) J3 ?_ (fun hHeld0=>?_)
       · (first | exact mkS.out _ HB0.out.e.drew | exact mkS.out _ HB1.out.e | exact mkS.out _ HB1.out.e.drew | exact mkS.out _ HB2.out.e)
       refine tkI (i:=0) (oi:=⟨some 39,.move (.tmp 5),26,"law.go:39",#[],none⟩) ?_
       try simp only [Act.put,List.setIfInBounds_toArray,List.set_cons_zero,List.set_cons_succ]
       refine tkI (i:=1) (oi:=⟨some 40,.move (.tmp 0),22,"law.go:39",#[],none⟩) ?_
       try simp only [Act.put,List.setIfInBounds_toArray,List.set_cons_zero,List.set_cons_succ]
       refine tkI (i:=2) (oi:=⟨some 41,.move (.tmp 6),3,"law.go:39",#[],none⟩) ?_
       try simp only [Act.put,List.setIfInBounds_toArray,List.set_cons_zero,List.set_cons_succ]
       refine tkI (i:=3) (oi:=⟨some 42,.indexAddr 22 (.tmp 40) (.tmp 41),0,"law.go:39",#[⟨1,.data⟩,⟨2,.data⟩],none⟩) ?_
       try simp only [Act.put,List.setIfInBounds_toArray,List.set_cons_zero,List.set_cons_succ]
       refine tkI (i:=4) (oi:=⟨some 43,.fieldAddr 35 (.tmp 42) 0,0,"law.go:39",#[⟨3,.data⟩],none⟩) ?_
       try simp only [Act.put,List.setIfInBounds_toArray,List.set_cons_zero,List.set_cons_succ]
       refine tkI (i:=5) (oi:=⟨some 44,.load 3 (.tmp 43),3,"law.go:39",#[⟨4,.data⟩],none⟩) ?_
       try simp only [Act.put,List.setIfInBounds_toArray,List.set_cons_zero,List.set_cons_succ]
       refine tkI (i:=6) (oi:=⟨some 45,.move (.tmp 0),22,"law.go:39",#[],none⟩) ?_
       try simp only [Act.put,List.setIfInBounds_toArray,List.set_cons_zero,List.set_cons_succ]
       refine tkI (i:=7) (oi:=⟨some 46,.move (.tmp 6),3,"law.go:39",#[],none⟩) ?_
       try simp only [Act.put,List.setIfInBounds_toArray,List.set_cons_zero,List.set_cons_succ]
       refine tkI (i:=8) (oi:=⟨some 47,.indexAddr 22 (.tmp 45) (.tmp 46),0,"law.go:39",#[⟨6,.data⟩,⟨7,.data⟩],none⟩) ?_
       try simp only [Act.put,List.setIfInBounds_toArray,List.set_cons_zero,List.set_cons_succ]
       refine tkI (i:=9) (oi:=⟨some 48,.fieldAddr 35 (.tmp 47) 1,0,"law.go:39",#[⟨8,.data⟩],none⟩) ?_
       try simp only [Act.put,List.setIfInBounds_toArray,List.set_cons_zero,List.set_cons_succ]
       refine tkI (i:=10) (oi:=⟨some 49,.load 3 (.tmp 48),3,"law.go:39",#[⟨9,.data⟩],none⟩) ?_
       try simp only [Act.put,List.setIfInBounds_toArray,List.set_cons_zero,List.set_cons_succ]
       refine tkI (i:=11) (oi:=⟨some 50,.move (.tmp 0),22,"law.go:39",#[],none⟩) ?_
       try simp only [Act.put,List.setIfInBounds_toArray,List.set_cons_zero,List.set_cons_succ]
       refine tkI (i:=12) (oi:=⟨some 51,.move (.tmp 6),3,"law.go:39",#[],none⟩) ?_
       try simp only [Act.put,List.setIfInBounds_toArray,List.set_cons_zero,List.set_cons_succ]
       refine tkI (i:=13) (oi:=⟨some 52,.indexAddr 22 (.tmp 50) (.tmp 51),0,"law.go:39",#[⟨11,.data⟩,⟨12,.data⟩],none⟩) ?_
       try simp only [Act.put,List.setIfInBounds_toArray,List.set_cons_zero,List.set_cons_succ]
       refine tkI (i:=14) (oi:=⟨some 53,.fieldAddr 35 (.tmp 52) 2,0,"law.go:39",#[⟨13,.data⟩],none⟩) ?_
       try simp only [Act.put,List.setIfInBounds_toArray,List.set_cons_zero,List.set_cons_succ]
       refine tkI (i:=15) (oi:=⟨some 54,.load 33 (.tmp 53),33,"law.go:39",#[⟨14,.data⟩],none⟩) ?_
       try simp only [Act.put,List.setIfInBounds_toArray,List.set_cons_zero,List.set_cons_succ]
       refine wpAnyH_ready (rs:=[16]) J3 J58 ?_
       refine AllReadyH.cons (o:=⟨some 55,.call { callee:=.value (.func 27),args:=#[.tmp 39,.tmp 44,.tmp 49,.tmp 54],argTypes:=#[26,3,3,33] },0,"law.go:39",#[⟨0,.data⟩,⟨5,.data⟩,⟨10,.data⟩,⟨15,.data⟩],none⟩) rfl (fun K hK=>?_) AllReadyH.nil
       go_simp
       refine (cD _ _ HB1.out).mono ?_;rintro e w2 ⟨rfl,p2,c2,hD2,hp2,E2⟩;have HB2 : Hid (BdI W W.heap.size w0.heap.size g1 p2 c2 (j + 1) (bset (bM (l.take j)) x.r x.c x.v.v) (putL (bL (l.take j)) x.r x.c x.v.v) w2):=(HB1.out.ext xr.drew).dput hD2 hp2 E2;clear hD2 hp2 E2
       try go_wp2_with fail
       refine hK.out _ _ ?_ (fun hHeld1=>?_)
       · (try dsimp only);(first | exact mkS.out _ HB0.out.e.drew | exact mkS.out _ HB1.out.e | exact mkS.out _ HB1.out.e.drew | exact mkS.out _ HB2.out.e)
       clear hK K hHeld0
       try simp only [Act.put,List.setIfInBounds_toArray,List.set_cons_zero,List.set_cons_succ]
       refine wpAnyH_done J3 ?_ _
       go_wp2_with fail
       go_roundw
       case rel=>exact ⟨j + 1,_,_,_,by go_num,HJ.out.1,HJ.out.2,by rw [HT.out,bM_snoc,bL_snoc];exact HB2.out⟩
       case measure=>exact (by show 200 - ((j : Int) + 1).toNat < 200 - ((j : Int)).toNat;have:=HJ.out;omega)
     · have h200I : ¬ (j : Int) < 200:=J2
       have HE : Hid (l.take j = l.take 200 ∧ j ≤ 200):=⟨by rw [show j = 200 by omega],hj2⟩
       clear hlt h200 hj hj2
       exact K98
   · have hltI : ¬ (j : Int) < (n : Int):=J2
     have t1 : decide ((j : Int) < (n : Int)) = false:=by simpa using hltI
     have HE : Hid (l.take j = l.take 200 ∧ j ≤ 200):=by
       have h1:=HI.out.2.2.2
       exact ⟨by rw [List.take_of_length_le J2,List.take_of_length_le J2],hj2⟩
     clear hlt hj hj2
     exact K98
structure Ent (W : World) (b : Nat) (g : Option Nat) (n : Nat) (M : Bov) : Prop where
 b : Brd W b g n M
 n : Nm W
 t : Tab W
theorem Ent.ext {W W' : World} {b n : Nat} {g : Option Nat} {M : Bov} (h : Ent W b g n M) (e : Ext W W') : Ent W' b g n M:=⟨h.b.ext e,h.n.ext e,h.t.ext e⟩
def RkC (b : Nat) (g : Option Nat) (n : Nat) (M : Bov) (m : Nat) (x : T) : Prop:=∀ (W : World) (pp : Option Addr) (ln cl : Nat),Ent W b g n M → IsL W (fun _=>True) (.slice pp ln cl) x.l →
 Calls Tryz.prog 37 #[.pointer (some ⟨b,0,none⟩),.agg #[.int .i64 x.k,.int .i64 x.n,.string (bs x.s),.int .i64 x.e,.int .i64 x.r.1,.int .i64 x.r.2.1,.bool x.r.2.2.1,.bool x.r.2.2.2,.int .i64 x.q.1,.int .i64 x.q.2.1,.bool x.q.2.2.1,.bool x.q.2.2.2,.slice pp ln cl]] W fun e w'=>e = .returned (.agg #[.int .i64 (evT m M x).k,.int .i64 (evT m M x).n,.string (evT m M x).s,.int .i64 (evT m M x).e]) ∧ Ext W w'
theorem RdV.grown {W W' : World} {v : Value} {l : List Rw} {row : Option Nat} (h : RdV W.heap.size W v l) (g : W.grownBy W' row) (hn : ∀ k,v.ownBlock = some k → row ≠ some k) : RdV W'.heap.size W' v l:=by
 obtain ⟨p,c,h1,h2,h3⟩:=h
 refine ⟨p,c,h1,h2,?_⟩
 rcases h3 with h3 | ⟨b,off,rfl,h4,h5,h6⟩
 · exact .inl h3
 · have k:=fun o=>(cell_of_heap (g.block b h5 (fun e=>hn b (by rw [h1];rfl) e.symm)) o).1
   refine .inr ⟨b,off,rfl,llL h5 g.size,llL h5 g.size,fun i r hr=>?_⟩
   exact K133
theorem RdV.ext' {W W' : World} {v : Value} {l : List Rw} (h : RdV W.heap.size W v l) (e : Ext W W') : RdV W'.heap.size W' v l:=(h.low e).up e.size
def cBg (q : Bg × Value) : List Value:=[.bool q.1.g.area,.int .i64 q.1.rows,.int .i64 q.1.cols,q.2]
theorem cBg_len (q : Bg × Value) : (cBg q).length = 4:=rfl
theorem own_rdBg {W : World} {base : Nat} {v : Value} {l : List (Bg × Value)} (h : W.ownsRow base 113 4 v l.length (l.flatMap cBg)) (hv : ∀ q ∈ l,RdV W.heap.size W q.2 q.1.g.l) : RdB W.heap.size W v (l.map Prod.fst):=by
 have hl : (l.map Prod.fst).length = l.length:=J58
 rcases h.2 with ⟨rfl,h0⟩ | ⟨g,cap,cur,rfl,h2,h3,h4,h5⟩
 · exact K140
 · have hg : g < W.heap.size:=(Array.getElem?_eq_some_iff.1 h3).1
   refine ⟨_,cap,by rw [hl],by rw [hl];exact h4,.inr ⟨g,0,rfl,hg,hg,fun i r hr=>?_⟩⟩
   rw [List.getElem?_map] at hr
   obtain ⟨q,hq,rfl⟩:=Option.map_eq_some_iff.1 hr
   have k:=fun j (hj : j < 4) u (hu : (cBg q)[j]? = some u)=>h.cells (g:=g) rfl (i * 4 + j) u (by rw [fm_at cBg 4 cBg_len l i q j hq hj];exact hu)
   simp only [Addr.add_lit] at k
   exact ⟨q.2,k 0 J9 _ rfl,k 1 J9 _ rfl,k 2 J9 _ rfl,k 3 J9 _ rfl,hv q (List.mem_of_getElem? hq)⟩
structure AgS (W : World) (B0 : Nat) (l : List (Bg × Value)) (ov : Value) (wr : World) : Prop where
 e : Ext W wr
 o : wr.ownsRow B0 113 4 ov l.length (l.flatMap cBg)
 v : ∀ q ∈ l,RdV wr.heap.size wr q.2 q.1.g.l ∧ (∀ k,q.2.ownBlock = some k → ov.ownBlock ≠ some k ∧ k < wr.heap.size)
 b3 : W.heap.size ≤ B0
 b4 : B0 ≤ wr.heap.size
theorem AgS.ext {W wr w' : World} {B0 : Nat} {l : List (Bg × Value)} {ov : Value} (h : AgS W B0 l ov wr) (e : Ext wr w') : AgS W B0 l ov w' :=
 ⟨h.e.trans e,ownsRow_ext h.o e,fun q hq=>⟨(h.v q hq).1.ext' e,fun k hk=>⟨((h.v q hq).2 k hk).1,llL ((h.v q hq).2 k hk).2 e.size⟩⟩,h.b3,Nat.le_trans h.b4 e.size⟩
theorem ags_app {ops : Array Oper} {rest : List Oper} {o : Oper} {a : Act} {Q : Exit → Act → World → Prop} (W wr WA : World) (B0 : Nat) (s x : Operand) (ov : Value) (l : List (Bg × Value)) (r : Bg) (lv : Value) (g : Nat) (hgd : o.guard = none)
   (ho : o.op = .call { callee:=.builtin .append,args:=#[s,x],argTypes:=#[107,107] }) (hs : a.eval s = ov) (hx : a.eval x = .slice (some ⟨g,0,none⟩) 1 1)
   (hc : Blk WA g (.bool r.g.area) (.int .i64 r.rows) (.int .i64 r.cols) lv) (hv : RdV WA.heap.size WA lv r.g.l) (hlo : ∀ k,lv.ownBlock = some k → wr.heap.size ≤ k ∧ k < WA.heap.size) (h : AgS W B0 l ov wr) (e : Ext wr WA) (hl : l.length ≤ 100000) (N : Nat) (hN : l.length = N)
   (K : ∀ pv c W',AgS W B0 (l ++ [(r,lv)]) (.slice pv (N + 1) c) W' → wpList Tryz.prog ops Q rest (a.put o.dst (.slice pv (N + 1) c)) W') :
   wpList Tryz.prog ops Q (o :: rest) a WA:=by
 subst hN
 have h':=h.ext e
 refine own_app2 eltA WA W s x ov _ l.length 1 (l.flatMap cBg) (cBg (r,lv)) B0 hgd ho hs hx h'.o ⟨rfl,_,_,rfl,.inr ⟨_,rfl,?_⟩⟩ ?_ J28 J2 h'.e h'.b3 h'.b4 ?_
 · intro j y hj
   obtain ⟨_,⟨k0,k1,k2,k3⟩,_⟩:=hc
   match j,hj with
   | 0,hj=>simp [cBg] at hj;subst hj;simpa [Addr.add] using k0
   | 1,hj=>simp [cBg] at hj;subst hj;simpa [Addr.add] using k1
   | 2,hj=>simp [cBg] at hj;subst hj;simpa [Addr.add] using k2
   | 3,hj=>simp [cBg] at hj;subst hj;simpa [Addr.add] using k3
   | j + 4,hj=>simp [cBg] at hj
 · intro y hy
   obtain ⟨p',c',hf,_⟩:=hv
   simp [cBg] at hy
   rcases hy with rfl | rfl | rfl | rfl
   · rfl
   · rfl
   · rfl
   · rw [hf];rfl
 · intro v' W' k1 k2 k3 k4
   obtain ⟨pv,c,rfl,_⟩:=own_form k1
   have hov : ∀ k,ov.ownBlock = some k → k < wr.heap.size:=fun k hk=>(h.o.lt k hk).2
   refine K pv c W' ⟨k2,?_,?_,h.b3,Nat.le_trans h'.b4 k3.size⟩
   · rw [List.flatMap_append,List.length_append]
     simpa using k1
   · intro q hq
     rcases List.mem_append.1 hq with hq | hq
     · obtain ⟨g1,g2⟩:=h'.v q hq
       refine ⟨g1.grown k3 (fun k hk=>(g2 k hk).1),fun k hk=>⟨?_,llL (g2 k hk).2 k3.size⟩⟩
       rcases k4 with k4 | k4
       · rw [k4];exact (g2 k hk).1
       · rw [k4];intro e9;cases e9;have:=(g2 _ hk).2;omega
     · simp at hq
       subst hq
       refine ⟨hv.grown k3 (fun k hk e9=>by have:=hov k e9;have:=(hlo k hk).1;omega),fun k hk=>⟨?_,llL (hlo k hk).2 k3.size⟩⟩
       rcases k4 with k4 | k4
       · rw [k4];intro e9;have:=hov k e9;have:=(hlo k hk).1;omega
       · rw [k4];intro e9;cases e9;have:=(hlo _ hk).2;omega
theorem RdV.one {W : World} {g : Nat} {r : Rw} (B : Blk W g (.int .i64 r.k) (.int .i64 r.n) (.string r.s) (.int .i64 r.e)) : RdV W.heap.size W (.slice (some ⟨g,0,none⟩) 1 1) [r]:=by
 refine ⟨_,1,rfl,Nat.le_refl _,.inr ⟨g,0,rfl,B.1,B.1,fun i x hx=>?_⟩⟩
 cases i with
 | zero=>simp at hx;subst hx;simpa using B.2.1
 | succ i=>simp at hx
theorem earguments_any (b : Nat) (g : Option Nat) (n : Nat) (M : Bov) (m : Nat) (l : List T) (hl : l.length ≤ 20) (hx : ∀ x ∈ l,x.k ≠ 5 → RkC b g n M m x) (hr : ∀ x ∈ l,x.k = 5 → inB x.r.1 x.r.2.1 = true ∧ inB x.q.1 x.q.2.1 = true)
   (W : World) (pp : Option Addr) (ln cl : Nat) (hE : Ent W b g n M) (hI : IsL W (fun _=>True) (.slice pp ln cl) l) :
   Calls Tryz.prog 71 #[.pointer (some ⟨b,0,none⟩),.slice pp ln cl] W fun e w'=>∃ lv,e = .returned lv ∧ RdB w'.heap.size w' lv (l.map (argX m M)) ∧ Ext W w':=by
 have hln : ln = l.length:=by
   obtain ⟨p,c,h1,_⟩:=hI.form
   cases h1;rfl
 have HX : Hid (∀ x ∈ l,x.k ≠ 5 → RkC b g n M m x):=hx
 have HR : Hid (∀ x ∈ l,x.k = 5 → inB x.r.1 x.r.2.1 = true ∧ inB x.q.1 x.q.2.1 = true):=hr
 have HI : Hid (IsL W (fun _=>True) (.slice pp ln cl) l):=hI
 have HE : Hid (Ent W b g n M):=hE
 have HLN : Hid (ln = l.length):=hln
 have hl2 : ln ≤ 20:=J2
 clear hx hr hI hE hln hl
 go_enter func71,ntmps71
 go_wp2_with (at_make;refine own_make eltA _ _ _ _ ln W.heap.size rfl rfl J25 J25 J25 J2 J28 nrf ?_;intro w3 O3 E3;have HS : Hid (AgS W W.heap.size [] (.slice (some ⟨W.heap.size,0,none⟩) 0 ln) w3):=⟨E3,O3,fun q hq=>(by cases hq),Nat.le_refl _,E3.size⟩;clear O3 E3)
 go_loopw [13,5] (fun iv ov wr=>∃ (j : Nat) (pv : Option Addr) (nv cv : Nat) (L : List (Bg × Value)),iv = .int .i64 (j : Int) ∧ ov = .slice pv nv cv ∧ j ≤ ln ∧ L.map Prod.fst = (l.take j).map (argX m M) ∧ AgS W W.heap.size L (.slice pv nv cv) wr) (fun iv _ _=>ln - (intOf iv).toNat)
 case atStart=>exact ⟨0,_,_,_,[],rfl,rfl,Nat.zero_le _,rfl,HS.out⟩
 case round =>
   clear HS
   obtain ⟨j,pv,nv,cv,L,rfl,rfl,hj,hL,hS⟩:=hrel
   have HS : Hid (AgS W W.heap.size L (.slice pv nv cv) wr ∧ L.map Prod.fst = (l.take j).map (argX m M)):=⟨hS,hL⟩
   clear hS hL
   by_cases hlt : j < ln
   · have hltI : (j : Int) < (ln : Int):=J2
     have hI:=HI.out.ext HS.out.1.e
     obtain ⟨gb,off,x,lv,hpp,hx1,hA1,hgb,hA2,hLx,hce⟩:=hI.at (i:=j) (by rw [← HLN.out];exact hlt)
     clear hA1 hA2
     subst hpp
     obtain ⟨pp',cl',hlv,hcl⟩:=hLx.form
     obtain ⟨ln',hln'⟩ : ∃ ln',x.l.length = ln':=⟨_,rfl⟩
     rw [hln'] at hlv
     subst hlv
     have HX1 : Hid (l[j]? = some x ∧ IsL wr (fun _=>True) (.slice pp' ln' cl') x.l):=⟨hx1,hLx⟩
     have e0 : wr.cell? ⟨gb,off + j * 13,none⟩ = some (.int .i64 x.k):=hce 0 _ rfl
     have e1 : wr.cell? ⟨gb,off + j * 13 + 1,none⟩ = some (.int .i64 x.n):=hce 1 _ rfl
     have e2 : wr.cell? ⟨gb,off + j * 13 + 2,none⟩ = some (.string (bs x.s)):=hce 2 _ rfl
     have e3 : wr.cell? ⟨gb,off + j * 13 + 3,none⟩ = some (.int .i64 x.e):=hce 3 _ rfl
     have e4 : wr.cell? ⟨gb,off + j * 13 + 4,none⟩ = some (.int .i64 x.r.1):=hce 4 _ rfl
     have e5 : wr.cell? ⟨gb,off + j * 13 + 5,none⟩ = some (.int .i64 x.r.2.1):=hce 5 _ rfl
     have e6 : wr.cell? ⟨gb,off + j * 13 + 6,none⟩ = some (.bool x.r.2.2.1):=hce 6 _ rfl
     have e7 : wr.cell? ⟨gb,off + j * 13 + 7,none⟩ = some (.bool x.r.2.2.2):=hce 7 _ rfl
     have e8 : wr.cell? ⟨gb,off + j * 13 + 8,none⟩ = some (.int .i64 x.q.1):=hce 8 _ rfl
     have e9 : wr.cell? ⟨gb,off + j * 13 + 9,none⟩ = some (.int .i64 x.q.2.1):=hce 9 _ rfl
     have e10 : wr.cell? ⟨gb,off + j * 13 + 10,none⟩ = some (.bool x.q.2.2.1):=hce 10 _ rfl
     have e11 : wr.cell? ⟨gb,off + j * 13 + 11,none⟩ = some (.bool x.q.2.2.2):=hce 11 _ rfl
     have e12 : wr.cell? ⟨gb,off + j * 13 + 12,none⟩ = some (.slice pp' ln' cl'):=hce 12 _ rfl
     have WJ : Hid (wrap64 ((j : Int) + 1) = ((j + 1 : Nat) : Int)):=wrap_1 j J2
     have HJ : Hid (j < ln):=hlt
     obtain ⟨N6,hN6⟩ : ∃ N6,L.length = N6:=⟨_,rfl⟩
     have HN6 : Hid (L.length = N6 ∧ L.length ≤ 100000):=by
       refine ⟨hN6,?_⟩
       have h1 : (L.map Prod.fst).length = ((l.take j).map (argX m M)).length:=by rw [HS.out.2]
       simp at h1
       omega
     have HT : Hid ((l.take (j + 1)).map (argX m M) = (l.take j).map (argX m M) ++ [argX m M x]):=by
       show _ = _
       rw [List.take_add_one,HX1.out.1]
       simp
     clear hI hx1 hLx hce hcl hln' hN6 hlt hj
     by_cases hk : x.k = 5
     · have k5 : (x.k == 5) = true:=J82
       have cA:=fun W' (e : Ext W W')=>earea_any W' b n g M (HE.out.b.ext e) x.r.1 x.r.2.1 x.q.1 x.q.2.1 x.r.2.2.1 x.r.2.2.2 x.q.2.2.1 x.q.2.2.2 (HR.out x (List.mem_of_getElem? HX1.out.1) hk).1 (HR.out x (List.mem_of_getElem? HX1.out.1) hk).2
       have HY : Hid (argX m M x = argR M (x.r.1,x.r.2.1,x.r.2.2.1,x.r.2.2.2) (x.q.1,x.q.2.1,x.q.2.2.1,x.q.2.2.2)):=by
         show _ = _
         unfold argX
         rw [if_pos hk]
       have HA : Hid ((argR M (x.r.1,x.r.2.1,x.r.2.2.1,x.r.2.2.2) (x.q.1,x.q.2.1,x.q.2.2.1,x.q.2.2.2)).g.area = true):=rfl
       generalize argR M (x.r.1,x.r.2.1,x.r.2.2.1,x.r.2.2.2) (x.q.1,x.q.2.1,x.q.2.2.1,x.q.2.2.2) = bg at *
       obtain ⟨yr,yc,hy1,hy2⟩ : ∃ yr yc,bg.rows = yr ∧ bg.cols = yc:=⟨_,_,rfl,rfl⟩
       have HYY : Hid (bg.rows = yr ∧ bg.cols = yc):=⟨hy1,hy2⟩
       simp only [hy1,hy2] at cA
       clear hk hy1 hy2
       go_wp2_with fail
       refine (cA _ (HS.out.1.e.alloc _)).mono ?_
       rintro e w5 ⟨lv,rfl,hv5,ho5,E5⟩
       have X5 : Hid (Ext wr w5 ∧ RdV w5.heap.size w5 lv bg.g.l ∧ (∀ k,lv.ownBlock = some k → wr.heap.size ≤ k ∧ k < w5.heap.size)):=⟨(xr.alloc _).trans E5,hv5,fun k hk=>by have:=ho5 k hk;simp at this;omega⟩
       clear E5 hv5 ho5 cA e0 e1 e2 e3 e4 e5 e6 e7 e8 e9 e10 e11 e12 k5
       go_wp2_with (at_builtin;refine ags_app W wr _ W.heap.size _ _ _ L bg lv w5.heap.size rfl rfl J25 J25 (by rw [HA.out,HYY.out.1,HYY.out.2];exact blk_top rfl xr) (X5.out.2.1.ext' (xr.alloc _)) (fun k hk=>⟨(X5.out.2.2 k hk).1,by have:=(X5.out.2.2 k hk).2;simp;omega⟩) HS.out.1 (X5.out.1.alloc _) HN6.out.2 N6 HN6.out.1 ?_;intro pv6 c6 w6 h6;have H6 : Hid (AgS W W.heap.size (L ++ [(bg,lv)]) (.slice pv6 (N6 + 1) c6) w6):=h6;clear h6)
       exact K80
     · have k5 : (x.k == 5) = false:=J82
       have cA:=fun W' (e : Ext wr W')=>HX.out x (List.mem_of_getElem? HX1.out.1) hk W' pp' ln' cl' (HE.out.ext (HS.out.1.e.trans e)) (HX1.out.2.ext e)
       have HY : Hid (argX m M x = argV (evT m M x)):=by
         show _ = _
         unfold argX
         rw [if_neg hk]
       generalize evT m M x = vv at *
       obtain ⟨vk,vn,vs,ve,hvv⟩ : ∃ vk vn vs ve,vv.k = vk ∧ vv.n = vn ∧ vv.s = vs ∧ vv.e = ve:=⟨_,_,_,_,rfl,rfl,rfl,rfl⟩
       have HV : Hid (vv.k = vk ∧ vv.n = vn ∧ vv.s = vs ∧ vv.e = ve):=hvv
       obtain ⟨q1,q2,q3,q4⟩:=hvv
       rw [q1,q2,q3,q4] at cA
       clear q1 q2 q3 q4 hk
       go_wp2_with fail
       refine (cA _ (xr.alloc _)).mono ?_
       rintro e w5 ⟨rfl,E5⟩
       have X5 : Hid (Ext wr w5):=(xr.alloc _).trans E5
       clear E5 cA e0 e1 e2 e3 e4 e5 e6 e7 e8 e9 e10 e11 e12 k5
       go_wp2_with (at_builtin;refine ags_app W wr _ W.heap.size _ _ _ L (argV vv) (.slice (some ⟨w5.heap.size,0,none⟩) 1 1) (w5.heap.size + 1) rfl rfl J25 J25 (blk_top J58 xr) (by have B:=(blk_top (b:=w5.heap.size) rfl (Ext.refl (w5.alloc (.cells #[.int .i64 vk,.int .i64 vn,.string vs,.int .i64 ve] 33)))).al (.cells #[.bool false,.int .i64 0,.int .i64 0,.slice (some ⟨w5.heap.size,0,none⟩) 1 1] 113);obtain ⟨q1,q2,q3,q4⟩:=HV.out;have B2:=RdV.one (r:=⟨vk,vn,vs,ve⟩) B;show RdV _ _ _ [vv.rw];unfold V.rw;rw [q1,q2,q3,q4];exact B2) (fun k hk=>by cases hk;exact ⟨X5.out.size,by show w5.heap.size < ((w5.alloc _).alloc _).heap.size;simp;omega⟩) HS.out.1 ((X5.out.alloc _).alloc _) HN6.out.2 N6 HN6.out.1 ?_;intro pv6 c6 w6 h6;have H6 : Hid (AgS W W.heap.size (L ++ [(argV vv,.slice (some ⟨w5.heap.size,0,none⟩) 1 1)]) (.slice pv6 (N6 + 1) c6) w6):=h6;clear h6)
       exact K80
   · have hltI : ¬ (j : Int) < (ln : Int):=J2
     have HJ : Hid (j = l.length):=by show _ = _;have:=HLN.out;omega
     clear hlt hj
     go_wp2_with fail
     go_ret
     refine ⟨_,rfl,?_,HS.out.1.e⟩
     have h1:=own_rdBg HS.out.1.o (fun q hq=>(HS.out.1.v q hq).1)
     rw [HS.out.2,HJ.out,List.take_length] at h1
     exact h1
def TE (v : V) : Prop:=(∃ s,v = .text s ∧ s.size ≤ 300) ∨ (∃ e,v = .err e ∧ 1 ≤ e ∧ e ≤ 5)
theorem jo_ea {a : V} (h : TE a) (k : a.k = 4) (b : V) : join2 a b = a:=by
 exact K158
theorem jo_eb {a b : V} (h : TE a) (g : TE b) (k : a.k ≠ 4) (l : b.k = 4) : join2 a b = b:=by
 exact K110
theorem jo_n {a b : V} (h : TE a) (g : TE b) (k : a.k ≠ 4) (l : b.k ≠ 4) : join2 a b = mkText (a.s ++ b.s) ∧ a.s.size ≤ 300 ∧ b.s.size ≤ 300:=by
 rcases h with ⟨n,rfl,i⟩ | ⟨e,rfl,_⟩
 · rcases g with ⟨m,rfl,j⟩ | ⟨e,rfl,_⟩
   · exact ⟨rfl,i,j⟩
   · simp [V.k] at l
 · simp [V.k] at k
theorem vjoin_any (ka na : Int) (sa : ByteArray) (ea kb nb : Int) (sb : ByteArray) (eb : Int) (w : World) (hna : I64 na) (hnb : I64 nb) (hN : Nm w) (hT : Tab w) :
   Calls Tryz.prog 98 #[.agg #[.int .i64 ka,.int .i64 na,.string sa,.int .i64 ea],.agg #[.int .i64 kb,.int .i64 nb,.string sb,.int .i64 eb]] w fun r w'=>r = .returned (join (nm ka na sa ea) (nm kb nb sb eb)).dat ∧ Ext w w':=by
 have c1:=fun W h t=>vtotext_any ka na sa ea W hna t h
 have c2:=fun W h t=>vtotext_any kb nb sb eb W hnb t h
 have n1 : TE _:=toText_cases (nm ka na sa ea) (nm_ok _ _ _ _ hna)
 have n2 : TE _:=toText_cases (nm kb nb sb eb) (nm_ok _ _ _ _ hnb)
 unfold join
 generalize (nm ka na sa ea).toText = a at c1 n1 ⊢
 generalize (nm kb nb sb eb).toText = b at c2 n2 ⊢
 rw [dat_eq] at c1 c2
 have H1 : Hid (a.k = 4 → (join2 a b).dat = .agg #[.int .i64 4,.int .i64 a.n,.string a.s,.int .i64 a.e]):=fun h=>by rw [jo_ea n1 h b,dat_eq,h]
 have H2 : Hid (a.k ≠ 4 → b.k = 4 → (join2 a b).dat = .agg #[.int .i64 4,.int .i64 b.n,.string b.s,.int .i64 b.e]):=fun h g=>by rw [jo_eb n1 n2 h g,dat_eq,g]
 have H3 : Hid (a.k ≠ 4 → b.k ≠ 4 → join2 a b = mkText (a.s ++ b.s) ∧ a.s.size ≤ 300 ∧ b.s.size ≤ 300):=fun h g=>jo_n n1 n2 h g
 clear n1 n2 hna hnb
 generalize a.k = pk at *
 generalize a.n = pn at *
 generalize a.s = ps at *
 generalize a.e = pe at *
 generalize b.k = qk at *
 generalize b.n = qn at *
 generalize b.s = qs at *
 generalize b.e = qe at *
 generalize join2 a b = J at *
 clear a b
 go_enter func98,ntmps98
 go_upto_region 1 with fail
 obtain ⟨W0,hW0⟩ : ∃ W0,W0 = ((w.alloc (.cells #[.int .i64 ka,.int .i64 na,.string sa,.int .i64 ea] 33)).alloc (.cells #[.int .i64 kb,.int .i64 nb,.string sb,.int .i64 eb] 33)).alloc (.cells #[.int .i64 0,.int .i64 0,.string ⟨#[]⟩,.int .i64 0] 33):=⟨_,rfl⟩
 rw [← hW0]
 have XW : Ext w W0:=by rw [hW0];exact ((xr.alloc _).alloc _).alloc _
 have hK : Hid (∀ W,Ext W0 W → Blk W (w.heap.size) (.int .i64 ka) (.int .i64 na) (.string sa) (.int .i64 ea) ∧ Blk W (w.heap.size + 1) (.int .i64 kb) (.int .i64 nb) (.string sb) (.int .i64 eb) ∧ Blk W (w.heap.size + 1 + 1) (.int .i64 0) (.int .i64 0) (.string ⟨#[]⟩) (.int .i64 0)):=by
   exact K111
 clear hW0
 go_cut [] (fun wx=>Ext w wx ∧ Blk wx (w.heap.size) (.int .i64 pk) (.int .i64 pn) (.string ps) (.int .i64 pe) ∧ Blk wx (w.heap.size + 1) (.int .i64 qk) (.int .i64 qn) (.string qs) (.int .i64 qe) ∧ Blk wx (w.heap.size + 1 + 1) (.int .i64 0) (.int .i64 0) (.string ⟨#[]⟩) (.int .i64 0))
 case first =>
   obtain ⟨⟨az,⟨a0,a1,a2,a3⟩,af0,af1,af2,af3⟩,⟨bz,⟨b0,b1,b2,b3⟩,bf0,bf1,bf2,bf3⟩,_⟩:=hK.out W0 xr
   have d1:=fun W (h : Ext W0 W)=>c1 W (hN.ext (XW.trans h)) (hT.ext (XW.trans h))
   have d2:=fun W (h : Ext W0 W)=>c2 W (hN.ext (XW.trans h)) (hT.ext (XW.trans h))
   clear c1 c2 H1 H2 H3
   go_region_with (first | (go_at_call 131;have q1:=E5;refine Calls.mono (d2 _ ?hh) ?_;(case hh=>(with_reducible repeat (first | assumption | exact xr | apply Ext.drew | apply Ext.drewN)));rintro e w6 ⟨rfl,E6⟩;have X6 : Ext W0 w6:=Ext.trans J22 E6;obtain ⟨⟨az,⟨a0,a1,a2,a3⟩,af0,af1,af2,af3⟩,⟨bz,⟨b0,b1,b2,b3⟩,bf0,bf1,bf2,bf3⟩,_⟩:=hK.out  w6 X6) | (go_at_call 131;refine Calls.mono (d1 _ ?hh) ?_;(case hh=>(with_reducible repeat (first | assumption | exact xr | apply Ext.drew | apply Ext.drewN)));rintro e w5 ⟨rfl,E5⟩;have X5 : Ext W0 w5:=Ext.trans J22 E5;obtain ⟨⟨az,⟨a0,a1,a2,a3⟩,af0,af1,af2,af3⟩,⟨bz,⟨b0,b1,b2,b3⟩,bf0,bf1,bf2,bf3⟩,_⟩:=hK.out  w5 X5))
   all_goals
     obtain ⟨A6,B6,R6⟩:=hK.out w6 X6
     have X7 : Ext w w6:=XW.trans X6
     exact K20
 case rest =>
   obtain ⟨X,A,B,R⟩:=hcut
   have A':=A
   have B':=B
   have R':=R
   obtain ⟨az,⟨a0,a1,a2,a3⟩,af0,af1,af2,af3⟩:=A'
   obtain ⟨bz,⟨b0,b1,b2,b3⟩,bf0,bf1,bf2,bf3⟩:=B'
   obtain ⟨rz,⟨r0,r1,r2,r3⟩,rf0,rf1,rf2,rf3⟩:=R'
   clear c1 c2 hK XW
   by_cases ha : pk = 4
   · have H : Hid (J.dat = _):=H1.out ha
     subst ha
     have c:=fun W h=>firsterr_a 4 pn ps pe qk qn qs qe wc.heap.size W h J9
     clear H1 H2 H3 hN hT
     exact K173
   · by_cases hb : qk = 4
     · have H : Hid (J.dat = _):=H2.out ha hb
       subst hb
       have c:=fun W h=>firsterr_b pk pn ps pe 4 qn qs qe wc.heap.size W h J47 J9
       clear H1 H2 H3 ha hN hT
       exact K173
     · obtain ⟨rfl,i1,i2⟩:=H3.out ha hb
       have c:=fun W h=>firsterr_n pk pn ps pe qk qn qs qe wc.heap.size W h J47 (by simpa using hb)
       have ct:=fun W h=>vtext_any (ps ++ qs) W h
       obtain ⟨u0,u1,u2,u3,hu⟩:=dat4 (mkText (ps ++ qs))
       rw [hu] at ct
       have H : Hid ((mkText (ps ++ qs)).dat = _):=hu
       clear hu
       clear H1 H2 H3 ha hb hT
       go_wp2_with fail
       refine (c _ two_alloc).mono ?_
       rintro r w2 ⟨rfl,E2⟩
       have A2:=(A.ext (xr.alloc _)).ext E2
       have B2:=(B.ext (xr.alloc _)).ext E2
       have X2 : Ext w w2:=Ext.trans J0 E2
       have R2:=(R.ext (xr.alloc _)).ext E2
       clear A B R E2 X c az a0 a1 a2 a3 af0 af1 af2 af3 bz b0 b1 b2 b3 bf0 bf1 bf2 bf3 rz r0 r1 r2 r3 rf0 rf1 rf2 rf3
       obtain ⟨az,⟨a0,a1,a2,a3⟩,af0,af1,af2,af3⟩:=A2
       obtain ⟨bz,⟨b0,b1,b2,b3⟩,bf0,bf1,bf2,bf3⟩:=B2
       go_wp2_with fail
       refine (ct _ ?hn).mono ?_
       case hn=>exact hN.ext J4
       rintro r w3 ⟨rfl,E3⟩
       have X3 : Ext w w3:=Ext.trans J4 E3
       have R3:=(R2.ext (xr.alloc _)).ext E3
       have R4:=R3
       obtain ⟨rz,⟨r0,r1,r2,r3⟩,rf0,rf1,rf2,rf3⟩:=R4
       clear ct X2 E3 az a0 a1 a2 a3 af0 af1 af2 af3 bz b0 b1 b2 b3 bf0 bf1 bf2 bf3
       exact K25
open Go
section
variable {P : Program} {ops : Array Oper} {Q : Exit → Act → World → Prop} {md : Region.Mode} {B : Nat → Bool} {S : World → Prop}
def wpBar (P : Program) (md : Region.Mode) (ops : Array Oper) (Q : Exit → Act → World → Prop) (B : Nat → Bool) (S : World → Prop) : Nat → Array Bool → Act → World → Prop
 | 0,l,a,w=>Region.ready md ops l = [] ∧ Q .normal a w
 | n + 1,l,a,w=>(Region.ready md ops l = [] → Q .normal a w) ∧ ∀ i ∈ Region.ready md ops l,wpOp P ops Q i (fun x v=>(B i = false → S v) ∧ wpBar P md ops Q B S n (l.setIfInBounds i true) x v) a w
theorem any_of_bar : ∀ (n : Nat) (l : Array Bool) (a : Act) (w : World),wpBar P md ops Q B S n l a w → wpAny P md ops Q n l a w
 | 0,_,_,_,h=>h
 | n + 1,_,_,_,h=>⟨h.1,fun i hi=>wpOp_mono (fun x v k=>any_of_bar n _ x v k.2) (h.2 i hi)⟩
def Waits (md : Region.Mode) (ops : Array Oper) (B : Nat → Bool) (i : Nat) (l : Array Bool) : Prop :=
 ∀ j o,ops[j]? = some o → B j = true → ∃ e ∈ o.after,Region.binds md e = true ∧ (e.on = i ∨ (l.getD e.on true = false ∧ ∃ k,ops[e.on]? = some k ∧ ∃ e' ∈ k.after,Region.binds md e' = true ∧ e'.on = i))
def waitsB (md : Region.Mode) (ops : Array Oper) (B : Nat → Bool) (i : Nat) (l : Array Bool) : Bool :=
 (List.range ops.size).all fun j=>!B j || (match ops[j]? with
   | none=>true
   | some o=>o.after.any fun e=>Region.binds md e && (e.on == i || (!l.getD e.on true && (match ops[e.on]? with
     | none=>false
     | some k=>k.after.any fun e'=>Region.binds md e' && e'.on == i))))
theorem waits_of {i : Nat} {l : Array Bool} (h : waitsB md ops B i l = true) : Waits md ops B i l:=by
 intro j o ho hb
 have hj : j < ops.size:=by
   rcases Nat.lt_or_ge j ops.size with h' | h'
   · exact h'
   · rw [Array.getElem?_eq_none h'] at ho;cases ho
 have h1:=List.all_eq_true.1 h j (List.mem_range.2 hj)
 rw [hb,ho] at h1
 simp only [Bool.not_true,Bool.false_or] at h1
 obtain ⟨e,he,h2⟩:=Array.any_eq_true'.1 h1
 simp only [Bool.and_eq_true,Bool.or_eq_true,beq_iff_eq,Bool.not_eq_true'] at h2
 refine ⟨e,he,h2.1,?_⟩
 rcases h2.2 with h3 | ⟨h3,h4⟩
 · exact .inl h3
 · cases hk : ops[e.on]? with
   | none=>rw [hk] at h4;cases h4
   | some k =>
     rw [hk] at h4
     obtain ⟨e',he',h5⟩:=Array.any_eq_true'.1 h4
     simp only [Bool.and_eq_true,beq_iff_eq] at h5
     exact .inr ⟨h3,k,rfl,e',he',h5.1,h5.2⟩
theorem lst {l : Array Bool} {k : Nat} (h : l.getD k false = true) : ¬ l.getD k true = false:=by
 rcases Nat.lt_or_ge k l.size with h' | h'
 · simp [h'] at h ⊢;exact h
 · simp [Array.getElem?_eq_none h'] at h
theorem bar_no {i j : Nat} {l : Array Bool} (hW : Waits md ops B i l) (hi : i ∈ Region.ready md ops l) (hj : j ∈ Region.ready md ops l) : B j = false:=by
 obtain ⟨_,o,ho,hall⟩:=mem_ready.1 hj
 have hu:=(mem_ready.1 hi).1
 cases hb : B j
 · rfl
 · obtain ⟨e,he,hbe,h | ⟨h,_⟩⟩:=hW j o ho hb
   · exact absurd hu (lst (by rw [← h];exact hall e he hbe))
   · exact absurd h (lst (hall e he hbe))
theorem Waits.step {i j : Nat} {l : Array Bool} (hW : Waits md ops B i l) (hi : i ∈ Region.ready md ops l) (hj : j ∈ Region.ready md ops l) : Waits md ops B i (l.setIfInBounds j true):=by
 intro k o ho hb
 obtain ⟨_,oj,hoj,hall⟩:=mem_ready.1 hj
 have hu:=(mem_ready.1 hi).1
 obtain ⟨e,he,hbe,h | ⟨h,m,hm,e',he',hb',h'⟩⟩:=hW k o ho hb
 · exact ⟨e,he,hbe,.inl h⟩
 · refine ⟨e,he,hbe,.inr ⟨?_,m,hm,e',he',hb',h'⟩⟩
   have hne : j ≠ e.on:=by
     intro hje
     rw [← hje,hoj] at hm
     obtain rfl:=Option.some.inj hm
     exact absurd hu (lst (by rw [← h'];exact hall e' he' hb'))
   rw [getD_set_ne true hne];exact h
theorem bar_first {i : Nat} {oi : Oper} {v : Value} (hi : ops[i]? = some oi) (hsel : ∀ (j : Nat) (o : Oper) cs b,ops[j]? = some o → o.op ≠ .select cs b)
   (hQ : ∀ c a w,Q (.panic c) (a.put oi.dst v) w → Q (.panic c) a w) : ∀ (n : Nat) (l : Array Bool) (a : Act) (w : World),
     (∀ j oj,ops[j]? = some oj → j ≠ i → l.getD j true = false → (∀ e ∈ oj.after,Region.binds md e = true → e.on ≠ i) → oi.apart ops oj = true) →
     Waits md ops B i l → i ∈ Region.ready md ops l → YieldsIf P ops S oi v a → S w →
     wpBar P md ops Q B S n (l.setIfInBounds i true) (a.put oi.dst v) w → wpBar P md ops Q B S (n + 1) l a w:=by
 intro n
 induction n with
 | zero =>
   intro l a w _ _ hr hy hS H
   refine ⟨fun h=>(by rw [h] at hr;cases hr),fun j hj=>?_⟩
   by_cases hji : j = i
   · subst hji;exact hy.wpOp hi hS ⟨fun _=>hS,H⟩
   · have:=ready_mono hj hji
     rw [H.1] at this
     cases this
 | succ n ih =>
   intro l a w hfree hW hr hy hS H
   refine ⟨fun h=>(by rw [h] at hr;cases hr),fun j hj=>?_⟩
   by_cases hji : j = i
   · subst hji;exact hy.wpOp hi hS ⟨fun _=>hS,H⟩
   · have hB:=bar_no hW hr hj
     obtain ⟨hun,oj,hoj,hall⟩:=mem_ready.1 hj
     have hno : ∀ e ∈ oj.after,Region.binds md e = true → e.on ≠ i:=fun e he hb heq=>absurd (mem_ready.1 hr).1 (lst (by rw [← heq];exact hall e he hb))
     have step:=wpOp_putIf hoj (hfree j oj hoj hji hun hno) (fun cs b=>hsel i oi cs b hi) (fun cs b=>hsel j oj cs b hoj) hQ hy (H.2 j (ready_mono hj hji))
     refine wpOp_mono (fun x u k=>?_) step
     have hSu:=k.2.1 hB
     refine ⟨fun _=>hSu,ih _ x u (fun m om hm hmi hmun hmno=>hfree m om hm hmi ?_ hmno) (hW.step hr hj) (ready_mono hr (Ne.symm hji)) k.1 hSu ?_⟩
     · by_cases hjm : j = m
       · subst hjm;exact hun
       · rw [getD_set_ne true hjm] at hmun;exact hmun
     · rw [Array.setIfInBounds_comm _ _ hji];exact k.2.2
theorem bar_take {i : Nat} {oi : Oper} {v : Value} {n : Nat} {l : Array Bool} {a : Act} {w : World} (hi : ops[i]? = some oi) (hs : Region.noSelect ops = true) (hf : Region.free md ops l i = true)
   (hr : (Region.ready md ops l).contains i = true) (hw : waitsB md ops B i l = true) (hQ : ∀ c a w,Q (.panic c) (a.put oi.dst v) w → Q (.panic c) a w) (hy : YieldsIf P ops S oi v a) (hS : S w)
   (h : wpBar P md ops Q B S n (l.setIfInBounds i true) (a.put oi.dst v) w) : wpBar P md ops Q B S (n + 1) l a w :=
 bar_first hi (Region.noSelect_spec hs) hQ n l a w (Region.free_spec hi hf) (waits_of hw) (by simpa using hr) hy hS h
theorem bar_one {i : Nat} {o : Oper} {n : Nat} {l : Array Bool} {a : Act} {w : World} (hr : Region.ready md ops l = [i]) (ho : ops[i]? = some o)
   (h : ∀ K : Act → World → Prop,Shut (∀ a w,(B i = false → S w) → wpBar P md ops Q B S n (l.setIfInBounds i true) a w → K a w) → if Region.wanted o (yielded ops a.tmps) = true then Oper.wp P o a w K Q else K (a.put o.dst undef) w) :
   wpBar P md ops Q B S (n + 1) l a w:=by
 refine ⟨fun h0=>(by rw [hr] at h0;cases h0),fun j hj=>?_⟩
 rw [hr] at hj
 obtain rfl : j = i:=by simpa using hj
 exact wpOp_step ho fun K hK=>h K fun a w hS hW=>hK a w ⟨hS,hW⟩
theorem bar_done {l : Array Bool} {a : Act} {w : World} (hr : Region.ready md ops l = []) (h : Q .normal a w) : ∀ n,wpBar P md ops Q B S n l a w
 | 0=>⟨hr,h⟩
 | _ + 1=>⟨fun _=>h,by rw [hr];simp⟩
theorem bar_begin {id : Nat} {a : Act} {w : World} (hm : P.follows .mixedOrders = true) (h : wpBar P .any ops Q B S ops.size (Array.replicate ops.size false) a w.drew) : (Code.region id ops true).wp P Q a w :=
 wp_region_any hm (any_of_bar _ _ _ _ h)
end
open Go.RowKit
theorem vcompare_any (ka na : Int) (sa : ByteArray) (ea kb nb : Int) (sb : ByteArray) (eb : Int) (w : World) (hN : Nm w) :
   Calls Tryz.prog 99 #[.agg #[.int .i64 ka,.int .i64 na,.string sa,.int .i64 ea],.agg #[.int .i64 kb,.int .i64 nb,.string sb,.int .i64 eb]] w fun r w' =>
     r = .returned (.tuple #[.int .i64 (cmpV (nm ka na sa ea) (nm kb nb sb eb)),(cmpE (nm ka na sa ea) (nm kb nb sb eb)).dat]) ∧ Ext w w':=by
 have c1:=fun W h=>vnormal_any ka na sa ea W h
 have c2:=fun W h=>vnormal_any kb nb sb eb W h
 generalize nm ka na sa ea = a at c1 ⊢
 generalize nm kb nb sb eb = b at c2 ⊢
 rw [dat_eq] at c1 c2
 have H1 : Hid (a.k = 4 → cmpV a b = 0 ∧ (cmpE a b).dat = .agg #[.int .i64 4,.int .i64 a.n,.string a.s,.int .i64 a.e]):=fun ha=>⟨(cmp_ea b ha).1,by rw [(cmp_ea b ha).2,dat_eq,ha]⟩
 have H2 : Hid (a.k ≠ 4 → b.k = 4 → cmpV a b = 0 ∧ (cmpE a b).dat = .agg #[.int .i64 4,.int .i64 b.n,.string b.s,.int .i64 b.e]):=fun ha hb=>⟨(cmp_eb ha hb).1,by rw [(cmp_eb ha hb).2,dat_eq,hb]⟩
 have H3 : Hid (a.k ≠ 4 → b.k ≠ 4 → cmpE a b = .blank ∧ cmpV a b = or3 (sg3 (rk (bk0 b.k a.k)) (rk (bk0 a.k b.k))) (sg3 (if a.k = 0 then 0 else a.n) (if b.k = 0 then 0 else b.n)) (Lib.compareBytes (bkS a.k a.s).data.toList (bkS b.k b.s).data.toList)):=fun ha hb=>cmp_n ha hb
 generalize a.k = pk at *
 generalize a.n = pn at *
 generalize a.s = ps at *
 generalize a.e = pe at *
 generalize b.k = qk at *
 generalize b.n = qn at *
 generalize b.s = qs at *
 generalize b.e = qe at *
 generalize cmpV a b = I at *
 generalize cmpE a b = J at *
 clear a b
 go_enter func99,ntmps99
 go_upto_region 1 with fail
 obtain ⟨W0,hW0⟩ : ∃ W0,W0 = ((w.alloc (.cells #[.int .i64 ka,.int .i64 na,.string sa,.int .i64 ea] 33)).alloc (.cells #[.int .i64 kb,.int .i64 nb,.string sb,.int .i64 eb] 33)).alloc (.cells #[.int .i64 0,.int .i64 0,.string ⟨#[]⟩,.int .i64 0] 33):=⟨_,rfl⟩
 rw [← hW0]
 have XW : Ext w W0:=by rw [hW0];exact ((xr.alloc _).alloc _).alloc _
 have hK : Hid (∀ W,Ext W0 W → Blk W w.heap.size (.int .i64 ka) (.int .i64 na) (.string sa) (.int .i64 ea) ∧ Blk W (w.heap.size + 1) (.int .i64 kb) (.int .i64 nb) (.string sb) (.int .i64 eb) ∧ Blk W (w.heap.size + 1 + 1) (.int .i64 0) (.int .i64 0) (.string ⟨#[]⟩) (.int .i64 0)):=by
   exact K111
 clear hW0
 go_cut [] (fun wx=>Ext w wx ∧ Blk wx w.heap.size (.int .i64 pk) (.int .i64 pn) (.string ps) (.int .i64 pe) ∧ Blk wx (w.heap.size + 1) (.int .i64 qk) (.int .i64 qn) (.string qs) (.int .i64 qe) ∧ Blk wx (w.heap.size + 1 + 1) (.int .i64 0) (.int .i64 0) (.string ⟨#[]⟩) (.int .i64 0))
 case first =>
   clear H1 H2 H3
   have mkS : Hid (∀ W,Ext W0 W → (W.cell? ⟨w.heap.size,0,none⟩ = some (.int .i64 ka) ∧ W.cell? ⟨w.heap.size,1,none⟩ = some (.int .i64 na) ∧ W.cell? ⟨w.heap.size,2,none⟩ = some (.string sa) ∧ W.cell? ⟨w.heap.size,3,none⟩ = some (.int .i64 ea)) ∧ (W.cell? ⟨w.heap.size + 1,0,none⟩ = some (.int .i64 kb) ∧ W.cell? ⟨w.heap.size + 1,1,none⟩ = some (.int .i64 nb) ∧ W.cell? ⟨w.heap.size + 1,2,none⟩ = some (.string sb) ∧ W.cell? ⟨w.heap.size + 1,3,none⟩ = some (.int .i64 eb)) ∧ Ext W0 W):=by
     show ∀ W,_
     intro W h
     exact ⟨(hK.out W h).1.2.1,(hK.out W h).2.1.2.1,h⟩
   refine bar_begin (B:=fun i=>i == 4 || i == 5) (S:=fun W=>(W.cell? ⟨w.heap.size,0,none⟩ = some (.int .i64 ka) ∧ W.cell? ⟨w.heap.size,1,none⟩ = some (.int .i64 na) ∧ W.cell? ⟨w.heap.size,2,none⟩ = some (.string sa) ∧ W.cell? ⟨w.heap.size,3,none⟩ = some (.int .i64 ea)) ∧ (W.cell? ⟨w.heap.size + 1,0,none⟩ = some (.int .i64 kb) ∧ W.cell? ⟨w.heap.size + 1,1,none⟩ = some (.int .i64 nb) ∧ W.cell? ⟨w.heap.size + 1,2,none⟩ = some (.string sb) ∧ W.cell? ⟨w.heap.size + 1,3,none⟩ = some (.int .i64 eb)) ∧ Ext W0 W) J3 ?_
   have hS0:=mkS.out (World.drew W0) xr.drew
   refine bar_take (i:=0) (v:=?va0) rfl J3 J3 J3 J3 (fun _ _ _ h=>h) (Or.inl ⟨by rfl,?hya0⟩) hS0 ?resta0
   case hya0=>(intro W hSW;(try dsimp only at hSW);go_simp;with_reducible rfl)
   simp only [Act.put,List.setIfInBounds_toArray]
   refine bar_take (i:=2) (v:=?va2) rfl J3 J3 J3 J3 (fun _ _ _ h=>h) (Or.inl ⟨by rfl,?hya2⟩) hS0 ?resta2
   case hya2=>(intro W hSW;(try dsimp only at hSW);go_simp;with_reducible rfl)
   simp only [Act.put]
   refine bar_one (i:=1) J3 rfl (fun KK hKK=>?_)
   go_simp
   go_wp2_with (go_at_call 47;refine Calls.mono (c1 _ (hN.ext (XW.trans xr.drew))) ?_;rintro e w5 ⟨rfl,E5⟩)
   have X5 : Ext W0 w5:=Ext.trans xr.drew E5
   refine hKK.out _ _ (fun _=>mkS.out _ X5) ?_
   clear hKK KK hS0
   refine bar_one (i:=3) J3 rfl (fun KK hKK=>?_)
   go_simp
   go_wp2_with (go_at_call 47;refine Calls.mono (c2 _ (hN.ext (XW.trans X5))) ?_;rintro e w6 ⟨rfl,E6⟩)
   have X6 : Ext W0 w6:=X5.trans E6
   refine hKK.out _ _ (fun _=>mkS.out _ X6) ?_
   clear hKK KK mkS
   obtain ⟨A6,B6,R6⟩:=hK.out w6 X6
   have A7:=A6
   have B7:=B6
   obtain ⟨az,⟨a0,a1,a2,a3⟩,af0,af1,af2,af3⟩:=A7
   obtain ⟨bz,⟨b0,b1,b2,b3⟩,bf0,bf1,bf2,bf3⟩:=B7
   have X7 : Ext w w6:=XW.trans X6
   refine bar_one (i:=4) J3 rfl (fun KK hKK=>?_)
   go_simp
   refine hKK.out _ _ (fun h=>absurd h J9) ?_
   clear hKK KK
   refine bar_one (i:=5) J3 rfl (fun KK hKK=>?_)
   exact K185
 case rest =>
   obtain ⟨X,A,B,R⟩:=hcut
   have A':=A
   have B':=B
   obtain ⟨az,⟨a0,a1,a2,a3⟩,af0,af1,af2,af3⟩:=A'
   obtain ⟨bz,⟨b0,b1,b2,b3⟩,bf0,bf1,bf2,bf3⟩:=B'
   clear c1 c2 hK XW hN
   by_cases ha : pk = 4
   · obtain ⟨rfl,H⟩:=H1.out ha
     have H : Hid (J.dat = _):=H
     subst ha
     have c:=fun W h=>firsterr_a 4 pn ps pe qk qn qs qe wc.heap.size W h J9
     go_wp2_with fail
     refine (c _ two_alloc).mono ?_
     rintro r w2 ⟨rfl,E2⟩
     have X2 : Ext w w2:=Ext.trans J4 E2
     have R2:=(R.ext (xr.alloc _)).ext E2
     have R3:=R2
     obtain ⟨rz,⟨r0,r1,r2,r3⟩,rf0,rf1,rf2,rf3⟩:=R3
     clear H1 H2 H3
     exact K41
   · by_cases hb : qk = 4
     · obtain ⟨rfl,H⟩:=H2.out ha hb
       have H : Hid (J.dat = _):=H
       subst hb
       have c:=fun W h=>firsterr_b pk pn ps pe 4 qn qs qe wc.heap.size W h J47 J9
       clear H1 H2 H3 ha
       go_wp2_with fail
       refine (c _ two_alloc).mono ?_
       rintro r w2 ⟨rfl,E2⟩
       have X2 : Ext w w2:=Ext.trans J4 E2
       have R2:=(R.ext (xr.alloc _)).ext E2
       have R3:=R2
       obtain ⟨rz,⟨r0,r1,r2,r3⟩,rf0,rf1,rf2,rf3⟩:=R3
       exact K41
     · obtain ⟨rfl,H⟩:=H3.out ha hb
       have H : Hid (I = _):=H
       have c:=fun W h=>firsterr_n pk pn ps pe qk qn qs qe wc.heap.size W h J47 (by simpa using hb)
       clear H1 H2 H3 ha hb
       go_wp2_with fail
       refine (c _ two_alloc).mono ?_
       rintro r w2 ⟨rfl,E2⟩
       have X2 : Ext w w2:=Ext.trans J4 E2
       have R2:=(R.ext (xr.alloc _)).ext E2
       have A2:=(A.ext (xr.alloc _)).ext E2
       have B2:=(B.ext (xr.alloc _)).ext E2
       clear A B R X E2 c az a0 a1 a2 a3 af0 af1 af2 af3 bz b0 b1 b2 b3 bf0 bf1 bf2 bf3
       go_wp2_with fail
       have d1:=fun W=>blankas_any qk pk pn ps pe W
       have d2:=fun W=>blankas_any pk qk qn qs qe W
       generalize bk0 qk pk = xk at *
       generalize bk0 pk qk = yk at *
       generalize (if pk = 0 then 0 else pn) = xn at *
       generalize (if qk = 0 then 0 else qn) = yn at *
       generalize (if pk = 0 then 0 else pe) = xe at *
       generalize (if qk = 0 then 0 else qe) = ye at *
       generalize bkS pk ps = xs at *
       generalize bkS qk qs = ys at *
       have hK : Hid (∀ W,Ext w2 W → Ext w W ∧ Blk W w.heap.size (.int .i64 pk) (.int .i64 pn) (.string ps) (.int .i64 pe) ∧ Blk W (w.heap.size + 1) (.int .i64 qk) (.int .i64 qn) (.string qs) (.int .i64 qe) ∧ Blk W (w.heap.size + 1 + 1) (.int .i64 0) (.int .i64 0) (.string ⟨#[]⟩) (.int .i64 0)):=fun W h=>⟨X2.trans h,A2.ext h,B2.ext h,R2.ext h⟩
       clear A2 B2 X2 R2
       go_cut [] (fun wx=>Ext w wx ∧ Blk wx w.heap.size (.int .i64 xk) (.int .i64 xn) (.string xs) (.int .i64 xe) ∧ Blk wx (w.heap.size + 1) (.int .i64 yk) (.int .i64 yn) (.string ys) (.int .i64 ye) ∧ Blk wx (w.heap.size + 1 + 1) (.int .i64 0) (.int .i64 0) (.string ⟨#[]⟩) (.int .i64 0))
       case first =>
         clear H
         have mkS : Hid (∀ W,Ext w2 W → (W.cell? ⟨w.heap.size,0,none⟩ = some (.int .i64 pk) ∧ W.cell? ⟨w.heap.size,1,none⟩ = some (.int .i64 pn) ∧ W.cell? ⟨w.heap.size,2,none⟩ = some (.string ps) ∧ W.cell? ⟨w.heap.size,3,none⟩ = some (.int .i64 pe)) ∧ (W.cell? ⟨w.heap.size + 1,0,none⟩ = some (.int .i64 qk) ∧ W.cell? ⟨w.heap.size + 1,1,none⟩ = some (.int .i64 qn) ∧ W.cell? ⟨w.heap.size + 1,2,none⟩ = some (.string qs) ∧ W.cell? ⟨w.heap.size + 1,3,none⟩ = some (.int .i64 qe)) ∧ Ext w2 W):=by
           show ∀ W,_
           intro W h
           exact ⟨(hK.out W h).2.1.2.1,(hK.out W h).2.2.1.2.1,h⟩
         refine bar_begin (B:=fun i=>i == 8 || i == 9) (S:=fun W=>(W.cell? ⟨w.heap.size,0,none⟩ = some (.int .i64 pk) ∧ W.cell? ⟨w.heap.size,1,none⟩ = some (.int .i64 pn) ∧ W.cell? ⟨w.heap.size,2,none⟩ = some (.string ps) ∧ W.cell? ⟨w.heap.size,3,none⟩ = some (.int .i64 pe)) ∧ (W.cell? ⟨w.heap.size + 1,0,none⟩ = some (.int .i64 qk) ∧ W.cell? ⟨w.heap.size + 1,1,none⟩ = some (.int .i64 qn) ∧ W.cell? ⟨w.heap.size + 1,2,none⟩ = some (.string qs) ∧ W.cell? ⟨w.heap.size + 1,3,none⟩ = some (.int .i64 qe)) ∧ Ext w2 W) J3 ?_
         have hS0:=mkS.out (World.drew (w2.alloc (.cells #[.int .i64 0,.int .i64 0,.string ⟨#[]⟩,.int .i64 0] 33))) (xr.alloc _).drew
         refine bar_take (i:=0) (v:=?v0) rfl J3 J3 J3 J3 (fun _ _ _ h=>h) (Or.inl ⟨by rfl,?hy0⟩) hS0 ?rest0
         case hy0=>(intro W hSW;(try dsimp only at hSW);go_simp;with_reducible rfl)
         simp only [Act.put,List.setIfInBounds_toArray]
         refine bar_take (i:=1) (v:=?v1) rfl J3 J3 J3 J3 (fun _ _ _ h=>h) (Or.inl ⟨by rfl,?hy1⟩) hS0 ?rest1
         case hy1=>(intro W hSW;(try dsimp only at hSW);go_simp;with_reducible rfl)
         simp only [Act.put]
         refine bar_take (i:=2) (v:=?v2) rfl J3 J3 J3 J3 (fun _ _ _ h=>h) (Or.inl ⟨by rfl,?hy2⟩) hS0 ?rest2
         case hy2=>(intro W hSW;(try dsimp only at hSW);go_simp;with_reducible rfl)
         simp only [Act.put]
         refine bar_take (i:=4) (v:=?v4) rfl J3 J3 J3 J3 (fun _ _ _ h=>h) (Or.inl ⟨by rfl,?hy4⟩) hS0 ?rest4
         case hy4=>(intro W hSW;(try dsimp only at hSW);go_simp;with_reducible rfl)
         simp only [Act.put]
         refine bar_take (i:=5) (v:=?v5) rfl J3 J3 J3 J3 (fun _ _ _ h=>h) (Or.inl ⟨by rfl,?hy5⟩) hS0 ?rest5
         case hy5=>(intro W hSW;(try dsimp only at hSW);go_simp;with_reducible rfl)
         simp only [Act.put]
         refine bar_take (i:=6) (v:=?v6) rfl J3 J3 J3 J3 (fun _ _ _ h=>h) (Or.inl ⟨by rfl,?hy6⟩) hS0 ?rest6
         case hy6=>(intro W hSW;(try dsimp only at hSW);go_simp;with_reducible rfl)
         simp only [Act.put]
         refine bar_one (i:=3) J3 rfl (fun KK hKK=>?_)
         go_simp
         go_wp2_with (go_at_call 132;refine Calls.mono (d1 _) ?_;rintro e w5 ⟨rfl,E5⟩)
         have X5 : Ext w2 w5:=Ext.trans (xr.alloc _).drew E5
         refine hKK.out _ _ (fun _=>mkS.out _ X5) ?_
         clear hKK KK hS0
         refine bar_one (i:=7) J3 rfl (fun KK hKK=>?_)
         go_simp
         go_wp2_with (go_at_call 132;refine Calls.mono (d2 _) ?_;rintro e w6 ⟨rfl,E6⟩)
         have X6 : Ext w2 w6:=X5.trans E6
         refine hKK.out _ _ (fun _=>mkS.out _ X6) ?_
         clear hKK KK mkS
         obtain ⟨N6,A6,B6,R6⟩:=hK.out w6 X6
         have A7:=A6
         have B7:=B6
         obtain ⟨az,⟨a0,a1,a2,a3⟩,af0,af1,af2,af3⟩:=A7
         obtain ⟨bz,⟨b0,b1,b2,b3⟩,bf0,bf1,bf2,bf3⟩:=B7
         refine bar_one (i:=8) J3 rfl (fun KK hKK=>?_)
         go_simp
         refine hKK.out _ _ (fun h=>absurd h J9) ?_
         clear hKK KK
         refine bar_one (i:=9) J3 rfl (fun KK hKK=>?_)
         exact K185
       case rest =>
         obtain ⟨X3,A3,B3,R3⟩:=hcut
         clear hK d1 d2
         have H : Hid (I = or3 (sg3 (rk xk) (rk yk)) (sg3 xn yn) (Lib.compareBytes xs.data.toList ys.data.toList)):=H
         have e1:=fun W=>rank_any xk W
         have e2:=fun W=>rank_any yk W
         have e3:=fun W=>Tryz.cmp_Compare_int (rk xk) (rk yk) W
         have e4:=fun W=>cmp64_any xn yn W
         have e5:=fun W=>Tryz.strings_Compare xs ys W
         have e6:=fun L W h0 h1 h2=>or_any (sg3 (rk xk) (rk yk)) (sg3 xn yn) (Lib.compareBytes xs.data.toList ys.data.toList) L W h0 h1 h2
         rw [show Lib.compareInt (rk xk) (rk yk) = sg3 (rk xk) (rk yk) from rfl] at e3
         generalize or3 (sg3 (rk xk) (rk yk)) (sg3 xn yn) (Lib.compareBytes xs.data.toList ys.data.toList) = o at *
         generalize sg3 (rk xk) (rk yk) = c1 at *
         generalize sg3 xn yn = c2 at *
         generalize Lib.compareBytes xs.data.toList ys.data.toList = c3 at *
         generalize rk xk = k1 at *
         generalize rk yk = k2 at *
         have mkS : Hid (∀ W,(Blk W w.heap.size (.int .i64 xk) (.int .i64 xn) (.string xs) (.int .i64 xe) ∧ Blk W (w.heap.size + 1) (.int .i64 yk) (.int .i64 yn) (.string ys) (.int .i64 ye)) → (W.cell? ⟨w.heap.size,0,none⟩ = some (.int .i64 xk) ∧ W.cell? ⟨w.heap.size,1,none⟩ = some (.int .i64 xn) ∧ W.cell? ⟨w.heap.size,2,none⟩ = some (.string xs) ∧ W.cell? ⟨w.heap.size,3,none⟩ = some (.int .i64 xe)) ∧ (W.cell? ⟨w.heap.size + 1,0,none⟩ = some (.int .i64 yk) ∧ W.cell? ⟨w.heap.size + 1,1,none⟩ = some (.int .i64 yn) ∧ W.cell? ⟨w.heap.size + 1,2,none⟩ = some (.string ys) ∧ W.cell? ⟨w.heap.size + 1,3,none⟩ = some (.int .i64 ye))):=by
           show ∀ W,_
           intro W h
           exact ⟨h.1.2.1,h.2.2.1⟩
         have R4:=R3
         obtain ⟨rz,⟨r0,r1,r2,r3⟩,rf0,rf1,rf2,rf3⟩:=R4
         go_upto_region 6 with fail
         go_region_held3 (fun W=>(W.cell? ⟨w.heap.size,0,none⟩ = some (.int .i64 xk) ∧ W.cell? ⟨w.heap.size,1,none⟩ = some (.int .i64 xn) ∧ W.cell? ⟨w.heap.size,2,none⟩ = some (.string xs) ∧ W.cell? ⟨w.heap.size,3,none⟩ = some (.int .i64 xe)) ∧ (W.cell? ⟨w.heap.size + 1,0,none⟩ = some (.int .i64 yk) ∧ W.cell? ⟨w.heap.size + 1,1,none⟩ = some (.int .i64 yn) ∧ W.cell? ⟨w.heap.size + 1,2,none⟩ = some (.string ys) ∧ W.cell? ⟨w.heap.size + 1,3,none⟩ = some (.int .i64 ye)))
           ((refine mkS.out _ ?_;refine ⟨?_,?_⟩ <;> ((with_reducible (repeat' (first | assumption | apply Blk.set | apply Blk.far | apply Blk.al | apply Blk.dr)));all_goals omega)))
           (first
             | (go_at_call 133;have q1:=F1;refine Calls.mono (e2 _) ?_;rintro e w' ⟨rfl,rfl⟩)
             | (go_at_call 133;refine Calls.mono (e1 _) ?_;rintro e w' ⟨rfl,rfl⟩;have F1 : True:=trivial)
             | (go_at_call 31;refine Calls.mono (e3 _) ?_;rintro e w' ⟨rfl,rfl⟩)
             | (go_at_call 134;refine Calls.mono (e4 _) ?_;rintro e w' ⟨rfl,rfl⟩)
             | (go_at_call 135;refine Calls.mono (e5 _) ?_;rintro e w' ⟨rfl,rfl⟩)
             | (go_at_call 30;refine Calls.mono (e6 _ _ J17 J17 J17) ?_;rintro e w' ⟨rfl,rfl⟩))
         all_goals
           go_wp2_with fail
           apply finBi o (b:=w.heap.size + 1 + 1) (w:=w)
           case B=>((with_reducible (repeat' (first | assumption | apply Blk.set | apply Blk.far | apply Blk.al | apply Blk.dr)));all_goals omega)
           case hd=>rfl
           case E=>((with_reducible (repeat' (first | assumption | exact xr | apply Ext.alloc | apply Ext.drew | apply Ext.drewN | apply Ext.setCell)));all_goals (first | omega | (simp;done) | (simp;omega)))
           case hr=>intro g0 g1 g2 g3;simp [results,results99,go_sem,g0,g1,g2,g3]
           case hQ=>exact fun h=>⟨by rw [H.out];rfl,h⟩
end Go.Proofs.YtcfgbiaahangmaaGreatDoor

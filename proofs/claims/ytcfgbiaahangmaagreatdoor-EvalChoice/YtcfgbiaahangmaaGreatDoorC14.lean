import Derived.Test.YtcfgbiaahangmaaGreatDoorC13
import Derived.Maps.RangeWalk
import Derived.DeepKeys5
set_option maxHeartbeats 1000000
set_option maxRecDepth 100000
namespace Go.Proofs.YtcfgbiaahangmaaGreatDoor
open Go.Proofs.Tryz
open Go.RowKit
def canR (p q u v:Int):Bool:=inB p q && inB u v && decide (p≤u) && decide (q≤v)
def areaR (p q u v:Int):Int:=if canR p q u v then (u - p+1) * (v - q+1) else 0
def mnI (a b:Int):Int:=if a < b then a else b
def mxI (a b:Int):Int:=if b < a then a else b
def rectD (p q u v:Int):Value:=.agg #[.int .i64 p,.int .i64 q,.int .i64 u,.int .i64 v]
theorem can_bd {p q u v:Int} (h:canR p q u v = true):1≤p∧p≤u∧u≤1000∧1≤q∧q≤v∧v≤52:=by
 unfold canR inB at h;simp at h;omega
theorem area_bd (p q u v:Int):0≤areaR p q u v∧areaR p q u v≤52000∧(areaR p q u v = 0↔canR p q u v = false):=by
 unfold areaR
 cases h:canR p q u v
 · simp
 · obtain ⟨h1,h2,h3,h4,h5,h6⟩:=can_bd h
   rw [if_pos rfl]
   have a1:1≤u - p+1:=J2
   have a2:u - p+1≤1000:=J2
   have b1:1≤v - q+1:=J2
   have b2:v - q+1≤52:=J2
   generalize u - p+1 = m at *
   generalize v - q+1 = n at *
   have l1:1 * 1≤m * n:=Int.mul_le_mul a1 b1 J2 J2
   have l2:m * n≤1000 * 52:=Int.mul_le_mul a2 b2 J2 J2
   refine ⟨by omega,by omega,?_⟩
   constructor
   · intro e;omega
   · intro e;cases e
theorem area_any (p q u v:Int) (w:World):Calls Tryz.prog 139 #[.agg #[.int .i64 p,.int .i64 q,.int .i64 u,.int .i64 v]] w fun e w'=>e = .returned (.int .i64 (areaR p q u v))∧Ext w w':=by
 have c1:=fun W=>in_any p q W
 have c2:=fun W=>in_any u v W
 have HR:Hid (canR p q u v = (inB p q && inB u v && decide (p≤u) && decide (q≤v))):=rfl
 have HN:Hid (canR p q u v = false→areaR p q u v = 0):=fun h=>(area_bd p q u v).2.2.2 h
 have HY:Hid (canR p q u v = true→areaR p q u v = (u - p+1) * (v - q+1)):=fun h=>by unfold areaR;rw [h];rfl
 cases g1:inB p q
 · rw [g1] at c1 HR
   go_enter func139,ntmps139
   go_wp2_with fail
   refine (c1 _).mono ?_
   rintro e w1 ⟨rfl,rfl⟩
   go_wp2_with fail
   go_ret
   exact ⟨ret_int J58,xr.alloc _⟩
 cases g2:inB u v
 · rw [g1] at c1 HR
   rw [g2] at c2 HR
   exact K95
 rw [g1] at c1 HR
 rw [g2] at c2 HR
 cases h1:decide (p≤u) <;> cases h2:decide (q≤v)
 all_goals rw [h1,h2] at HR
 case true.true =>
   have hc:canR p q u v = true:=HR.out
   obtain ⟨b1,b2,b3,b4,b5,b6⟩:=can_bd hc
   have HA:Hid (areaR p q u v = (u - p+1) * (v - q+1)):=HY.out hc
   have hb:=area_bd p q u v
   rw [HA.out] at hb
   obtain ⟨a1,a2,_⟩:=hb
   clear HR HN HY hc h1 h2 g1 g2
   go_enter func139,ntmps139
   go_wp2_with fail
   refine (c1 _).mono ?_
   rintro e w1 ⟨rfl,rfl⟩
   go_wp2_with fail
   refine (c2 _).mono ?_
   rintro e w1 ⟨rfl,rfl⟩
   go_wp2_with fail
   go_ret
   exact ⟨ret_int HA.out.symm,xr.alloc _⟩
 all_goals
   have h3:=h1
   have h4:=h2
   simp only [decide_eq_true_eq,decide_eq_false_iff_not] at h3 h4
   exact K95
def Three (w:World) (x0 x1 x2 x3 y0 y1 y2 y3:Value) (W:World):Prop:=Ext w W∧Blk W w.heap.size x0 x1 x2 x3∧Blk W (w.heap.size+1) y0 y1 y2 y3∧∃ z0 z1 z2 z3,Blk W (w.heap.size+1+1) z0 z1 z2 z3
theorem Three.ext {w W W':World} {x0 x1 x2 x3 y0 y1 y2 y3:Value} (h:Three w x0 x1 x2 x3 y0 y1 y2 y3 W) (e:Ext W W'):Three w x0 x1 x2 x3 y0 y1 y2 y3 W':=by
 obtain ⟨a,b,c,z0,z1,z2,z3,d⟩:=h
 exact ⟨a.trans e,b.ext e,c.ext e,z0,z1,z2,z3,d.ext e⟩
theorem Three.drew {w W:World} {x0 x1 x2 x3 y0 y1 y2 y3:Value} (h:Three w x0 x1 x2 x3 y0 y1 y2 y3 W):Three w x0 x1 x2 x3 y0 y1 y2 y3 W.drew:=h.ext (Ext.drew xr)
theorem Three.drewN {w W:World} {x0 x1 x2 x3 y0 y1 y2 y3:Value} (h:Three w x0 x1 x2 x3 y0 y1 y2 y3 W) (n:Nat):Three w x0 x1 x2 x3 y0 y1 y2 y3 (W.drewN n):=h.ext (Ext.drewN xr n)
theorem Three.put {w W:World} {x0 x1 x2 x3 y0 y1 y2 y3:Value} (h:Three w x0 x1 x2 x3 y0 y1 y2 y3 W) (v0 v1 v2 v3:Value):Three w x0 x1 x2 x3 y0 y1 y2 y3 ((((W.setCell ⟨w.heap.size+1+1,0,none⟩ v0).setCell ⟨w.heap.size+1+1,1,none⟩ v1).setCell ⟨w.heap.size+1+1,2,none⟩ v2).setCell ⟨w.heap.size+1+1,3,none⟩ v3):=by
 obtain ⟨a,b,c,z0,z1,z2,z3,d⟩:=h
 exact ⟨(((a.setCell J6 _).setCell J6 _).setCell J6 _).setCell J6 _,b.far J2 _ _ _ _,c.far J2 _ _ _ _,_,_,_,_,d.set _ _ _ _⟩
def rcB (a0 a1 b0 b1:Int):Bool:=inB a0 a1 && inB b0 b1
def rcD (a0 a1 b0 b1:Int):Value:=if rcB a0 a1 b0 b1 then rectD (mnI a0 b0) (mnI a1 b1) (mxI a0 b0) (mxI a1 b1) else rectD 0 0 0 0
theorem mn_eq (a b:Int):min a b = mnI a b:=by unfold mnI;rw [Int.min_def];split <;> split <;> omega
theorem mx_eq (a b:Int):max a b = mxI a b:=by unfold mxI;rw [Int.max_def];split <;> split <;> omega
theorem three {w:World} {x0 x1 x2 x3 y0 y1 y2 y3 z0 z1 z2 z3:Value} {S T U:TypeId} {W:World} (h:W = ((w.alloc (.cells #[x0,x1,x2,x3] S)).alloc (.cells #[y0,y1,y2,y3] T)).alloc (.cells #[z0,z1,z2,z3] U)) :
   Ext w W∧Blk W w.heap.size x0 x1 x2 x3∧Blk W (w.heap.size+1) y0 y1 y2 y3∧Blk W (w.heap.size+1+1) z0 z1 z2 z3:=by
 subst h
 exact ⟨((xr.alloc _).alloc _).alloc _,((blk_top rfl xr).al _).al _,(blk_top J65 xr).al _,blk_top J65 xr⟩
theorem rect_any (a0 a1 b0 b1:Int) (ax ay bx by_:Bool) (w:World):Calls Tryz.prog 138 #[.agg #[.int .i64 a0,.int .i64 a1,.bool ax,.bool ay],.agg #[.int .i64 b0,.int .i64 b1,.bool bx,.bool by_]] w fun e w'=>e = .returned (rcD a0 a1 b0 b1)∧Ext w w':=by
 have c1:=fun W=>in_any a0 a1 W
 have c2:=fun W=>in_any b0 b1 W
 have HD:Hid (rcD a0 a1 b0 b1 = if inB a0 a1 && inB b0 b1 then rectD (mnI a0 b0) (mnI a1 b1) (mxI a0 b0) (mxI a1 b1) else rectD 0 0 0 0):=rfl
 obtain ⟨W0,hW0⟩:∃ W0,W0 = ((w.alloc (.cells #[.int .i64 a0,.int .i64 a1,.bool ax,.bool ay] 40)).alloc (.cells #[.int .i64 b0,.int .i64 b1,.bool bx,.bool by_] 40)).alloc (.cells #[.int .i64 0,.int .i64 0,.int .i64 0,.int .i64 0] 54):=⟨_,rfl⟩
 obtain ⟨X0,BA,BB,BZ⟩:=three hW0
 have HBZ:Hid (Blk W0 (w.heap.size+1+1) (.int .i64 0) (.int .i64 0) (.int .i64 0) (.int .i64 0)):=BZ
 obtain ⟨_,⟨k0,k1,k2,k3⟩,_⟩:=BA
 obtain ⟨_,⟨m0,m1,m2,m3⟩,_⟩:=BB
 obtain ⟨_,⟨n0,n1,n2,n3⟩,f0,f1,f2,f3⟩:=BZ
 cases g1:inB a0 a1
 · rw [g1] at c1 HD
   go_enter func138,ntmps138
   go_wp2_with fail
   rw [← hW0]
   clear hW0
   refine (c1 _).mono ?_
   rintro e w1 ⟨rfl,rfl⟩
   exact K164
 cases g2:inB b0 b1
 · rw [g1] at c1 HD
   rw [g2] at c2 HD
   go_enter func138,ntmps138
   go_wp2_with fail
   rw [← hW0]
   clear hW0
   refine (c1 _).mono ?_
   rintro e w1 ⟨rfl,rfl⟩
   go_wp2_with fail
   refine (c2 _).mono ?_
   rintro e w2 ⟨rfl,rfl⟩
   exact K164
 rw [g1] at c1 HD
 rw [g2] at c2 HD
 have HD2:Hid (rcD a0 a1 b0 b1 = rectD (mnI a0 b0) (mnI a1 b1) (mxI a0 b0) (mxI a1 b1)):=HD.out
 clear HD
 go_enter func138,ntmps138
 go_wp2_with fail
 rw [← hW0]
 clear hW0
 refine (c1 _).mono ?_
 rintro e w1 ⟨rfl,rfl⟩
 go_wp2_with fail
 refine (c2 _).mono ?_
 rintro e w2 ⟨rfl,rfl⟩
 go_wp2_with fail
 exact fin4 n0 n1 n2 n3 rfl J2 X0 J39 (fun W h=>⟨by rw [HD2.out,mn_eq,mn_eq,mx_eq,mx_eq];rfl,h⟩)
abbrev Bov:=Int→Int→V
def bz:Bov:=fun _ _=>.blank
def bput (M:Bov) (r c:Int) (v:V):Bov:=fun r' c'=>if r' = r∧c' = c then v else M r' c'
def bset (M:Bov) (r c:Int) (v:V):Bov:=if inB r c then bput M r c v else M
structure BdOk (M:Bov):Prop where
 v:∀ r c,(M r c).ok
 i:∀ r c,inB r c = false→M r c = .blank
theorem bz_ok:BdOk bz:=⟨fun _ _=>trivial,fun _ _ _=>rfl⟩
theorem bset_ok {M:Bov} (h:BdOk M) (r c:Int) (v:V) (hv:v.ok):BdOk (bset M r c v):=by
 unfold bset
 split
 · rename_i hi
   refine ⟨fun r' c'=>?_,fun r' c' h'=>?_⟩
   · unfold bput;split
     · exact hv
     · exact h.v _ _
   · unfold bput;split
     · rename_i he
       rw [he.1,he.2] at h'
       rw [hi] at h'
       cases h'
     · exact h.i _ _ h'
 · exact h
def rowA (M:Bov) (r c:Int):Nat→List Rw
 | 0=>[]
 | n+1=>(M r c).rw :: rowA M r (c+1) n
def areA (M:Bov) (r c:Int) (cols:Nat):Nat→List Rw
 | 0=>[]
 | n+1=>rowA M r c cols ++ areA M (r+1) c cols n
def argA (M:Bov) (p q u v:Int):Bg:=⟨⟨true,areA M p q (v - q+1).toNat (u - p+1).toNat⟩,u - p+1,v - q+1⟩
def argR (M:Bov) (r q:Rf):Bg:=argA M (mnI r.1 q.1) (mnI r.2.1 q.2.1) (mxI r.1 q.1) (mxI r.2.1 q.2.1)
theorem rowA_len (M:Bov) (r:Int) (n:Nat):∀ c,(rowA M r c n).length = n:=by
 induction n with
 | zero=>intro c;rfl
 | succ n ih=>intro c;show (rowA M r (c+1) n).length+1 = n+1;rw [ih]
theorem areA_len (M:Bov) (c:Int) (cols n:Nat):∀ r,(areA M r c cols n).length = n * cols:=by
 induction n with
 | zero=>intro r;simp [areA]
 | succ n ih=>intro r;show (rowA M r c cols ++ areA M (r+1) c cols n).length = _;rw [List.length_append,rowA_len,ih,Nat.succ_mul];omega
theorem rowA_snoc (M:Bov) (r:Int) (n:Nat):∀ c,rowA M r c (n+1) = rowA M r c n ++ [(M r (c+n)).rw]:=by
 induction n with
 | zero=>intro c;simp [rowA]
 | succ n ih =>
   intro c
   show (M r c).rw :: rowA M r (c+1) (n+1) = ((M r c).rw :: rowA M r (c+1) n) ++ _
   rw [ih]
   have:c+1+(n:Int) = c+((n+1:Nat):Int):=J2
   rw [this];rfl
theorem areA_snoc (M:Bov) (c:Int) (cols n:Nat):∀ r,areA M r c cols (n+1) = areA M r c cols n ++ rowA M (r+n) c cols:=by
 induction n with
 | zero=>intro r;simp [areA]
 | succ n ih =>
   intro r
   show rowA M r c cols ++ areA M (r+1) c cols (n+1) = (rowA M r c cols ++ areA M (r+1) c cols n) ++ _
   rw [ih,List.append_assoc]
   have:r+1+(n:Int) = r+((n+1:Nat):Int):=J2
   rw [this]
theorem rowA_mem (M:Bov) (r:Int) (n:Nat):∀ c x,x ∈ rowA M r c n→∃ c',x = (M r c').rw:=by
 induction n with
 | zero=>intro c x h;cases h
 | succ n ih =>
   intro c x h
   rcases List.mem_cons.1 h with h | h
   · exact ⟨c,h⟩
   · exact ih _ _ h
theorem areA_mem (M:Bov) (c:Int) (cols n:Nat):∀ r x,x ∈ areA M r c cols n→∃ r' c',x = (M r' c').rw:=by
 induction n with
 | zero=>intro r x h;cases h
 | succ n ih =>
   intro r x h
   rcases List.mem_append.1 h with h | h
   · obtain ⟨c',h⟩:=rowA_mem _ _ _ _ _ h
     exact ⟨r,c',h⟩
   · exact ih _ _ h
def cmB (s:List UInt8) (n:Int):Bool :=
 if s = [61] then n == 0 else if s = [60,62] then n != 0 else if s = [60] then decide (n < 0) else if s = [60,61] then decide (n≤0) else if s = [62] then decide (n > 0) else decide (n≥0)
def cmpS (s:List UInt8) (a b:V):V:=if (cmpE a b).k = 4 then cmpE a b else .tf (cmB s (cmpV a b))
def fourB (s:List UInt8):Bool:=s == [43] || s == [45] || s == [42] || s == [47]
def binV (s:List UInt8) (a b:V):V:=if fourB s then arith ((s.headD 0).toNat:Int) a b else if s == [38] then join a b else cmpS s a b
def argV (v:V):Bg:=⟨⟨false,[v.rw]⟩,0,0⟩
def evT:Nat→Bov→T→V
 | 0,_,_=>.blank
 | n+1,M,t=>if t.k = 0 then mkNum t.n else if t.k = 1 then mkText (bs t.s) else if t.k = 2 then .tf (t.n == 1) else if t.k = 3 then mkErr t.e else if t.k = 4 then M t.r.1 t.r.2.1 else
   if t.k = 6 then (match t.l with | x :: _=>(evT n M x).neg | []=>.blank) else
   if t.k = 7 then (match t.l with | x :: y :: _=>binV t.s (evT n M x) (evT n M y) | _=>.blank) else
   fnV t.s (t.l.map (fun x=>if x.k = 5 then argR M x.r x.q else argV (evT n M x)))
def argX (n:Nat) (M:Bov) (x:T):Bg:=if x.k = 5 then argR M x.r x.q else argV (evT n M x)
def expV (n:Nat) (M:Bov) (t:T):V:=if wellT n t then evT n M t else .err 2
open Go.Maps (Keyed)
theorem kLaw:Keyed Tryz.prog 24:=Keyed.of_law (deep_law_laid (m:=3) J3 J9 (of_decide_eq_true J3) J3 J3)
theorem kType:Tryz.prog.keyType 24 = true:=J3
theorem kCells:Tryz.prog.cellsOf 24 = 2:=J3
theorem kInt:Tryz.prog.cellsOf 3 = 1:=J3
theorem kSize:∃ m,Tryz.prog.types.size = m+1:=⟨Tryz.prog.types.size - 1,by have:0 < Tryz.prog.types.size:=of_decide_eq_true J3;omega⟩
def plc (r c:Int):Value:=.agg #[.int .i64 r,.int .i64 c]
def kl (r c:Int):Lit:=.string (keyBytes [.int .i64 r,.int .i64 c])
theorem wf_i64 {n:Int} (h:I64 n):(Lit.int .i64 n).wf = true:=WalkArith.wf_i64 (by unfold I64 at h;omega)
theorem key_mk (r c:Int) (hr:I64 r) (hc:I64 c):keyOf Tryz.prog 24 (plc r c) = some (kl r c):=by
 obtain ⟨m,hm⟩:=kSize
 unfold keyOf plc
 simp only [Tryz.underlying24]
 rw [if_pos (by simp [kType,Value.formed,Tryz.underlying24,kCells]),hm]
 unfold Program.keyLits
 simp only [Tryz.underlying24,Value.cells]
 rw [if_pos (by rw [kCells];simp)]
 simp [Program.keyLits,kInt,Tryz.underlying3,wf_i64 hr,wf_i64 hc,kl]
theorem kl_inj {r c r' c':Int} (hr:I64 r) (hc:I64 c) (hr':I64 r') (hc':I64 c') (h:kl r c = kl r' c'):r = r'∧c = c':=by
 have h1:=key_mk r c hr hc
 have h2:=key_mk r' c' hr' hc'
 rw [← h] at h2
 have:=kLaw.inj h1 h2
 unfold plc at this
 simp at this
 exact this
def hR (v:Value):Option (DataW Value × List MemPlace):=some (.held v,[])
def RelD (D:DataW Value) (M:Bov):Prop:=∀ r c,I64 r→I64 c→D.atKey (kl r c) (.held V.blank.dat) = .held (M r c).dat∧(Maps.has D (kl r c) = true↔(M r c).k≠0)
def MapB (W:World) (g n:Nat) (M:Bov):Prop:=∃ D,W.ownsMap Tryz.prog 24 hR g n D∧RelD D M
theorem rel_empty:RelD (.map []) bz:=fun r c _ _=>⟨rfl,by simp [Maps.has,bz,V.k]⟩
theorem rel_put {D:DataW Value} {M:Bov} (h:RelD D M) (hD:Maps.IsMap D) (r c:Int) (hr:I64 r) (hc:I64 c) (v:V) (hv:v.k≠0):RelD (D.put (kl r c) (.held v.dat)) (bput M r c v):=by
 have hk:=kLaw.key (key_mk r c hr hc)
 intro r' c' hr' hc'
 by_cases e:r' = r∧c' = c
 · obtain ⟨rfl,rfl⟩:=e
   rw [Maps.atKey_put_same hD hk,Maps.has_put_same hD hk]
   unfold bput
   simp [hv]
 · have hne:kl r' c'≠kl r c:=fun he=>e (kl_inj hr' hc' hr hc he)
   rw [Maps.atKey_put_other hne,Maps.has_put_other hne]
   unfold bput
   rw [if_neg e]
   exact h r' c' hr' hc'
theorem rel_del {D:DataW Value} {M:Bov} (h:RelD D M) (r c:Int) (hr:I64 r) (hc:I64 c):RelD (D.del (kl r c)) (bput M r c .blank):=by
 intro r' c' hr' hc'
 by_cases e:r' = r∧c' = c
 · obtain ⟨rfl,rfl⟩:=e
   rw [Maps.atKey_del_same,Maps.has_del_same]
   unfold bput
   simp [V.k]
 · have hne:kl r' c'≠kl r c:=fun he=>e (kl_inj hr' hc' hr hc he)
   rw [Maps.atKey_del_other hne,Maps.has_del_other hne]
   unfold bput
   rw [if_neg e]
   exact h r' c' hr' hc'
structure ExtS (S:Nat→Prop) (w w':World):Prop where
 os:w'.os = w.os
 tape:w'.tape = w.tape
 output:w'.output = w.output
 size:w.heap.size≤w'.heap.size
 block:∀ k,k < w.heap.size→¬ S k→w'.heap[k]? = w.heap[k]?
theorem ExtS.refl (S:Nat→Prop) (w:World):ExtS S w w:=⟨rfl,rfl,rfl,Nat.le_refl _,fun _ _ _=>rfl⟩
theorem ExtS.trans {S:Nat→Prop} {x y z:World} (h:ExtS S x y) (k:ExtS S y z):ExtS S x z :=
 ⟨k.os.trans h.os,k.tape.trans h.tape,k.output.trans h.output,Nat.le_trans h.size k.size,fun i hi hs=>(k.block i (llL hi h.size) hs).trans (h.block i hi hs)⟩
theorem Ext.toS {w w':World} (h:Ext w w') (S:Nat→Prop):ExtS S w w':=⟨h.os,h.tape,h.output,h.size,fun k hk _=>h.block k hk⟩
theorem ExtS.ext {S:Nat→Prop} {w0 w w':World} (h:ExtS S w w') (e:Ext w0 w) (hS:∀ k,S k→w0.heap.size≤k):Ext w0 w' :=
 ⟨h.os.trans e.os,h.tape.trans e.tape,h.output.trans e.output,Nat.le_trans e.size h.size,fun k hk=>(h.block k (llL hk e.size) (fun hs=>by have:=hS k hs;omega)).trans (e.block k hk)⟩
theorem ExtS.mono {S S':Nat→Prop} {w w':World} (h:ExtS S w w') (hs:∀ k,S k→S' k):ExtS S' w w':=⟨h.os,h.tape,h.output,h.size,fun k hk hn=>h.block k hk (fun h'=>hn (hs k h'))⟩
theorem cell_of_heap {w w':World} {k:Nat} (h:w'.heap[k]? = w.heap[k]?) (o:Nat):w'.cell? ⟨k,o,none⟩ = w.cell? ⟨k,o,none⟩∧w'.frozen? ⟨k,o,none⟩ = w.frozen? ⟨k,o,none⟩:=by
 unfold World.cell? World.frozen?
 simp only [h,and_self]
structure Brd (W:World) (b:Nat) (g:Option Nat) (n:Nat) (M:Bov):Prop where
 lt:b < W.heap.size
 cell:W.cell? ⟨b,0,none⟩ = some (.map g)
 fz:W.frozen? ⟨b,0,none⟩ = false
 ne:g≠some b
 ok:BdOk M
 map:match g with | none=>M = bz | some g=>MapB W g n M
theorem MapB.lt {W:World} {g n:Nat} {M:Bov} (h:MapB W g n M):g < W.heap.size:=by obtain ⟨D,h,_⟩:=h;exact h.lt
theorem MapB.keep {W W':World} {g n:Nat} {M:Bov} (h:MapB W g n M) (e:W'.heap[g]? = W.heap[g]?):MapB W' g n M:=by
 obtain ⟨D,⟨es,clock,hb,r⟩,hR⟩:=h
 exact ⟨D,⟨es,clock,e.trans hb,r⟩,hR⟩
theorem Brd.keep {W W':World} {b n:Nat} {g:Option Nat} {M:Bov} (h:Brd W b g n M) {S:Nat→Prop} (e:ExtS S W W') (hb:¬ S b) (hg:∀ k,g = some k→¬ S k):Brd W' b g n M:=by
 have k:=cell_of_heap (e.block b h.lt hb) 0
 refine ⟨llL h.lt e.size,k.1.trans h.cell,k.2.trans h.fz,h.ne,h.ok,?_⟩
 cases g with
 | none=>exact h.map
 | some g=>exact MapB.keep h.map (e.block g (MapB.lt h.map) (hg g rfl))
theorem Brd.ext {W W':World} {b n:Nat} {g:Option Nat} {M:Bov} (h:Brd W b g n M) (e:Ext W W'):Brd W' b g n M:=h.keep (e.toS (fun _=>False)) (fun h=>h) (fun _ _ h=>h)
theorem zeroV (W:World):(zeroValue 33).run Tryz.prog W = .ok V.blank.dat W:=J3
theorem new_any (W:World):Calls Tryz.prog 26 #[] W fun e w'=>e = .returned (.pointer (some ⟨W.heap.size,0,none⟩))∧Brd w' W.heap.size none 0 bz∧Ext W w':=by
 go_enter func26,ntmps26
 go_wp2_with fail
 go_ret
 refine ⟨rfl,⟨by simp,by simp [go_sem],by simp [go_sem],by simp,bz_ok,rfl⟩,xr.alloc _⟩
theorem wpList_look {P:Program} (w:World) {ops:Array Oper} {rest:List Oper} {o:Oper} {a:Act} {Q:Exit→Act→World→Prop} (hg:o.guard = none) (m x:Operand) (t:TypeId) (hop:o.op = Op.lookup t m x false)
   (mv xv v:Value) (hm:a.eval m = mv) (hx:a.eval x = xv) (hrun:(Instr.lookup t mv xv false).run P w = .ok v w) (hK:wpList P ops Q rest (a.put o.dst v) w):wpList P ops Q (o :: rest) a w:=by
 refine wpList_plain hg fun K' hK'=>?_
 unfold Oper.wp
 simp [execOp,hop,hm,hx,hrun,Result.andThen]
 exact hK' _ _ hK
theorem Brd.look {W:World} {b n:Nat} {g:Option Nat} {M:Bov} (h:Brd W b g n M) (r c:Int) (hr:I64 r) (hc:I64 c):(Instr.lookup 64 (.map g) (.agg #[.int .i64 r,.int .i64 c]) false).run Tryz.prog W = .ok (M r c).dat W:=by
 cases g with
 | none =>
   have hm:M = bz:=h.map
   subst hm
   exact Maps.look_nil false kLaw Tryz.underlying64 (zeroV W) (key_mk r c hr hc)
 | some g =>
   obtain ⟨D,h1,h2⟩:=(show MapB W g n M from h.map)
   obtain ⟨v,ps,h3,h4⟩:=h1.lookup kLaw Tryz.underlying64 (zeroV W) (zd:=.held V.blank.dat) (zp:=[]) rfl (key_mk r c hr hc)
   rw [(h2 r c hr hc).1] at h4
   unfold hR at h4
   simp at h4
   rw [← h4.1]
   exact h3
theorem get_any (W:World) (b n:Nat) (g:Option Nat) (M:Bov) (h:Brd W b g n M) (r c:Int) (hr:I64 r) (hc:I64 c) :
   Calls Tryz.prog 10 #[.pointer (some ⟨b,0,none⟩),.int .i64 r,.int .i64 c] W fun e w'=>e = .returned (M r c).dat∧Ext W w':=by
 have h1:=fun W' (e:Ext W W')=>(h.ext e).look r c hr hc
 have h2:=fun W' (e:Ext W W')=>(h.ext e).cell
 have hrun:=h1 _ ((Ext.refl W).alloc (.cells #[.int .i64 0,.int .i64 0,.string ⟨#[]⟩,.int .i64 0] 33))
 have hcell:=h2 _ ((Ext.refl W).alloc (.cells #[.int .i64 0,.int .i64 0,.string ⟨#[]⟩,.int .i64 0] 33))
 clear h1 h2
 rw [dat_eq] at hrun ⊢
 generalize M r c = v at *
 clear h hr hc
 have Hrun:Hid _:=hrun
 clear hrun
 go_enter func10,ntmps10
 go_wp2_with (at_lookup;refine wpList_look _ rfl _ _ _ rfl _ _ _ rfl rfl Hrun.out ?_)
 exact finB (blk_top (w:=W) rfl xr) rfl (xr.alloc _) (fun g0 g1 g2 g3=>by simp [results,results10,go_sem]) (fun h=>⟨rfl,h⟩)
theorem MapB.mono {W:World} {g n m:Nat} {M:Bov} (h:MapB W g n M) (e:n≤m):MapB W g m M:=by
 obtain ⟨D,h1,h2⟩:=h
 exact ⟨D,h1.mono e,h2⟩
theorem Brd.mono {W:World} {b n m:Nat} {g:Option Nat} {M:Bov} (h:Brd W b g n M) (e:n≤m):Brd W b g m M:=by
 refine ⟨h.lt,h.cell,h.fz,h.ne,h.ok,?_⟩
 have:=h.map
 cases g with
 | none=>exact this
 | some g=>exact MapB.mono this e
theorem step_delete {P:Program} {ops:Array Oper} {o:Oper} {a:Act} {w:World} {K:Act→World→Prop} {Q:Exit→Act→World→Prop} {E:Prop}
   (hg:o.guard = none) (m x:Operand) (t k:TypeId) (hop:o.op = Op.call { callee:=Callee.builtin Builtin.delete,args:=#[m,x],argTypes:=#[t,k] }) (mv xv:Value) (hm:a.eval m = mv) (hx:a.eval x = xv) (w':World)
   (hrun:(Builtin.delete_ #[t,k] o.type #[mv,xv]).run P w = .ok (.tuple #[]) w') (hK:K (a.put o.dst (.tuple #[])) w'):if Region.wanted o (yielded ops a.tmps) = true then Oper.wp P o a w K Q else E:=by
 have hw:Region.wanted o (yielded ops a.tmps) = true:=by simp [Region.wanted,hg]
 rw [if_pos hw]
 unfold Oper.wp
 simp [execOp,hop,resolve,invoke,builtin,hm,hx,hrun,Result.andThen]
 exact hK
theorem step_update {P:Program} {ops:Array Oper} {o:Oper} {a:Act} {w:World} {K:Act→World→Prop} {Q:Exit→Act→World→Prop} {E:Prop}
   (hg:o.guard = none) (m x v:Operand) (t:TypeId) (hop:o.op = Op.mapUpdate t m x v) (mv xv vv:Value) (hm:a.eval m = mv) (hx:a.eval x = xv) (hv:a.eval v = vv) (w':World)
   (hrun:(Instr.mapUpdate t mv xv vv).run P w = .ok () w') (hK:K (a.put o.dst undef) w'):if Region.wanted o (yielded ops a.tmps) = true then Oper.wp P o a w K Q else E:=by
 have hw:Region.wanted o (yielded ops a.tmps) = true:=by simp [Region.wanted,hg]
 rw [if_pos hw]
 unfold Oper.wp
 simp [execOp,hop,hm,hx,hv,hrun,Result.andThen]
 exact hK
theorem grown_extS {W W2 w9:World} {g:Nat} {S:Nat→Prop} (X:Ext W W2) (h:W2.grownBy w9 (some g)) (hS:S g):ExtS S W w9 :=
 ⟨h.os.trans X.os,h.tape.trans X.tape,h.output.trans X.output,Nat.le_trans X.size h.size,fun k hk hs=>(h.block k (llL hk X.size) (fun e=>by cases e;exact hs hS)).trans (X.block k hk)⟩
theorem eq_map1 (g:Nat) (W:World):(binOp .eql 64 (.map (some g)) (.map none)).run Tryz.prog W = .ok (.bool false) W:=by
 have h:=Tryz.underlying64
 exact K62
theorem eq_map0 (W:World):(binOp .eql 64 (.map none) (.map none)).run Tryz.prog W = .ok (.bool true) W:=by
 have h:=Tryz.underlying64
 exact K62
theorem grown_drew {W2 w9:World} {row:Option Nat} (h:W2.drew.grownBy w9 row):W2.grownBy w9 row:=⟨h.os,h.tape,h.output,h.size,h.block⟩
theorem grown_extT {W W2 w9:World} {g:Nat} {S:Nat→Prop} (X:ExtS S W W2) (h:W2.grownBy w9 (some g)) (hS:S g∨W.heap.size≤g):ExtS S W w9 :=
 ⟨h.os.trans X.os,h.tape.trans X.tape,h.output.trans X.output,Nat.le_trans X.size h.size,fun k hk hs=>(h.block k (llL hk X.size) (fun e=>by
   cases e
   rcases hS with hS | hS
   · exact hs hS
   · omega)).trans (X.block k hk hs)⟩
theorem Brd.turn {W2 w9:World} {b g n n':Nat} {M M':Bov} (h:Brd W2 b (some g) n M) (hg:W2.grownBy w9 (some g)) (hm:MapB w9 g n' M') (ok:BdOk M'):Brd w9 b (some g) n' M':=by
 have hne:some b≠some g:=fun e=>h.ne e.symm
 have k:=cell_of_heap (hg.block b h.lt hne) 0
 exact ⟨llL h.lt hg.size,k.1.trans h.cell,k.2.trans h.fz,h.ne,ok,hm⟩
theorem bput_ok {M:Bov} (h:BdOk M) {r c:Int} (hi:inB r c = true) {v:V} (hv:v.ok):BdOk (bput M r c v):=by
 have:=bset_ok h r c v hv
 unfold bset at this
 rwa [if_pos hi] at this
theorem in_i {r c:Int} (h:inB r c = true):I64 r∧I64 c:=by simp [inB] at h;exact ⟨⟨by omega,by omega⟩,⟨by omega,by omega⟩⟩
def PutQ (W:World) (b n:Nat) (g:Option Nat) (M:Bov) (e:Ending) (w':World):Prop :=
 e = .returned (.tuple #[])∧∃ g',Brd w' b g' (n+1) M∧(g' = g∨(g = none∧∃ q,g' = some q∧W.heap.size≤q))∧ExtS (fun k=>k = b∨g = some k) W w'
theorem put_out (W:World) (b n:Nat) (g:Option Nat) (M:Bov) (h:Brd W b g n M) (r c k nn:Int) (s:ByteArray) (e:Int) (hi:inB r c = false) :
   Calls Tryz.prog 22 #[.pointer (some ⟨b,0,none⟩),.int .i64 r,.int .i64 c,.agg #[.int .i64 k,.int .i64 nn,.string s,.int .i64 e]] W (PutQ W b n g M):=by
 have c1:=fun W=>in_any r c W
 rw [hi] at c1
 have H:Hid (Brd W b g n M):=h
 clear h hi
 go_enter func22,ntmps22
 go_wp2_with fail
 refine (c1 _).mono ?_
 rintro e w1 ⟨rfl,rfl⟩
 go_wp2_with fail
 refine bodyPost_ret (v:=.tuple #[]) J42 rfl ?_
 exact ⟨rfl,g,(H.out.ext (xr.alloc _)).mono (Nat.le_succ _),.inl rfl,(xr.alloc _).toS _⟩
theorem put_del0 (W:World) (b n:Nat) (M:Bov) (h:Brd W b none n M) (r c k nn:Int) (s:ByteArray) (e:Int) (hi:inB r c = true) (hv:nm k nn s e = .blank) (hN:Nm W) :
   Calls Tryz.prog 22 #[.pointer (some ⟨b,0,none⟩),.int .i64 r,.int .i64 c,.agg #[.int .i64 k,.int .i64 nn,.string s,.int .i64 e]] W (PutQ W b n none (bput M r c .blank)):=by
 have c1:=fun W=>in_any r c W
 rw [hi] at c1
 have HI:Hid (inB r c = true):=hi
 have c2:=fun W' (e1:Ext W W')=>vnormal_any k nn s e W' (hN.ext e1)
 rw [hv] at c2
 simp only [V.dat] at c2
 have H:Hid (Brd W b none n M):=h
 clear hv
 clear h hi hN
 go_enter func22,ntmps22
 go_wp2_with fail
 refine (c1 _).mono ?_
 rintro e w1 ⟨rfl,rfl⟩
 go_wp2_with fail
 refine (c2 _ (xr.alloc _)).mono ?_
 rintro e w1 ⟨rfl,E1⟩
 have B1:=blk_top (b:=W.heap.size) J65 E1
 have X1:Hid (Ext W w1):=(xr.alloc _).trans E1
 have D0:=B1
 obtain ⟨b0z,⟨b0_0,b0_1,b0_2,b0_3⟩,b0f0,b0f1,b0f2,b0f3⟩:=D0
 clear c1 c2 E1
 go_wp2_with fail
 obtain ⟨W2,hW2⟩:∃ W2,W2 = (((((w1.setCell ⟨W.heap.size,0,none⟩ (.int .i64 0)).setCell ⟨W.heap.size,1,none⟩ (.int .i64 0)).setCell ⟨W.heap.size,2,none⟩ (.string ⟨#[]⟩)).setCell ⟨W.heap.size,3,none⟩ (.int .i64 0)).alloc (.cells #[.int .i64 r,.int .i64 c] 24)):=⟨_,rfl⟩
 have X2:Ext W W2:=by
   exact K84
 have BV:Blk W2 W.heap.size (.int .i64 0) (.int .i64 0) (.string ⟨#[]⟩) (.int .i64 0):=by
   exact K177
 have BP:W2.cell? ⟨w1.heap.size,0,none⟩ = some (.int .i64 r)∧W2.cell? ⟨w1.heap.size,1,none⟩ = some (.int .i64 c)∧w1.heap.size < W2.heap.size∧W.heap.size≤w1.heap.size∧W2.heap.size = w1.heap.size+1:=by
   exact K74
 rw [← hW2]
 clear hW2 b0_0 b0_1 b0_2 b0_3 b0f0 b0f1 b0f2 b0f3 b0z BV B1 X1
 have hB2:=H.out.ext X2
 clear H
 obtain ⟨iR,iC⟩:=in_i HI.out
 obtain ⟨p0,p1,p2,p3,p4⟩:=BP
 have HR:Hid (∀ ty,(Builtin.delete_ #[64,24] ty #[.map none,.agg #[.int .i64 r,.int .i64 c]]).run Tryz.prog W2.drew = .ok (.tuple #[]) W2.drew):=fun ty=>Maps.drop_nil kLaw Tryz.underlying64 (key_mk r c iR iC) ty
 have HQ:Hid (PutQ W b n none (bput M r c .blank) (.returned (.tuple #[])) W2.drew):=by
   refine ⟨rfl,none,?_,.inl rfl,X2.drew.toS _⟩
   have hm:M = bz:=hB2.map
   subst hm
   have e:bput bz r c .blank = bz:=by funext r' c';unfold bput bz;split <;> rfl
   rw [e]
   exact (hB2.ext xr.drew).mono (Nat.le_succ _)
 obtain ⟨w9,hw9⟩:∃ w9,w9 = W2.drew:=⟨_,rfl⟩
 have HB:Hid (w9.cell? ⟨b,0,none⟩ = some (.map none)∧w9.cell? ⟨w1.heap.size,0,none⟩ = some (.int .i64 r)∧w9.cell? ⟨w1.heap.size,1,none⟩ = some (.int .i64 c)):=by rw [hw9];exact ⟨hB2.cell,p0,p1⟩
 rw [← hw9] at HQ
 have HR2:Hid (∀ ty,(Builtin.delete_ #[64,24] ty #[.map none,.agg #[.int .i64 r,.int .i64 c]]).run Tryz.prog W2.drew = .ok (.tuple #[]) w9):=by rw [hw9];exact HR.out
 clear hw9 HR
 have HA:Hid (W2.drew.cell? ⟨b,0,none⟩ = some (.map none)∧W2.drew.cell? ⟨w1.heap.size,0,none⟩ = some (.int .i64 r)∧W2.drew.cell? ⟨w1.heap.size,1,none⟩ = some (.int .i64 c)):=⟨hB2.cell,p0,p1⟩
 clear hB2 p0 p1 p3 iR iC HI X2 p4
 generalize w1.heap.size = P2 at *
 refine wp_region_held_drew (S:=(fun W3=>W3.cell? ⟨b,0,none⟩ = some (.map none)∧W3.cell? ⟨P2,0,none⟩ = some (.int .i64 r)∧W3.cell? ⟨P2,1,none⟩ = some (.int .i64 c))) J3 ?_ (fun hHeld0=>?_)
 · (first | exact HA.out | exact HB.out)
 exact K23
theorem put_del1 (W:World) (b n:Nat) (g:Nat) (M:Bov) (h:Brd W b (some g) n M) (r c k nn:Int) (s:ByteArray) (e:Int) (hi:inB r c = true) (hv:nm k nn s e = .blank) (hN:Nm W) :
   Calls Tryz.prog 22 #[.pointer (some ⟨b,0,none⟩),.int .i64 r,.int .i64 c,.agg #[.int .i64 k,.int .i64 nn,.string s,.int .i64 e]] W (PutQ W b n (some g) (bput M r c .blank)):=by
 have c1:=fun W=>in_any r c W
 rw [hi] at c1
 have HI:Hid (inB r c = true):=hi
 have c2:=fun W' (e1:Ext W W')=>vnormal_any k nn s e W' (hN.ext e1)
 rw [hv] at c2
 simp only [V.dat] at c2
 have H:Hid (Brd W b (some g) n M):=h
 clear hv
 clear h hi hN
 go_enter func22,ntmps22
 go_wp2_with fail
 refine (c1 _).mono ?_
 rintro e w1 ⟨rfl,rfl⟩
 go_wp2_with fail
 refine (c2 _ (xr.alloc _)).mono ?_
 rintro e w1 ⟨rfl,E1⟩
 have B1:=blk_top (b:=W.heap.size) J65 E1
 have X1:Hid (Ext W w1):=(xr.alloc _).trans E1
 have D0:=B1
 obtain ⟨b0z,⟨b0_0,b0_1,b0_2,b0_3⟩,b0f0,b0f1,b0f2,b0f3⟩:=D0
 clear c1 c2 E1
 go_wp2_with fail
 obtain ⟨W2,hW2⟩:∃ W2,W2 = (((((w1.setCell ⟨W.heap.size,0,none⟩ (.int .i64 0)).setCell ⟨W.heap.size,1,none⟩ (.int .i64 0)).setCell ⟨W.heap.size,2,none⟩ (.string ⟨#[]⟩)).setCell ⟨W.heap.size,3,none⟩ (.int .i64 0)).alloc (.cells #[.int .i64 r,.int .i64 c] 24)):=⟨_,rfl⟩
 have X2:Ext W W2:=by
   exact K84
 have BV:Blk W2 W.heap.size (.int .i64 0) (.int .i64 0) (.string ⟨#[]⟩) (.int .i64 0):=by
   exact K177
 have BP:W2.cell? ⟨w1.heap.size,0,none⟩ = some (.int .i64 r)∧W2.cell? ⟨w1.heap.size,1,none⟩ = some (.int .i64 c)∧w1.heap.size < W2.heap.size∧W.heap.size≤w1.heap.size∧W2.heap.size = w1.heap.size+1:=by
   exact K74
 rw [← hW2]
 clear hW2 b0_0 b0_1 b0_2 b0_3 b0f0 b0f1 b0f2 b0f3 b0z BV B1 X1
 have hB2:=H.out.ext X2
 clear H
 obtain ⟨iR,iC⟩:=in_i HI.out
 obtain ⟨p0,p1,p2,p3,p4⟩:=BP
 obtain ⟨D,own,rel⟩:=(show MapB W2 g n M from hB2.map)
 obtain ⟨w9,hrun,own9,turn⟩:∃ w9,(∀ ty,(Builtin.delete_ #[64,24] ty #[.map (some g),.agg #[.int .i64 r,.int .i64 c]]).run Tryz.prog W2.drew = .ok (.tuple #[]) w9)∧w9.ownsMap Tryz.prog 24 hR g n (D.del (kl r c))∧W2.drew.mapTurned w9 g:=by
   obtain ⟨w9,h1,h2,h3⟩:=World.ownsMap.drop (w:=W2.drew) own kLaw Tryz.underlying64 (key_mk r c iR iC) 0
   exact ⟨w9,fun _=>h1,h2,h3⟩
 have HR2:Hid (∀ ty,(Builtin.delete_ #[64,24] ty #[.map (some g),.agg #[.int .i64 r,.int .i64 c]]).run Tryz.prog W2.drew = .ok (.tuple #[]) w9):=hrun
 have tg:W2.grownBy w9 (some g):=grown_drew turn.grown
 have gW:g < W2.heap.size:=own.lt
 have HQ:Hid (PutQ W b n (some g) (bput M r c .blank) (.returned (.tuple #[])) w9) :=
   ⟨rfl,some g,hB2.turn tg (MapB.mono ⟨_,own9,rel_del rel r c iR iC⟩ (Nat.le_succ _)) (bput_ok hB2.ok HI.out trivial),.inl rfl,grown_extS X2 tg (.inr rfl)⟩
 have hpg:w1.heap.size≠g:=by
   intro e
   obtain ⟨es,clock,hb,_⟩:=own
   rw [← e] at hb
   unfold World.cell? at p0
   simp only [hb] at p0
   cases p0
 have HB:Hid (w9.cell? ⟨b,0,none⟩ = some (.map (some g))∧w9.cell? ⟨w1.heap.size,0,none⟩ = some (.int .i64 r)∧w9.cell? ⟨w1.heap.size,1,none⟩ = some (.int .i64 c)):=by
   have kp:=fun o=>cell_of_heap (tg.block w1.heap.size p2 (fun e=>hpg (Option.some.inj e))) o
   have kb:=cell_of_heap (tg.block b hB2.lt (fun e=>hB2.ne e.symm)) 0
   exact ⟨kb.1.trans hB2.cell,(kp 0).1.trans p0,(kp 1).1.trans p1⟩
 clear hrun own9 turn tg hpg own rel gW
 have HA:Hid (W2.drew.cell? ⟨b,0,none⟩ = some (.map (some g))∧W2.drew.cell? ⟨w1.heap.size,0,none⟩ = some (.int .i64 r)∧W2.drew.cell? ⟨w1.heap.size,1,none⟩ = some (.int .i64 c)):=⟨hB2.cell,p0,p1⟩
 clear hB2 p0 p1 p3 iR iC HI X2 p4
 generalize w1.heap.size = P2 at *
 refine wp_region_held_drew (S:=(fun W3=>W3.cell? ⟨b,0,none⟩ = some (.map (some g))∧W3.cell? ⟨P2,0,none⟩ = some (.int .i64 r)∧W3.cell? ⟨P2,1,none⟩ = some (.int .i64 c))) J3 ?_ (fun hHeld0=>?_)
 · (first | exact HA.out | exact HB.out)
 exact K23
theorem put_set (W:World) (b n:Nat) (g:Nat) (M:Bov) (h:Brd W b (some g) n M) (hn:n < 1000000) (r c k nn:Int) (s:ByteArray) (e:Int) (hi:inB r c = true) (v:V) (hv:nm k nn s e = v) (hk:v.k≠0) (ok:v.ok) (hN:Nm W) :
   Calls Tryz.prog 22 #[.pointer (some ⟨b,0,none⟩),.int .i64 r,.int .i64 c,.agg #[.int .i64 k,.int .i64 nn,.string s,.int .i64 e]] W (PutQ W b n (some g) (bput M r c v)):=by
 have c1:=fun W=>in_any r c W
 rw [hi] at c1
 have HI:Hid (inB r c = true):=hi
 have c2:=fun W' (e1:Ext W W')=>vnormal_any k nn s e W' (hN.ext e1)
 rw [hv,dat_eq] at c2
 have H:Hid (Brd W b (some g) n M):=h
 have HK:Hid (v.k≠0∧v.ok∧n < 1000000):=⟨hk,ok,hn⟩
 have k0:(v.k == 0) = false:=J96
 obtain ⟨vk,vn,vs,ve,hvv⟩:∃ vk vn vs ve,v.k = vk∧v.n = vn∧v.s = vs∧v.e = ve:=⟨_,_,_,_,rfl,rfl,rfl,rfl⟩
 have HV:Hid (v.k = vk∧v.n = vn∧v.s = vs∧v.e = ve):=hvv
 obtain ⟨q1,q2,q3,q4⟩:=hvv
 rw [q1,q2,q3,q4] at c2
 rw [q1] at k0
 clear hv hk ok hn q1 q2 q3 q4
 clear h hi hN
 go_enter func22,ntmps22
 go_wp2_with fail
 refine (c1 _).mono ?_
 rintro e w1 ⟨rfl,rfl⟩
 go_wp2_with fail
 refine (c2 _ (xr.alloc _)).mono ?_
 rintro e w1 ⟨rfl,E1⟩
 have B1:=blk_top (b:=W.heap.size) J65 E1
 have X1:Hid (Ext W w1):=(xr.alloc _).trans E1
 have D0:=B1
 obtain ⟨b0z,⟨b0_0,b0_1,b0_2,b0_3⟩,b0f0,b0f1,b0f2,b0f3⟩:=D0
 clear c1 c2 E1
 obtain ⟨W2,hW2⟩:∃ W2,W2 = (((((w1.setCell ⟨W.heap.size,0,none⟩ (.int .i64 vk)).setCell ⟨W.heap.size,1,none⟩ (.int .i64 vn)).setCell ⟨W.heap.size,2,none⟩ (.string vs)).setCell ⟨W.heap.size,3,none⟩ (.int .i64 ve)).alloc (.cells #[.int .i64 r,.int .i64 c] 24)):=⟨_,rfl⟩
 have X2:Ext W W2:=by
   exact K84
 have BV:Blk W2 W.heap.size (.int .i64 vk) (.int .i64 vn) (.string vs) (.int .i64 ve):=by
   exact K177
 have BP:W2.cell? ⟨w1.heap.size,0,none⟩ = some (.int .i64 r)∧W2.cell? ⟨w1.heap.size,1,none⟩ = some (.int .i64 c)∧w1.heap.size < W2.heap.size∧W.heap.size≤w1.heap.size∧W2.heap.size = w1.heap.size+1:=by
   exact K74
 have hB2:=H.out.ext X2
 clear H
 have bc:=hB2.cell
 have bf:=hB2.fz
 rw [hW2] at bc bf
 have qm:=eq_map1 g
 go_wp2_with fail
 clear qm
 rw [← hW2]
 clear hW2 bc bf b0_0 b0_1 b0_2 b0_3 b0f0 b0f1 b0f2 b0f3 b0z B1 X1
 obtain ⟨iR,iC⟩:=in_i HI.out
 obtain ⟨p0,p1,p2,p3,p4⟩:=BP
 obtain ⟨zV,⟨v0,v1,v2,v3⟩,_⟩:=BV
 obtain ⟨D,own,rel⟩:=(show MapB W2 g n M from hB2.map)
 obtain ⟨w9,hrun,own9,turn⟩:=World.ownsMap.store (w:=W2.drew) (n:=n) own kLaw Tryz.underlying64 (by have:=HK.out.2.2;unfold maxLen;omega) (val:=.agg #[.int .i64 vk,.int .i64 vn,.string vs,.int .i64 ve]) (d:=.held (.agg #[.int .i64 vk,.int .i64 vn,.string vs,.int .i64 ve])) (ps:=[]) (key_mk r c iR iC) rfl
 have HR2:Hid ((Instr.mapUpdate 64 (.map (some g)) (.agg #[.int .i64 r,.int .i64 c]) (.agg #[.int .i64 vk,.int .i64 vn,.string vs,.int .i64 ve])).run Tryz.prog W2.drew = .ok () w9):=hrun
 have tg:W2.grownBy w9 (some g):=grown_drew turn.grown
 have HQ:Hid (PutQ W b n (some g) (bput M r c v) (.returned (.tuple #[])) w9):=by
   obtain ⟨h1,h2,h3⟩:=HK.out
   obtain ⟨q1,q2,q3,q4⟩:=HV.out
   have hd:v.dat = .agg #[.int .i64 vk,.int .i64 vn,.string vs,.int .i64 ve]:=by rw [dat_eq,q1,q2,q3,q4]
   rw [← hd] at own9
   exact ⟨rfl,some g,hB2.turn tg ⟨_,own9,rel_put rel own.isMap r c iR iC v h1⟩ (bput_ok hB2.ok HI.out h2),.inl rfl,grown_extS X2 tg (.inr rfl)⟩
 have hne:∀ k u,k < W2.heap.size→W2.cell? ⟨k,0,none⟩ = some u→some k≠some g:=by
   exact K145
 have kk:=fun k u (h1:k < W2.heap.size) (h2:W2.cell? ⟨k,0,none⟩ = some u) o=>(cell_of_heap (tg.block k h1 (hne k u h1 h2)) o).1
 have HB:Hid (w9.cell? ⟨b,0,none⟩ = some (.map (some g))∧w9.cell? ⟨w1.heap.size,0,none⟩ = some (.int .i64 r)∧w9.cell? ⟨w1.heap.size,1,none⟩ = some (.int .i64 c)∧w9.cell? ⟨W.heap.size,0,none⟩ = some (.int .i64 vk)∧w9.cell? ⟨W.heap.size,1,none⟩ = some (.int .i64 vn)∧w9.cell? ⟨W.heap.size,2,none⟩ = some (.string vs)∧w9.cell? ⟨W.heap.size,3,none⟩ = some (.int .i64 ve)) :=
   ⟨(kk b _ hB2.lt hB2.cell 0).trans hB2.cell,(kk _ _ p2 p0 0).trans p0,(kk _ _ p2 p0 1).trans p1,(kk _ _ zV v0 0).trans v0,(kk _ _ zV v0 1).trans v1,(kk _ _ zV v0 2).trans v2,(kk _ _ zV v0 3).trans v3⟩
 have HA:Hid (W2.drew.cell? ⟨b,0,none⟩ = some (.map (some g))∧W2.drew.cell? ⟨w1.heap.size,0,none⟩ = some (.int .i64 r)∧W2.drew.cell? ⟨w1.heap.size,1,none⟩ = some (.int .i64 c)∧W2.drew.cell? ⟨W.heap.size,0,none⟩ = some (.int .i64 vk)∧W2.drew.cell? ⟨W.heap.size,1,none⟩ = some (.int .i64 vn)∧W2.drew.cell? ⟨W.heap.size,2,none⟩ = some (.string vs)∧W2.drew.cell? ⟨W.heap.size,3,none⟩ = some (.int .i64 ve)):=⟨hB2.cell,p0,p1,v0,v1,v2,v3⟩
 clear hB2 p0 p1 p2 p3 p4 iR iC HI X2 hrun own9 turn tg own rel kk hne v0 v1 v2 v3 zV HK HV
 exact K13
theorem put_new (W:World) (b n:Nat) (M:Bov) (h:Brd W b none n M) (hn:n < 1000000) (r c k nn:Int) (s:ByteArray) (e:Int) (hi:inB r c = true) (v:V) (hv:nm k nn s e = v) (hk:v.k≠0) (ok:v.ok) (hN:Nm W) :
   Calls Tryz.prog 22 #[.pointer (some ⟨b,0,none⟩),.int .i64 r,.int .i64 c,.agg #[.int .i64 k,.int .i64 nn,.string s,.int .i64 e]] W (PutQ W b n none (bput M r c v)):=by
 have c1:=fun W=>in_any r c W
 rw [hi] at c1
 have HI:Hid (inB r c = true):=hi
 have c2:=fun W' (e1:Ext W W')=>vnormal_any k nn s e W' (hN.ext e1)
 rw [hv,dat_eq] at c2
 have H:Hid (Brd W b none n M):=h
 have HK:Hid (v.k≠0∧v.ok∧n < 1000000):=⟨hk,ok,hn⟩
 have k0:(v.k == 0) = false:=J96
 obtain ⟨vk,vn,vs,ve,hvv⟩:∃ vk vn vs ve,v.k = vk∧v.n = vn∧v.s = vs∧v.e = ve:=⟨_,_,_,_,rfl,rfl,rfl,rfl⟩
 have HV:Hid (v.k = vk∧v.n = vn∧v.s = vs∧v.e = ve):=hvv
 obtain ⟨q1,q2,q3,q4⟩:=hvv
 rw [q1,q2,q3,q4] at c2
 rw [q1] at k0
 clear hv hk ok hn q1 q2 q3 q4
 clear h hi hN
 go_enter func22,ntmps22
 go_wp2_with fail
 refine (c1 _).mono ?_
 rintro e w1 ⟨rfl,rfl⟩
 go_wp2_with fail
 refine (c2 _ (xr.alloc _)).mono ?_
 rintro e w1 ⟨rfl,E1⟩
 have B1:=blk_top (b:=W.heap.size) J65 E1
 have X1:Hid (Ext W w1):=(xr.alloc _).trans E1
 have D0:=B1
 obtain ⟨b0z,⟨b0_0,b0_1,b0_2,b0_3⟩,b0f0,b0f1,b0f2,b0f3⟩:=D0
 clear c1 c2 E1
 have hmm:=@run_makeMap Tryz.prog
 obtain ⟨W2,hW2⟩:∃ W2,W2 = (((((w1.setCell ⟨W.heap.size,0,none⟩ (.int .i64 vk)).setCell ⟨W.heap.size,1,none⟩ (.int .i64 vn)).setCell ⟨W.heap.size,2,none⟩ (.string vs)).setCell ⟨W.heap.size,3,none⟩ (.int .i64 ve)).alloc (.cells #[.int .i64 r,.int .i64 c] 24)):=⟨_,rfl⟩
 have X2:Ext W W2:=by
   exact K84
 have BV:Blk W2 W.heap.size (.int .i64 vk) (.int .i64 vn) (.string vs) (.int .i64 ve):=by
   exact K177
 have BP:W2.cell? ⟨w1.heap.size,0,none⟩ = some (.int .i64 r)∧W2.cell? ⟨w1.heap.size,1,none⟩ = some (.int .i64 c)∧w1.heap.size < W2.heap.size∧W.heap.size≤w1.heap.size∧W2.heap.size = w1.heap.size+1:=by
   exact K74
 have hB2:=H.out.ext X2
 clear H
 have bc:=hB2.cell
 have bf:=hB2.fz
 go_upto_region 5 with fail
 rw [← hW2]
 clear hW2 b0_0 b0_1 b0_2 b0_3 b0f0 b0f1 b0f2 b0f3 b0z B1 X1
 have qm:=eq_map0
 have HP:Hid _:=BP
 have HV2:Hid _:=BV
 have HX2:Hid _:=X2
 have HB2:Hid _:=hB2
 clear BP BV X2
 have bc2:=(hB2.ext (xr.alloc (.map #[] 0))).cell
 have bf2:=(hB2.ext (xr.alloc (.map #[] 0))).fz
 clear hB2
 go_wp2_with fail
 clear qm bc bf bc2 bf2 hmm
 obtain ⟨p0,p1,p2,p3,p4⟩:=HP.out
 obtain ⟨zV,⟨v0,v1,v2,v3⟩,_⟩:=HV2.out
 obtain ⟨iR,iC⟩:=in_i HI.out
 have hB2:=HB2.out
 have X2:=HX2.out
 obtain ⟨g,hg⟩:∃ g,g = W2.heap.size:=⟨_,rfl⟩
 rw [← hg]
 obtain ⟨W4,hW4⟩:∃ W4,W4 = (W2.alloc (.map #[] 0)).setCell ⟨b,0,none⟩ (.map (some g)):=⟨_,rfl⟩
 rw [← hW4]
 have sz:W4.heap.size = W2.heap.size+1:=by rw [hW4];simp [go_sem]
 have kq:∀ k,k < W2.heap.size→k≠b→W4.heap[k]? = W2.heap[k]?:=by
   intro k hk hne
   rw [hW4,RowKit.Below.heap_setCell _ _ _ _ hne]
   exact ((Ext.refl W2).alloc (.map #[] 0)).block k hk
 have kg:W4.heap[g]? = some (.map #[] 0):=by
   have hne:g≠b:=by have:=hB2.lt;omega
   rw [hW4,RowKit.Below.heap_setCell _ _ _ _ hne,hg]
   exact (MapKept.heap_alloc W2 _).1
 have own:W4.ownsMap Tryz.prog 24 hR g 0 (.map []):=by
   have h0:=World.ownsMap_made W2 Tryz.prog 24 hR
   rw [← hg] at h0
   obtain ⟨es,clock,hb,rr⟩:=h0
   refine ⟨es,clock,?_,rr⟩
   rw [kg,← hb,hg]
   exact ((MapKept.heap_alloc W2 _).1).symm
 have hM:M = bz:=hB2.map
 have rel:RelD (.map []) M:=by rw [hM];exact rel_empty
 have hB4:Brd W4 b (some g) 0 M:=by
   refine ⟨by have:=hB2.lt;omega,?_,?_,fun e=>by cases e;have:=hB2.lt;omega,hB2.ok,⟨_,own,rel⟩⟩
   · rw [hW4];exact wSa _ ⟨b,0,none⟩ _ (by rw [(hB2.ext (xr.alloc _)).cell])
   · rw [hW4,wFz];exact (hB2.ext (xr.alloc _)).fz
 have X4:ExtS (fun k=>k = b∨none = some k) W W4:=by
   refine ⟨by rw [hW4];exact X2.os,by rw [hW4];exact X2.tape,by rw [hW4];exact X2.output,by have:=X2.size;omega,fun k hk hn=>?_⟩
   exact (kq k (llL hk X2.size) (fun e=>hn (.inl e))).trans (X2.block k hk)
 have hb0:w1.heap.size≠b:=by
   intro e
   have:=hB2.cell
   rw [← e,p0] at this
   cases this
 have hb1:W.heap.size≠b:=by
   intro e
   have:=hB2.cell
   rw [← e,v0] at this
   cases this
 have c1:=fun o=>(cell_of_heap (kq w1.heap.size p2 hb0) o).1
 have c2:=fun o=>(cell_of_heap (kq W.heap.size zV hb1) o).1
 have p0:=(c1 0).trans p0
 have p1:=(c1 1).trans p1
 have v0:=(c2 0).trans v0
 have v1:=(c2 1).trans v1
 have v2:=(c2 2).trans v2
 have v3:=(c2 3).trans v3
 have p2:w1.heap.size < W4.heap.size:=J2
 have zV:W.heap.size < W4.heap.size:=J2
 have hge:W.heap.size≤g:=by rw [hg];exact X2.size
 have isM:=own.isMap
 clear hB2 c1 c2 hb0 hb1 kg kq sz hW4 hg X2
 obtain ⟨w9,hrun,own9,turn⟩:=World.ownsMap.store (w:=W4.drew) (n:=0) own kLaw Tryz.underlying64 (by have:=HK.out.2.2;unfold maxLen;omega) (val:=.agg #[.int .i64 vk,.int .i64 vn,.string vs,.int .i64 ve]) (d:=.held (.agg #[.int .i64 vk,.int .i64 vn,.string vs,.int .i64 ve])) (ps:=[]) (key_mk r c iR iC) rfl
 have HR2:Hid ((Instr.mapUpdate 64 (.map (some g)) (.agg #[.int .i64 r,.int .i64 c]) (.agg #[.int .i64 vk,.int .i64 vn,.string vs,.int .i64 ve])).run Tryz.prog W4.drew = .ok () w9):=hrun
 have tg:W4.grownBy w9 (some g):=grown_drew turn.grown
 have HQ:Hid (PutQ W b n none (bput M r c v) (.returned (.tuple #[])) w9):=by
   obtain ⟨h1,h2,h3⟩:=HK.out
   obtain ⟨q1,q2,q3,q4⟩:=HV.out
   have hd:v.dat = .agg #[.int .i64 vk,.int .i64 vn,.string vs,.int .i64 ve]:=by rw [dat_eq,q1,q2,q3,q4]
   rw [← hd] at own9
   exact ⟨rfl,some g,(hB4.turn tg ⟨_,own9,rel_put rel isM r c iR iC v h1⟩ (bput_ok hB4.ok HI.out h2)).mono J2,.inr ⟨rfl,g,rfl,hge⟩,grown_extT X4 tg (.inr hge)⟩
 have hne:∀ k u,k < W4.heap.size→W4.cell? ⟨k,0,none⟩ = some u→some k≠some g:=by
   exact K145
 have kk:=fun k u (h1:k < W4.heap.size) (h2:W4.cell? ⟨k,0,none⟩ = some u) o=>(cell_of_heap (tg.block k h1 (hne k u h1 h2)) o).1
 have HB:Hid (w9.cell? ⟨b,0,none⟩ = some (.map (some g))∧w9.cell? ⟨w1.heap.size,0,none⟩ = some (.int .i64 r)∧w9.cell? ⟨w1.heap.size,1,none⟩ = some (.int .i64 c)∧w9.cell? ⟨W.heap.size,0,none⟩ = some (.int .i64 vk)∧w9.cell? ⟨W.heap.size,1,none⟩ = some (.int .i64 vn)∧w9.cell? ⟨W.heap.size,2,none⟩ = some (.string vs)∧w9.cell? ⟨W.heap.size,3,none⟩ = some (.int .i64 ve)) :=
   ⟨(kk b _ hB4.lt hB4.cell 0).trans hB4.cell,(kk _ _ p2 p0 0).trans p0,(kk _ _ p2 p0 1).trans p1,(kk _ _ zV v0 0).trans v0,(kk _ _ zV v0 1).trans v1,(kk _ _ zV v0 2).trans v2,(kk _ _ zV v0 3).trans v3⟩
 have HA:Hid (W4.drew.cell? ⟨b,0,none⟩ = some (.map (some g))∧W4.drew.cell? ⟨w1.heap.size,0,none⟩ = some (.int .i64 r)∧W4.drew.cell? ⟨w1.heap.size,1,none⟩ = some (.int .i64 c)∧W4.drew.cell? ⟨W.heap.size,0,none⟩ = some (.int .i64 vk)∧W4.drew.cell? ⟨W.heap.size,1,none⟩ = some (.int .i64 vn)∧W4.drew.cell? ⟨W.heap.size,2,none⟩ = some (.string vs)∧W4.drew.cell? ⟨W.heap.size,3,none⟩ = some (.int .i64 ve)):=⟨hB4.cell,p0,p1,v0,v1,v2,v3⟩
 clear hB4 p0 p1 p2 p3 p4 iR iC HI X4 hrun own9 turn tg own rel kk hne isM hge hM HP HV2 HX2 HB2 v0 v1 v2 v3 zV HK HV
 exact K13
theorem put_any (W:World) (b n:Nat) (g:Option Nat) (M:Bov) (h:Brd W b g n M) (hn:n < 1000000) (r c k nn:Int) (s:ByteArray) (e:Int) (hi:I64 nn) (hN:Nm W) :
   Calls Tryz.prog 22 #[.pointer (some ⟨b,0,none⟩),.int .i64 r,.int .i64 c,.agg #[.int .i64 k,.int .i64 nn,.string s,.int .i64 e]] W (PutQ W b n g (bset M r c (nm k nn s e))):=by
 unfold bset
 cases hb:inB r c with
 | false=>exact put_out W b n g M h r c k nn s e hb
 | true =>
   rw [if_pos rfl]
   by_cases hk:(nm k nn s e).k = 0
   · have hv:nm k nn s e = .blank:=by
       revert hk
       generalize nm k nn s e = v
       cases v <;> simp [V.k]
     rw [hv]
     cases g with
     | none=>exact put_del0 W b n M h r c k nn s e hb hv hN
     | some g=>exact put_del1 W b n g M h r c k nn s e hb hv hN
   · cases g with
     | none=>exact put_new W b n M h hn r c k nn s e hb _ rfl hk (nm_ok k nn s e hi) hN
     | some g=>exact put_set W b n g M h hn r c k nn s e hb _ rfl hk (nm_ok k nn s e hi) hN
def RdV (B:Nat) (W:World) (v:Value) (l:List Rw):Prop :=
 ∃ p c,v = .slice p l.length c∧l.length≤c∧(l = []∨∃ b off,p = some ⟨b,off,none⟩∧b < B∧b < W.heap.size∧∀ i r,l[i]? = some r →
   W.cell? ⟨b,off+i * 4,none⟩ = some (.int .i64 r.k)∧W.cell? ⟨b,off+i * 4+1,none⟩ = some (.int .i64 r.n)∧W.cell? ⟨b,off+i * 4+2,none⟩ = some (.string r.s)∧W.cell? ⟨b,off+i * 4+3,none⟩ = some (.int .i64 r.e))
theorem RdV.low {B:Nat} {W W':World} {v:Value} {l:List Rw} (h:RdV B W v l) (e:Below B W W'):RdV B W' v l:=by
 obtain ⟨p,c,h1,h2,h3⟩:=h
 refine ⟨p,c,h1,h2,?_⟩
 rcases h3 with h3 | ⟨b,off,h3,h4,h5,h6⟩
 · exact .inl h3
 · refine .inr ⟨b,off,h3,h4,llL h5 e.size,fun i r hr=>?_⟩
   have k:=fun o=>Below.cell e (p:=⟨b,o,none⟩) h4
   exact K146
theorem RdV.up {B B':Nat} {W:World} {v:Value} {l:List Rw} (h:RdV B W v l) (e:B≤B'):RdV B' W v l:=by
 obtain ⟨p,c,h1,h2,h3⟩:=h
 refine ⟨p,c,h1,h2,?_⟩
 rcases h3 with h3 | ⟨b,off,h3,h4,h5⟩
 · exact .inl h3
 · exact .inr ⟨b,off,h3,llL h4 e,h5⟩
theorem RdV.at {B:Nat} {W:World} {p:Option Addr} {c n:Nat} {l:List Rw} (h:RdV B W (.slice p n c) l) {i:Nat} (hi:i < l.length) :
   ∃ b off r,p = some ⟨b,off,none⟩∧l[i]? = some r∧b < B∧b < W.heap.size ∧
     W.cell? ⟨b,off+i * 4,none⟩ = some (.int .i64 r.k)∧W.cell? ⟨b,off+i * 4+1,none⟩ = some (.int .i64 r.n)∧W.cell? ⟨b,off+i * 4+2,none⟩ = some (.string r.s)∧W.cell? ⟨b,off+i * 4+3,none⟩ = some (.int .i64 r.e):=by
 obtain ⟨p',c',h1,h2,h3⟩:=h
 cases h1
 rcases h3 with h3 | ⟨b,off,h3,h4,h5,h6⟩
 · subst h3;simp at hi
 · exact ⟨b,off,_,h3,gEq hi,h4,h5,h6 i _ (gEq hi)⟩
theorem RdV.len {B:Nat} {W:World} {p:Option Addr} {c n:Nat} {l:List Rw} (h:RdV B W (.slice p n c) l):n = l.length:=by
 obtain ⟨p',c',h1,_⟩:=h
 cases h1;rfl
theorem RdV.form {B:Nat} {W:World} {v:Value} {l:List Rw} (h:RdV B W v l):∃ p n c,v = .slice p n c∧n = l.length∧n≤c:=by
 exact K104
def RdA (B:Nat) (W:World) (v:Value) (l:List Ag):Prop :=
 ∃ p c,v = .slice p l.length c∧l.length≤c∧(l = []∨∃ b off,p = some ⟨b,off,none⟩∧b < B∧b < W.heap.size∧∀ i a,l[i]? = some a→∃ (x y:Int) (lv:Value),
   W.cell? ⟨b,off+i * 4,none⟩ = some (.bool a.area)∧W.cell? ⟨b,off+i * 4+1,none⟩ = some (.int .i64 x)∧W.cell? ⟨b,off+i * 4+2,none⟩ = some (.int .i64 y)∧W.cell? ⟨b,off+i * 4+3,none⟩ = some lv∧RdV B W lv a.l)
theorem RdA.low {B:Nat} {W W':World} {v:Value} {l:List Ag} (h:RdA B W v l) (e:Below B W W'):RdA B W' v l:=by
 obtain ⟨p,c,h1,h2,h3⟩:=h
 refine ⟨p,c,h1,h2,?_⟩
 rcases h3 with h3 | ⟨b,off,h3,h4,h5,h6⟩
 · exact .inl h3
 · refine .inr ⟨b,off,h3,h4,llL h5 e.size,fun i r hr=>?_⟩
   have k:=fun o=>Below.cell e (p:=⟨b,o,none⟩) h4
   obtain ⟨x,y,lv,k0,k1,k2,k3,k4⟩:=h6 i r hr
   exact ⟨x,y,lv,(k _).trans k0,(k _).trans k1,(k _).trans k2,(k _).trans k3,k4.low e⟩
theorem RdA.up {B B':Nat} {W:World} {v:Value} {l:List Ag} (h:RdA B W v l) (e:B≤B'):RdA B' W v l:=by
 obtain ⟨p,c,h1,h2,h3⟩:=h
 refine ⟨p,c,h1,h2,?_⟩
 rcases h3 with h3 | ⟨b,off,h3,h4,h5,h6⟩
 · exact .inl h3
 · refine .inr ⟨b,off,h3,llL h4 e,h5,fun i r hr=>?_⟩
   obtain ⟨x,y,lv,k0,k1,k2,k3,k4⟩:=h6 i r hr
   exact ⟨x,y,lv,k0,k1,k2,k3,k4.up e⟩
theorem RdA.at {B:Nat} {W:World} {p:Option Addr} {c n:Nat} {l:List Ag} (h:RdA B W (.slice p n c) l) {i:Nat} (hi:i < l.length) :
   ∃ (b off:Nat) (a:Ag) (x y:Int) (lv:Value),p = some ⟨b,off,none⟩∧l[i]? = some a∧b < B∧b < W.heap.size ∧
     (W.cell? ⟨b,off+i * 4,none⟩ = some (.bool a.area)∧W.cell? ⟨b,off+i * 4+1,none⟩ = some (.int .i64 x)∧W.cell? ⟨b,off+i * 4+2,none⟩ = some (.int .i64 y)∧W.cell? ⟨b,off+i * 4+3,none⟩ = some lv)∧RdV B W lv a.l:=by
 obtain ⟨p',c',h1,h2,h3⟩:=h
 cases h1
 rcases h3 with h3 | ⟨b,off,h3,h4,h5,h6⟩
 · subst h3;simp at hi
 · obtain ⟨x,y,lv,k0,k1,k2,k3,k4⟩:=h6 i _ (gEq hi)
   exact ⟨b,off,_,x,y,lv,h3,gEq hi,h4,h5,⟨k0,k1,k2,k3⟩,k4⟩
theorem RdA.form {B:Nat} {W:World} {v:Value} {l:List Ag} (h:RdA B W v l):∃ p n c,v = .slice p n c∧n = l.length∧n≤c:=by
 exact K104
def RowB (W:World) (k:Nat):Prop:=∃ c fz,W.heap[k]? = some (.cells c 5 fz)
theorem RowB.lt {W:World} {k:Nat} (h:RowB W k):k < W.heap.size:=by
 obtain ⟨c,fz,h⟩:=h
 exact (Array.getElem?_eq_some_iff.1 h).1
def Env (hi:Nat) (w w':World):Prop:=Below hi w w'∧∀ k,RowB w k→w'.heap[k]? = w.heap[k]?
def Mid (lo hi:Nat) (w w':World):Prop:=Below lo w w'∧∀ k,hi≤k→k < w.heap.size→¬ RowB w k→w'.heap[k]? = w.heap[k]?
theorem Ext.env {w w':World} (h:Ext w w') {hi:Nat} (hh:hi≤w.heap.size):Env hi w w':=⟨Below.mono h hh,fun k hk=>h.block k hk.lt⟩
theorem Ext.mid {w w':World} (h:Ext w w') {lo:Nat} (hh:lo≤w.heap.size) (hi:Nat):Mid lo hi w w':=⟨Below.mono h hh,fun k _ hk _=>h.block k hk⟩
theorem RowB.same {w w':World} {k:Nat} (h:w'.heap[k]? = w.heap[k]?):RowB w' k↔RowB w k:=by unfold RowB;rw [h]
theorem Env.trans {hi:Nat} {a b c:World} (h:Env hi a b) (k:Env hi b c):Env hi a c :=
 ⟨h.1.trans k.1,fun n hn=>(k.2 n ((RowB.same (h.2 n hn)).2 hn)).trans (h.2 n hn)⟩
theorem Mid.trans {lo hi:Nat} {a b c:World} (h:Mid lo hi a b) (k:Mid lo hi b c):Mid lo hi a c :=
 ⟨h.1.trans k.1,fun n h1 h2 h3=>(k.2 n h1 (llL h2 h.1.size) (fun r=>h3 ((RowB.same (h.2 n h1 h2 h3)).1 r))).trans (h.2 n h1 h2 h3)⟩
theorem Env.down {hi hi':Nat} {a b:World} (h:Env hi' a b) (k:hi≤hi'):Env hi a b:=⟨h.1.mono k,h.2⟩
theorem Mid.wide {lo hi hi':Nat} {a b:World} (h:Mid lo hi a b) (k:hi≤hi'):Mid lo hi' a b:=⟨h.1,fun n h1 h2 h3=>h.2 n (Nat.le_trans k h1) h2 h3⟩
theorem Mid.ext {w0 a b:World} {hi:Nat} (h:Mid w0.heap.size hi a b) (e:Ext w0 a):Ext w0 b:=Below.trans e h.1
def Own4 (W:World) (b:Nat):Prop:=b < W.heap.size∧¬ RowB W b
theorem Own4.mid {lo hi:Nat} {w w':World} {b:Nat} (h:Own4 w b) (m:Mid lo hi w w') (hb:hi≤b):Own4 w' b∧∀ o,w'.cell? ⟨b,o,none⟩ = w.cell? ⟨b,o,none⟩∧w'.frozen? ⟨b,o,none⟩ = w.frozen? ⟨b,o,none⟩:=by
 have e:=m.2 b hb h.1 h.2
 exact K115
theorem Own4.new {w w':World} {c:Array Value} {T:TypeId} (hT:T≠5) (e:Ext (w.alloc (.cells c T)) w'):Own4 w' w.heap.size:=by
 have hs:w.heap.size < (w.alloc (.cells c T)).heap.size:=J65
 have h:=e.block w.heap.size hs
 refine ⟨llL hs e.size,fun r=>?_⟩
 obtain ⟨c',fz,r⟩:=(RowB.same h).1 r
 have r':(w.heap.push (.cells c T))[w.heap.size]? = some (.cells c' 5 fz):=r
 rw [Array.getElem?_push_size] at r'
 cases r'
 exact hT rfl
def FnC (w0:World) (hi:Nat) (v:Value) {α:Type} (enc:α→Array Value) (ok:α→Prop) (P:List α→World→Prop):Prop :=
 ∃ K cs,v = .func (.func K) #[] cs∧(∀ args W,(callFunc K args).run Tryz.prog W = .ok (.enter K args) W) ∧
   (∀ l W W',P l W→hi≤W.heap.size→Env hi W W'→P l W') ∧
   ∀ l W x,P l W→hi≤W.heap.size→Ext w0 W→l.length≤20000000000→ok x→Calls Tryz.prog K (enc x ++ cs) W fun e w'=>e = .returned (.tuple #[])∧P (l ++ [x]) w'∧Mid w0.heap.size hi W w'
def encS (p:V × Bool):Array Value:=#[p.1.dat,.bool p.2]
def okS (p:V × Bool):Prop:=p.1.ok
theorem only_any (l:List Rw) (p:Option Addr) (n c B:Nat) (W:World) (hN:Nm W) (h:RdV B W (.slice p n c) l) :
   Calls Tryz.prog 282 #[.slice p n c] W fun e w'=>e = .returned (one1 l).dat∧Ext W w':=by
 obtain rfl:=h.len
 cases l with
 | nil =>
   go_enter func282,ntmps282
   go_wp2_with fail
   simp [bodyPost,results,results282,go_sem]
   exact ⟨rfl,xr.alloc _⟩
 | cons r t =>
   obtain ⟨b,off,r',rfl,hr,hb,hbW,k0,k1,k2,k3⟩:=h.at (i:=0) J65
   simp at hr
   subst hr
   have c0:=fun W h=>vnormal_any r.k r.n r.s r.e W h
   have H:Hid (one1 (r :: t) = nm r.k r.n r.s r.e):=rfl
   obtain ⟨q0,q1,q2,q3,hq⟩:=dat4 (nm r.k r.n r.s r.e)
   rw [hq] at c0
   have HQ:Hid ((nm r.k r.n r.s r.e).dat = .agg #[.int .i64 q0,.int .i64 q1,.string q2,.int .i64 q3]):=hq
   clear hq
   obtain ⟨m,hm⟩:∃ m:Nat,(r :: t).length = m:=⟨_,rfl⟩
   rw [hm]
   have e1:((m:Int) == 0) = false:=by simp;rw [← hm];simp
   have e2:(0:Int) < (m:Int):=by rw [← hm];simp only [List.length_cons];omega
   clear hm h hb
   simp only [Nat.zero_mul,Nat.add_zero] at k0 k1 k2 k3
   go_enter func282,ntmps282
   go_wp2_with fail
   refine (c0 _ (hN.ext (xr.alloc _))).mono ?_
   rintro e w1 ⟨rfl,E1⟩
   obtain ⟨z,⟨b0,b1,b2,b3⟩,f0,f1,f2,f3⟩:=blk_top (b:=W.heap.size) J65 E1
   go_wp2_with fail
   exact fin4 b0 b1 b2 b3 rfl J65 ((xr.alloc _).trans E1) (fun W g0 g1 g2 g3=>by simp [results,results282,go_sem,g0,g1,g2,g3]) (fun W h=>⟨by rw [H.out,HQ.out],h⟩)
theorem wrap_1 (k:Nat) (h:k≤100000000000):wrap64 ((k:Int)+1) = ((k+1:Nat):Int):=J72
theorem meas (n j:Nat) (h:j+1≤n) (hw:wrap64 ((j:Int)+1) = ((j+1:Nat):Int)):n - (intOf (.int .i64 (wrap64 ((j:Int)+1)))).toNat < n - (intOf (.int .i64 (j:Int))).toNat:=by
 rw [hw]
 show n - (((j+1:Nat):Int)).toNat < n - ((j:Int)).toNat
 rw [Int.toNat_natCast,Int.toNat_natCast]
 omega
theorem seen_take {l:List Ag} {j:Nat} {a:Ag} (h:l[j]? = some a):seen (l.take (j+1)) = seen (l.take j) ++ seen1 a:=by
 rw [List.take_add_one,h]
 show (l.take j ++ [a]).flatMap seen1 = _
 rw [List.flatMap_append]
 simp [seen]
theorem seen_le {l:List Ag} {j:Nat} {a:Ag} (h:l[j]? = some a):(seen (l.take j)).length+(seen1 a).length≤(seen l).length:=by
 have e:l = l.take j ++ a :: l.drop (j+1):=by
   have h1:=List.drop_eq_getElem_cons (List.getElem?_eq_some_iff.1 h).1
   rw [(List.getElem?_eq_some_iff.1 h).2] at h1
   rw [← h1,List.take_append_drop]
 have:seen l = seen (l.take j) ++ (seen1 a ++ seen (l.drop (j+1))):=by
   conv=>lhs;rw [e]
   unfold seen
   rw [List.flatMap_append]
   rfl
 rw [this];simp
theorem each_any (w0:World) (hi:Nat) (gs:List Ag) (sv:Value) (Q:List (V × Bool)→World→Prop) (W:World) (p:Option Addr) (n c:Nat)
   (hA:RdA w0.heap.size W (.slice p n c) gs) (hI:AgI gs) (hlen:(seen gs).length≤10000000000) (hal:gs.length≤10000000000)
   (hF:FnC w0 hi sv encS okS Q) (hQ:Q [] W) (hh:hi≤W.heap.size) (hE:Ext w0 W) (hN:Nm w0) :
   Calls Tryz.prog 269 #[.slice p n c,sv] W fun e w'=>e = .returned (.tuple #[])∧Q (seen gs) w'∧Mid w0.heap.size hi W w':=by
 obtain ⟨K,cs,rfl,hent,hst,hca⟩:=hF
 have hn:n = gs.length:=by obtain ⟨p',c',h1,_⟩:=hA;cases h1;rfl
 have HA:Hid (RdA w0.heap.size W (.slice p n c) gs):=hA
 have HI:Hid (AgI gs∧(seen gs).length≤10000000000∧n = gs.length∧n≤10000000000):=⟨hI,hlen,hn,by omega⟩
 have HS:Hid (∀ l W W',Q l W→hi≤W.heap.size→Env hi W W'→Q l W'):=hst
 have HC:Hid (∀ l W x,Q l W→hi≤W.heap.size→Ext w0 W→l.length≤20000000000→okS x→Calls Tryz.prog K (encS x ++ cs) W fun e w'=>e = .returned (.tuple #[])∧Q (l ++ [x]) w'∧Mid w0.heap.size hi W w'):=hca
 have HW:Hid (Ext w0 W∧Nm w0∧hi≤W.heap.size):=⟨hE,hN,hh⟩
 have HQ:Hid (Q [] W):=hQ
 clear hA hI hlen hal hst hca hE hN hQ hn hh
 go_enter func269,ntmps269
 go_wp2_with fail
 go_loopw [10] (fun iv wr=>∃ j:Nat,iv = .int .i64 (j:Int)∧j≤n∧Q (seen (gs.take j)) wr∧Mid w0.heap.size hi W wr) (fun iv _=>n - (intOf iv).toNat)
 case atStart=>exact ⟨0,rfl,Nat.zero_le _,HQ.out,(Ext.refl W).mid HW.out.1.size hi⟩
 case round =>
   generalize wr = wo at hrel ⊢
   obtain ⟨j,rfl,hj,hq,hm⟩:=hrel
   have HO:Hid (Q (seen (gs.take j)) wo∧Mid w0.heap.size hi W wo∧Ext w0 wo∧hi≤wo.heap.size):=⟨hq,hm,hm.ext HW.out.1,Nat.le_trans HW.out.2.2 hm.1.size⟩
   clear hq hm
   by_cases hlt:j < n
   · have hltI:(j:Int) < (n:Int):=J2
     obtain ⟨b,off,a,x,y,lv,rfl,ha,hb,hbW,⟨k0,k1,k2,k3⟩,hV⟩:=(HA.out.low HO.out.2.1.1).at (i:=j) (by rw [← HI.out.2.2.1];exact hlt)
     obtain ⟨p',n',c',rfl,hn',hc'⟩:=hV.form
     have HV:Hid (RdV w0.heap.size wo (.slice p' n' c') a.l∧gs[j]? = some a∧n' = a.l.length):=⟨hV,ha,hn'⟩
     have WK:Hid (wrap64 ((j:Int)+1) = ((j+1:Nat):Int)):=wrap_1 j (by have:=HI.out;omega)
     have HJ:Hid (j≤10000000000):=by show _≤_;have:=HI.out;omega
     clear hV ha hn' hc' hb hlt
     cases har:a.area
     · rw [har] at k0
       have HT:Hid (seen (gs.take (j+1)) = seen (gs.take j) ++ [(one1 a.l,false)]):=J97
       have HU:Hid ((one1 a.l).ok∧(seen (gs.take j)).length≤10000000000):=by
         refine ⟨?_,?_⟩
         · have:=seen_ok gs HI.out.1 (one1 a.l,false) (List.mem_flatMap.2 ⟨a,List.mem_of_getElem? HV.out.2.1,by unfold seen1;rw [har];simp⟩)
           exact this
         · have:=seen_le HV.out.2.1;have:=HI.out.2.1;omega
       clear har
       go_wp2_with fail
       refine (only_any a.l p' n' c' w0.heap.size _ (HW.out.2.1.ext (HO.out.2.2.1.alloc _)) (HV.out.1.low (((Below.refl _ _).alloc HO.out.2.2.1.size _)))).mono ?_
       rintro e w1 ⟨rfl,E1⟩
       have X1:Hid (Ext wo w1):=(xr.alloc _).trans E1
       clear E1
       go_wp2_with fail
       refine (HC.out (seen (gs.take j)) _ (one1 a.l,false) (HS.out _ _ _ HO.out.1 HO.out.2.2.2 (X1.out.env HO.out.2.2.2)) (Nat.le_trans HO.out.2.2.2 X1.out.size) (HO.out.2.2.1.trans X1.out) (Nat.le_trans HU.out.2 J9) HU.out.1).mono ?_
       rintro e w2 ⟨rfl,q2,m2⟩
       have H2:Hid (Q (seen (gs.take (j+1))) w2∧Mid w0.heap.size hi W w2):=⟨by rw [HT.out];exact q2,HO.out.2.1.trans ((X1.out.mid HO.out.2.2.1.size hi).trans m2)⟩
       have hj1:j+1≤n:=J2
       clear q2 m2
       have wk:=WK.out
       go_wp2_with fail
       go_roundw
       case rel=>exact ⟨j+1,by go_num,hj1,H2.out.1,H2.out.2⟩
       case measure=>exact meas n j hj1 wk
     · rw [har] at k0
       have HT:Hid (seen (gs.take (j+1)) = seen (gs.take j) ++ a.l.map (fun r=>(r.v,true))):=J97
       have HU:Hid ((∀ r ∈ a.l,r.v.ok)∧(seen (gs.take j)).length+a.l.length≤10000000000):=by
         refine ⟨fun r hr=>nm_ok _ _ _ _ (HI.out.1 a (List.mem_of_getElem? HV.out.2.1) r hr),?_⟩
         have h1:=seen_le HV.out.2.1
         have h2:=HI.out.2.1
         have h3:(seen1 a).length = a.l.length:=by unfold seen1;rw [har];simp
         omega
       clear har
       go_wp2_with fail
       go_loopw [25] (fun iv w3=>∃ i:Nat,iv = .int .i64 (i:Int)∧i≤n'∧Q (seen (gs.take j) ++ (a.l.take i).map (fun r=>(r.v,true))) w3∧Mid w0.heap.size hi W w3∧Mid w0.heap.size hi wo w3) (fun iv _=>n' - (intOf iv).toNat)
       case atStart =>
         have X1:Ext wo (wo.alloc (.cells #[.bool true,.int .i64 x,.int .i64 y,.slice p' n' c'] 113)):=xr.alloc _
         refine ⟨0,rfl,Nat.zero_le _,?_,HO.out.2.1.trans (X1.mid HO.out.2.2.1.size hi),X1.mid HO.out.2.2.1.size hi⟩
         simp only [List.take_zero,List.map_nil,List.append_nil]
         exact HS.out _ _ _ HO.out.1 HO.out.2.2.2 (X1.env HO.out.2.2.2)
       case round =>
         obtain ⟨i,rfl,hi',hq,hm,hm'⟩:=hrel
         have HP:Hid (Q (seen (gs.take j) ++ (a.l.take i).map (fun r=>(r.v,true))) wr∧Mid w0.heap.size hi W wr∧Ext w0 wr∧hi≤wr.heap.size∧Mid w0.heap.size hi wo wr):=⟨hq,hm,hm.ext HW.out.1,Nat.le_trans HW.out.2.2 hm.1.size,hm'⟩
         clear hq hm hm' k0 k1 k2 k3 hbW
         by_cases hlt:i < n'
         · have hltJ:(i:Int) < (n':Int):=J2
           obtain ⟨b',off',r,rfl,hr,hb',hbW',k0,k1,k2,k3⟩:=(HV.out.1.low HP.out.2.2.2.2.1).at (i:=i) (by rw [← HV.out.2.2];exact hlt)
           have WI:Hid (wrap64 ((i:Int)+1) = ((i+1:Nat):Int)):=wrap_1 i (by have:=HU.out.2;have:=HV.out.2.2;omega)
           have HR:Hid (a.l[i]? = some r∧r.v.ok∧(seen (gs.take j) ++ (a.l.take i).map (fun r=>(r.v,true))).length≤10000000000):=⟨hr,HU.out.1 r (List.mem_of_getElem? hr),by simp;have:=HU.out.2;omega⟩
           have HT2:Hid ((seen (gs.take j) ++ (a.l.take i).map (fun r=>(r.v,true))) ++ [(r.v,true)] = seen (gs.take j) ++ (a.l.take (i+1)).map (fun r=>(r.v,true))):=by
             show _ = _
             rw [List.take_add_one,hr,List.map_append,List.append_assoc];rfl
           have cN:=fun W h=>vnormal_any r.k r.n r.s r.e W h
           clear hr hb' hlt
           go_wp2_with fail
           refine (cN _ (HW.out.2.1.ext (HP.out.2.2.1.alloc _))).mono ?_
           rintro e w1 ⟨rfl,E1⟩
           have X1:Hid (Ext wr w1):=(xr.alloc _).trans E1
           clear E1
           go_wp2_with fail
           refine (HC.out _ _ (r.v,true) (HS.out _ _ _ HP.out.1 HP.out.2.2.2.1 (X1.out.env HP.out.2.2.2.1)) (Nat.le_trans HP.out.2.2.2.1 X1.out.size) (HP.out.2.2.1.trans X1.out) (Nat.le_trans HR.out.2.2 J9) HR.out.2.1).mono ?_
           rintro e w2 ⟨rfl,q2,m2⟩
           have M2:Mid w0.heap.size hi wr w2:=(X1.out.mid HP.out.2.2.1.size hi).trans m2
           have H2:Hid (Q (seen (gs.take j) ++ (a.l.take (i+1)).map (fun r=>(r.v,true))) w2∧Mid w0.heap.size hi W w2∧Mid w0.heap.size hi wo w2):=⟨by rw [← HT2.out];exact q2,HP.out.2.1.trans M2,HP.out.2.2.2.2.trans M2⟩
           have hi1:i+1≤n':=J2
           clear q2 m2 M2
           have wi:=WI.out
           go_wp2_with fail
           go_roundw
           case rel=>exact ⟨i+1,by go_num,hi1,H2.out⟩
           case measure=>exact meas n' i hi1 wi
         · have hltJ:¬ (i:Int) < (n':Int):=J2
           have H2:Hid (Q (seen (gs.take (j+1))) wr∧Mid w0.heap.size hi W wr):=by
             refine ⟨?_,HP.out.2.1⟩
             have h1:=HP.out.1
             have h2:=HV.out.2.2
             rw [show a.l.take i = a.l from List.take_of_length_le J2] at h1
             rw [HT.out];exact h1
           have hj1:j+1≤n:=J2
           clear hlt
           have wk:=WK.out
           go_wp2_with fail
           go_roundw
           case rel=>exact ⟨j+1,by go_num,hj1,H2.out⟩
           case measure=>exact meas n j hj1 wk
   · have hltI:¬ (j:Int) < (n:Int):=J2
     have H2:Hid (Q (seen gs) wo∧Mid w0.heap.size hi W wo):=by
       refine ⟨?_,HO.out.2.1⟩
       have h1:=HO.out.1
       have h2:=HI.out.2.2.1
       rw [show gs.take j = gs from List.take_of_length_le J2] at h1
       exact h1
     clear hlt
     go_wp2_with fail
     go_end0
     exact ⟨rfl,H2.out⟩
end Go.Proofs.YtcfgbiaahangmaaGreatDoor

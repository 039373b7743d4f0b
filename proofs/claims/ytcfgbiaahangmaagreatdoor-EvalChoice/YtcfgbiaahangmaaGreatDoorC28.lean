import Derived.Test.YtcfgbiaahangmaaGreatDoorC20
import Derived.OpenShut
set_option maxHeartbeats 2000000
set_option maxRecDepth 100000
namespace Go.Proofs.YtcfgbiaahangmaaGreatDoor
open Go.Proofs.Tryz
open Go.RowKit
def ifT (a b c:T):T:=.mk 8 0 [73,70] 0 rz rz [a,b,c]
theorem well_k5 {n:Nat} {t:T} (h:wellT n t = true):t.k≠5:=by
 intro hk
 cases n with
 | zero=>cases h
 | succ n =>
   unfold wellT at h
   simp [hk] at h
theorem if_well {n:Nat} {a b c:T} (ha:wellT n a = true) (hb:wellT n b = true) (hc:wellT n c = true):wellT (n+1) (ifT a b c) = true:=by
 have e1:(kno [73,70]).isSome = true:=J9
 have e2:knA [73,70] = 2:=J9
 have e3:knB [73,70] = 3:=J9
 have k1:(ifT a b c).k = 8:=rfl
 have k2:(ifT a b c).l = [a,b,c]:=rfl
 have k3:(ifT a b c).s = [73,70]:=rfl
 rw [wellT,k1,k2,k3]
 simp [e1,e2,e3,ha,hb,hc,well_k5 ha,well_k5 hb,well_k5 hc]
theorem if_hr {n:Nat} {a b c:T} (ha:Hr n a) (hb:Hr n b) (hc:Hr n c):Hr (n+1) (ifT a b c):=by
 refine ⟨by show 3≤100000;decide,fun x hx=>?_⟩
 exact K103
theorem if_wf {a b c:T} (ha:Wf a) (hb:Wf b) (hc:Wf c):Wf (ifT a b c):=by
 have z:I64 0:=I64.z
 have k8:I64 8:=⟨by decide,by decide⟩
 have ls:[73,70].length≤maxLen:=J9
 refine .mk _ k8 z ls z z z z z ?_
 intro x hx
 exact K103
theorem sgl_argV {v:V} (h:v.ok):sgl (argV v) = v:=by
 show v.rw.v = v
 exact v_rw h
theorem toBool_of {v:V} (h:v.ok):(∃ e,v.toBool = .err e∧1≤e∧e≤5)∨∃ b,v.toBool = .tf b:=by
 cases v with
 | blank=>exact .inr ⟨_,rfl⟩
 | tf b=>exact .inr ⟨_,rfl⟩
 | num n=>exact .inr ⟨_,rfl⟩
 | err e=>exact .inl ⟨e,rfl,h⟩
 | text s =>
   show (∃ e,(if s.data.toList = trueL then V.tf true else if s.data.toList = falseL then .tf false else .err 2) = .err e∧_)∨_
   split
   · right;rename_i g;exact ⟨true,by show (if s.data.toList = trueL then V.tf true else _) = _;rw [if_pos g]⟩
   · rename_i g1
     split
     · right;rename_i g;exact ⟨false,by show (if s.data.toList = trueL then V.tf true else if s.data.toList = falseL then V.tf false else _) = _;rw [if_neg g1,if_pos g]⟩
     · exact .inl ⟨2,rfl,by decide,by decide⟩
theorem if_ev {M:Bov} (hM:BdOk M) {n:Nat} {a b c:T} (wa:Wf a) (wb:Wf b) (wc:Wf c) (ha:wellT n a = true) (hb:wellT n b = true) (hc:wellT n c = true) :
   (∃ e,(expV n M a).toBool = .err e∧expV (n+1) M (ifT a b c) = .err e)∨((expV n M a).toBool = .tf true∧expV (n+1) M (ifT a b c) = expV n M b)∨((expV n M a).toBool = .tf false∧expV (n+1) M (ifT a b c) = expV n M c):=by
 have oa:=evT_ok hM n a wa ha
 have ob:=evT_ok hM n b wb hb
 have oc:=evT_ok hM n c wc hc
 have e1:expV (n+1) M (ifT a b c) = fnV [73,70] [argV (evT n M a),argV (evT n M b),argV (evT n M c)]:=by
   unfold expV
   rw [if_pos (if_well ha hb hc)]
   have k1:(ifT a b c).k = 8:=rfl
   have k2:(ifT a b c).l = [a,b,c]:=rfl
   have k3:(ifT a b c).s = [73,70]:=rfl
   rw [evT,k1,k2,k3]
   simp [well_k5 ha,well_k5 hb,well_k5 hc]
 have e2:fnV [73,70] [argV (evT n M a),argV (evT n M b),argV (evT n M c)] = ansV (xIf [argV (evT n M a),argV (evT n M b),argV (evT n M c)]):=by
   unfold fnV
   have hok:okN [73,70] 3 = true:=J9
   exact if_pos hok
 have x:∀ t,wellT n t = true→expV n M t = evT n M t:=fun t h=>by unfold expV;rw [if_pos h]
 rw [e1,e2,x a ha,x b hb,x c hc]
 have s0:sg [argV (evT n M a),argV (evT n M b),argV (evT n M c)] 0 = evT n M a:=sgl_argV oa
 have s1:sg [argV (evT n M a),argV (evT n M b),argV (evT n M c)] 1 = evT n M b:=sgl_argV ob
 have s2:sg [argV (evT n M a),argV (evT n M b),argV (evT n M c)] 2 = evT n M c:=sgl_argV oc
 unfold xIf
 rw [s0,s1,s2]
 rcases toBool_of oa with ⟨e,h,he⟩ | ⟨t,h⟩
 · left
   refine ⟨e,h,?_⟩
   have:trR (evT n M a) = .error e:=by unfold trR;rw [h]
   rw [this]
   exact mkErr_is he
 · right
   cases t with
   | true =>
     left
     refine ⟨h,?_⟩
     have:trR (evT n M a) = .ok true:=by unfold trR;rw [h];rfl
     rw [this]
     exact v_rw ob
   | false =>
     right
     refine ⟨h,?_⟩
     have:trR (evT n M a) = .ok false:=by unfold trR;rw [h];rfl
     rw [this]
     exact v_rw oc
open Go.ChangeShapes Go.WideShapes Go.RowKit
theorem cells_exps3:Tryz.prog.cellsOf 61 = 39:=J3
theorem cut39 {α:Type} {l:List α} (h:l.length = 39):l = (l.drop (0 * 13)).take 13 ++ ((l.drop (1 * 13)).take 13 ++ (l.drop (2 * 13)).take 13):=by
 have e2:(l.drop (2 * 13)).take 13 = l.drop 26:=List.take_of_length_le J6
 have e1:(l.drop (1 * 13)).take 13 ++ l.drop 26 = l.drop 13:=by
   have:=List.take_append_drop 13 (l.drop 13)
   rw [List.drop_drop] at this
   exact this
 rw [e2,e1]
 exact (List.take_append_drop 13 l).symm
theorem open_exps3 {H:Type} {enc:TypeId × Value→H} {W:World} {r:Reach} {b0 base:Nat} {sp:Nat→Bool} {hd:Bool} {v:Value} {d:DataW H} {p:List MemPlace} (hv:Value.okWide Tryz.prog W r b0 61 v) (h:DataW.Trod enc Tryz.prog W base sp hd 61 v d p) :
   ∃ (t0 t1 t2:T) (p0 p1 p2:Option Addr) (n0 n1 n2 c0 c1 c2:Nat),v = .agg (cellsT t0 (.slice p0 n0 c0) ++ (cellsT t1 (.slice p1 n1 c1) ++ cellsT t2 (.slice p2 n2 c2))).toArray ∧
     (IsL W (fun _=>True) (.slice p0 n0 c0) t0.l∧Wf t0)∧(IsL W (fun _=>True) (.slice p1 n1 c1) t1.l∧Wf t1)∧(IsL W (fun _=>True) (.slice p2 n2 c2) t2.l∧Wf t2):=by
 have hu:=Tryz.underlying61
 simp only [Value.okWide,hu] at hv
 obtain ⟨cs,rfl,hsz,_⟩:=hv
 rw [cells_exps3] at hsz
 obtain ⟨fuel,hf⟩:=h
 obtain ⟨xs,m,rfl,_,hlen,hxl,hf⟩:=DataW.trod_array hu hf
 rw [cells_exp] at hf
 have hx:∀ i,i < 3→∃ y,xs[i]? = some y:=fun i hi=>⟨_,gEq (by rw [hxl];exact hi)⟩
 obtain ⟨y0,g0⟩:=hx 0 J9
 obtain ⟨y1,g1⟩:=hx 1 J9
 obtain ⟨y2,g2⟩:=hx 2 J9
 obtain ⟨t0,l0,e0,i0,w0⟩:=open_exp m _ _ ((hf 0 J9).trans g0)
 obtain ⟨t1,l1,e1,i1,w1⟩:=open_exp m _ _ ((hf 1 J9).trans g1)
 obtain ⟨t2,l2,e2,i2,w2⟩:=open_exp m _ _ ((hf 2 J9).trans g2)
 obtain ⟨p0,c0,f0,_⟩:=i0.form
 obtain ⟨p1,c1,f1,_⟩:=i1.form
 obtain ⟨p2,c2,f2,_⟩:=i2.form
 subst f0 f1 f2
 have hl:cs.toList.length = 39:=by simpa using hsz
 have hc:=cut39 hl
 have hv:(Value.agg cs).cells.toList = cs.toList:=by simp [Value.cells]
 rw [hv] at e0 e1 e2
 rw [e0,e1,e2] at hc
 refine ⟨t0,t1,t2,p0,p1,p2,_,_,_,c0,c1,c2,?_,⟨i0,w0⟩,⟨i1,w1⟩,⟨i2,w2⟩⟩
 rw [← hc]
structure Kn where
 r:Int
 c:Int
 v:Rw
instance : Inhabited Kn := ⟨⟨0, 0, ⟨0, 0, ⟨#[]⟩, 0⟩⟩⟩
def isAt (x:Kn) (r c:Int):Bool:=x.r == r && x.c == c
def aft (x:Kn) (r c:Int):Bool:=decide (r < x.r) || (x.r == r && decide (c < x.c))
def atI (r c:Int):List Kn→Nat
 | []=>0
 | x :: l=>if isAt x r c || aft x r c then 0 else atI r c l+1
def atB (r c:Int):List Kn→Bool
 | []=>false
 | x :: l=>if isAt x r c then true else if aft x r c then false else atB r c l
def newL (r c:Int) (v:V):List Kn:=if v.k = 0 then [] else [⟨r,c,v.rw⟩]
def putL (L:List Kn) (r c:Int) (v:V):List Kn:=if inB r c then L.take (atI r c L) ++ newL r c v ++ (L.drop (atI r c L)).drop (if atB r c L then 1 else 0) else L
theorem isAt_iff (x:Kn) (r c:Int):isAt x r c = true↔x.r = r∧x.c = c:=by simp [isAt]
theorem isAt_no (x:Kn) (r c:Int):isAt x r c = false↔¬ (x.r = r∧x.c = c):=by rw [← isAt_iff];simp
theorem aft_iff (x:Kn) (r c:Int):aft x r c = true↔(r < x.r∨x.r = r∧c < x.c):=by simp [aft]
theorem aft_no (x:Kn) (r c:Int):aft x r c = false↔¬ (r < x.r∨x.r = r∧c < x.c):=by rw [← aft_iff];simp
theorem atI_le (r c:Int) (L:List Kn):atI r c L≤L.length:=by
 induction L with
 | nil=>exact Nat.le_refl _
 | cons x l ih =>
   rw [atI]
   split
   · exact Nat.zero_le _
   · simp;exact ih
theorem atB_lt {r c:Int} {L:List Kn} (h:atB r c L = true):atI r c L < L.length:=by
 induction L with
 | nil=>cases h
 | cons x l ih =>
   unfold atB at h
   unfold atI
   cases h1:isAt x r c
   · rw [h1] at h
     cases h2:aft x r c
     · rw [h2] at h
       simp at h ⊢
       exact ih h
     · rw [h2] at h;simp at h
   · simp
def putR (r c:Int) (v:V):List Kn→List Kn
 | []=>newL r c v
 | x :: l=>if isAt x r c then newL r c v ++ l else if aft x r c then newL r c v ++ x :: l else x :: putR r c v l
theorem put_is (r c:Int) (v:V) (L:List Kn):L.take (atI r c L) ++ newL r c v ++ (L.drop (atI r c L)).drop (if atB r c L then 1 else 0) = putR r c v L:=by
 induction L with
 | nil=>simp [putR,atI]
 | cons x l ih =>
   unfold atI atB putR
   cases h1:isAt x r c
   · cases h2:aft x r c
     · simp only [Bool.or_self,Bool.false_eq_true,if_false,List.take_succ_cons,List.drop_succ_cons,List.cons_append]
       rw [ih]
     · simp
   · simp
theorem putR_len (r c:Int) (v:V) (L:List Kn):(putR r c v L).length≤L.length+1:=by
 have hn:(newL r c v).length≤1:=by unfold newL;split <;> simp
 induction L with
 | nil=>exact hn
 | cons x l ih =>
   unfold putR
   split
   · simp;omega
   · split
     · simp;omega
     · simp;omega
theorem putL_len (r c:Int) (v:V) (L:List Kn):(putL L r c v).length≤L.length+1:=by
 unfold putL
 split
 · rw [put_is];exact putR_len r c v L
 · omega
open Go.Deep (choose_lt)
def cK (x:Kn):List Value:=[.int .i64 x.r,.int .i64 x.c,.int .i64 x.v.k,.int .i64 x.v.n,.string x.v.s,.int .i64 x.v.e]
theorem cK_len (x:Kn):(cK x).length = 6:=rfl
theorem cK_one (l:List Kn):∀ u ∈ l.flatMap cK,u.oneCell' = true:=by
 intro u hu
 obtain ⟨r,_,hu⟩:=List.mem_flatMap.1 hu
 simp [cK] at hu
 rcases hu with rfl | rfl | rfl | rfl | rfl | rfl <;> rfl
theorem eltK:Elt 22 35 6 56:=by
 refine ⟨Tryz.underlying22,?_,by decide⟩
 have h1:(Tryz.prog.info? 35).isSome = true:=J3
 have h2:(Tryz.prog.info? 35).bind (fun i=>i.zero) = some (.agg #[.int .i64 0,.int .i64 0,.int .i64 0,.int .i64 0,.string ⟨#[]⟩,.int .i64 0]):=J3
 have h3:(Tryz.prog.info? 35).map (fun i=>(i.size,i.bytes)) = some (6,56):=J3
 cases h:Tryz.prog.info? 35 with
 | none=>rw [h] at h1;cases h1
 | some i =>
   exact K132
def RdKn (W:World) (v:Value) (l:List Kn):Prop :=
 ∃ p c,v = .slice p l.length c∧l.length≤c∧(l = []∨∃ b off,p = some ⟨b,off,none⟩∧b < W.heap.size∧∀ i x j u,l[i]? = some x→(cK x)[j]? = some u→W.cell? ⟨b,off+i * 6+j,none⟩ = some u)
theorem RdKn.len {W:World} {p:Option Addr} {n c:Nat} {l:List Kn} (h:RdKn W (.slice p n c) l):n = l.length:=by
 obtain ⟨p',c',h1,_⟩:=h
 cases h1;rfl
theorem RdKn.form {W:World} {v:Value} {l:List Kn} (h:RdKn W v l):∃ p n c,v = .slice p n c∧n = l.length∧n≤c:=by
 exact K104
theorem RdKn.keep {W W':World} {p:Option Addr} {n c:Nat} {l:List Kn} (h:RdKn W (.slice p n c) l) (hs:W.heap.size≤W'.heap.size) (hk:∀ a,p = some a→l≠[]→W'.heap[a.block]? = W.heap[a.block]?):RdKn W' (.slice p n c) l:=by
 obtain ⟨p',c',h1,h2,h3⟩:=h
 cases h1
 refine ⟨p,c,rfl,h2,?_⟩
 rcases h3 with h3 | ⟨b,off,rfl,h5,h6⟩
 · exact .inl h3
 · refine .inr ⟨b,off,rfl,llL h5 hs,fun i x j u hi hj=>?_⟩
   have:=h6 i x j u hi hj
   unfold World.cell? at this ⊢
   rw [show W'.heap[b]? = W.heap[b]? from hk _ rfl (fun e=>by rw [e] at hi;simp at hi)]
   exact this
theorem RdKn.ext {W W':World} {v:Value} {l:List Kn} (h:RdKn W v l) (e:Ext W W'):RdKn W' v l:=by
 obtain ⟨p,c,h1,h2,h3⟩:=h
 refine ⟨p,c,h1,h2,?_⟩
 rcases h3 with h3 | ⟨b,off,h4,h5,h6⟩
 · exact .inl h3
 · exact .inr ⟨b,off,h4,llL h5 e.size,fun i x j u hi hj=>(e.cell.1 b _ h5).trans (h6 i x j u hi hj)⟩
theorem RdKn.nil (W:World):RdKn W (.slice none 0 0) []:=⟨none,0,rfl,Nat.le_refl _,.inl rfl⟩
theorem RdKn.at {W:World} {p:Option Addr} {n c:Nat} {l:List Kn} (h:RdKn W (.slice p n c) l) {i:Nat} {x:Kn} (hi:l[i]? = some x) :
   ∃ b off,p = some ⟨b,off,none⟩∧b < W.heap.size∧W.cell? ⟨b,off+i * 6,none⟩ = some (.int .i64 x.r)∧W.cell? ⟨b,off+i * 6+1,none⟩ = some (.int .i64 x.c)∧W.cell? ⟨b,off+i * 6+2,none⟩ = some (.int .i64 x.v.k)∧W.cell? ⟨b,off+i * 6+3,none⟩ = some (.int .i64 x.v.n)∧W.cell? ⟨b,off+i * 6+4,none⟩ = some (.string x.v.s)∧W.cell? ⟨b,off+i * 6+5,none⟩ = some (.int .i64 x.v.e):=by
 obtain ⟨p',c',h1,h2,h3⟩:=h
 cases h1
 rcases h3 with h3 | ⟨b,off,h4,h5,h6⟩
 · subst h3;simp at hi
 · exact ⟨b,off,h4,h5,h6 i x 0 _ hi rfl,h6 i x 1 _ hi rfl,h6 i x 2 _ hi rfl,h6 i x 3 _ hi rfl,h6 i x 4 _ hi rfl,h6 i x 5 _ hi rfl⟩
theorem RdKn.row {W:World} {v:Value} {l:List Kn} (h:RdKn W v l):RowC W v l.length 6 (l.flatMap cK):=by
 obtain ⟨p,c,h1,h2,h3⟩:=h
 refine ⟨fm_len cK 6 cK_len l,p,c,h1,?_⟩
 rcases h3 with rfl | ⟨b,off,rfl,_,h6⟩
 · exact K147
 · refine .inr ⟨_,rfl,fun j u hu=>?_⟩
   obtain ⟨r,hr,hu⟩:=fm_get cK 6 cK_len J9 l j u hu
   have:=h6 _ r _ u hr hu
   rw [Addr.add_lit]
   rw [show off+j = off+j / 6 * 6+j % 6 by omega]
   exact this
theorem own_rdK {W:World} {base:Nat} {v:Value} {l:List Kn} {n:Nat} (h:W.ownsRow base 35 6 v n (l.flatMap cK)) (hn:n = l.length):RdKn W v l:=by
 subst hn
 rcases h.2 with ⟨rfl,h0⟩ | ⟨g,cap,cur,rfl,h2,h3,h4,h5⟩
 · have:l = []:=List.eq_nil_of_length_eq_zero h0
   subst this
   exact RdKn.nil W
 · have hg:g < W.heap.size:=(Array.getElem?_eq_some_iff.1 h3).1
   refine ⟨_,cap,rfl,h4,.inr ⟨g,0,rfl,hg,fun i x j u hi hj=>?_⟩⟩
   have hj6:j < 6:=by have:=(List.getElem?_eq_some_iff.1 hj).1;exact this
   have k:=h.cells (g:=g) rfl (i * 6+j) u (by rw [fm_at cK 6 cK_len l i x j hi hj6];exact hj)
   simp only [Addr.add_lit] at k
   rw [show 0+i * 6+j = 0+(i * 6+j) by omega]
   exact k
theorem RdKn.part {W:World} {b off n c:Nat} {l:List Kn} (h:RdKn W (.slice (some ⟨b,off,none⟩) n c) l) (i j:Nat) (hij:i≤j) (hj:j≤l.length):RdKn W (.slice (some ⟨b,off+i * 6,none⟩) (j - i) (c - i)) ((l.take j).drop i):=by
 obtain ⟨p',c',h1,h2,h3⟩:=h
 cases h1
 have hl:((l.take j).drop i).length = j - i:=J6
 refine ⟨_,c - i,by rw [hl],by rw [hl];omega,?_⟩
 rcases h3 with h3 | ⟨b',off',h4,h5,h6⟩
 · subst h3;exact .inl J65
 · cases h4
   refine .inr ⟨b,off+i * 6,rfl,h5,fun k x q u hk hq=>?_⟩
   have hx:l[i+k]? = some x:=by
     rw [List.getElem?_drop,List.getElem?_take] at hk
     split at hk
     · exact hk
     · cases hk
   have:=h6 _ x q u hx hq
   rw [show off+i * 6+k * 6+q = off+(i+k) * 6+q by omega]
   exact this
theorem qc_known:Tryz.prog.cellsOf 35 = 6:=J3
section
variable {H:Type} {enc:TypeId × Value→H} {w:World} {base:Nat} {sp:Nat→Bool} {hd:Bool}
theorem open_kn {fuel:Nat} {cs:List Value} {x:DataW H × List MemPlace} (hl:cs.length = 6) (h:DataW.trod enc Tryz.prog w base sp hd fuel 35 cs = some x) :
   ∃ y:Kn,cs = cK y∧I64 y.r∧I64 y.c∧I64 y.v.n:=by
 obtain ⟨xs,n,rfl,_,hlen,hxl,hf⟩:=DataW.trod_struct Tryz.underlying35 h
 match cs,hl with
 | [c0,c1,c2,c3,c4,c5],_ =>
   have hx:∀ i,i < 3→∃ y,xs[i]? = some y:=fun i hi=>⟨_,gEq (by rw [hxl];exact hi)⟩
   obtain ⟨y0,g0⟩:=hx 0 J9
   obtain ⟨y1,g1⟩:=hx 1 J9
   obtain ⟨y2,g2⟩:=hx 2 J9
   have f0:=(hf 0 _ rfl).trans g0
   have f1:=(hf 1 _ rfl).trans g1
   have f2:=(hf 2 _ rfl).trans g2
   simp [qc_int,qc_value] at f0 f1 f2
   obtain ⟨a0,e0,_,w0⟩:=DataW.trod_int Tryz.underlying3 f0
   obtain ⟨a1,e1,_,w1⟩:=DataW.trod_int Tryz.underlying3 f1
   obtain ⟨r,hr,wr⟩:=open_val rfl f2
   simp only [List.cons.injEq,and_true] at e0 e1 hr
   obtain ⟨rfl,rfl,rfl,rfl⟩:=hr
   subst e0 e1
   exact ⟨⟨a0,a1,r⟩,rfl,i64_of_wf w0,i64_of_wf w1,wr⟩
def KnI (l:List Kn):Prop:=∀ x ∈ l,I64 x.r∧I64 x.c∧I64 x.v.n
theorem open_kns {fuel:Nat} {c:Value} {x:DataW H × List MemPlace} (h:DataW.trod enc Tryz.prog w base sp hd fuel 22 [c] = some x) :
   ∃ l,RdKn w c l∧KnI l∧l.length≤maxLen:=by
 rcases DataW.trod_slice Tryz.underlying22 h with ⟨e6,_⟩ | ⟨a,len,cap,elems,rest,n',hn',e6,_,hb,hl,hm,hel,hx,_,_⟩
 · simp only [List.cons.injEq,and_true] at e6
   subst e6
   exact ⟨[],RdKn.nil w,(fun r hr=>by cases hr),by simp⟩
 · simp only [List.cons.injEq,and_true] at e6
   subst e6
   rw [qc_known] at hx
   have each:∀ i,i < len→∃ y:Kn,(∀ j u,(cK y)[j]? = some u→w.cell? ((a.add (i * 6)).add j) = some u)∧I64 y.r∧I64 y.c∧I64 y.v.n:=by
     intro i hi
     have h0:=hx i hi
     rw [gEq (show i < elems.length by omega)] at h0
     obtain ⟨cs',h1,h2⟩:=Option.bind_eq_some_iff.1 h0
     obtain ⟨_,k1,k2⟩:=World.cells?_some h1
     obtain ⟨r,rfl,hr⟩:=open_kn (by simpa using k1) h2
     refine ⟨r,fun j u hu=>?_,hr⟩
     exact K168
   obtain ⟨f,hf⟩:=choose_lt each
   by_cases h0:len = 0
   · subst h0
     exact ⟨[],⟨_,_,rfl,by omega,.inl rfl⟩,(fun r hr=>by cases hr),by simp⟩
   obtain ⟨b,off,spot⟩:=a
   have hz:=(hf 0 J2).1 0 _ rfl
   have hspot:spot = none:=by simpa [Addr.add] using World.cell?_spot hz
   subst hspot
   have hblt:b < w.heap.size:=World.block_lt_of_cell? _ _ hz
   have hgl:((List.range len).map f).length = len:=J65
   refine ⟨(List.range len).map f,⟨_,cap,by rw [hgl],by omega,.inr ⟨b,off,rfl,hblt,fun i r j u hi hj=>?_⟩⟩,?_,by simp;omega⟩
   · have hi':i < len:=by
       exact K155
     rw [List.getElem?_map,List.getElem?_range hi'] at hi
     simp at hi
     subst hi
     have:=(hf i hi').1 j u hj
     simp only [Addr.add_lit] at this
     exact this
   · intro r hr
     obtain ⟨i,hi,rfl⟩:=List.mem_map.1 hr
     exact (hf i (List.mem_range.1 hi)).2
end
open Go.RowKit
structure DBr (W:World) (d:Nat) (p:Option Addr) (c:Nat) (L:List Kn):Prop where
 lt:d < W.heap.size
 cell:W.cell? ⟨d,0,none⟩ = some (.slice p L.length c)
 fz:W.frozen? ⟨d,0,none⟩ = false
 rd:RdKn W (.slice p L.length c) L
 far:∀ a,p = some a→a.block < W.heap.size∧a.block≠d
theorem DBr.ext {W W':World} {d c:Nat} {p:Option Addr} {L:List Kn} (h:DBr W d p c L) (e:Ext W W'):DBr W' d p c L :=
 ⟨llL h.lt e.size,(e.cell.1 d 0 h.lt).trans h.cell,(e.cell.2 d 0 h.lt).trans h.fz,h.rd.ext e,fun a ha=>⟨llL (h.far a ha).1 e.size,(h.far a ha).2⟩⟩
theorem DBr.keep {W W':World} {d c:Nat} {p:Option Addr} {L:List Kn} (h:DBr W d p c L) {S:Nat→Prop} (e:ExtS S W W') (hd:¬ S d) (hp:∀ a,p = some a→L≠[]→¬ S a.block):DBr W' d p c L:=by
 have k:=cell_of_heap (e.block d h.lt hd) 0
 exact ⟨llL h.lt e.size,k.1.trans h.cell,k.2.trans h.fz,h.rd.keep e.size (fun a ha hL=>e.block _ (h.far a ha).1 (hp a ha hL)),fun a ha=>⟨llL (h.far a ha).1 e.size,(h.far a ha).2⟩⟩
theorem at_step {r c:Int} {x:Kn} {l:List Kn} (h1:isAt x r c = false) (h2:aft x r c = false):atI r c (x :: l) = atI r c l+1∧atB r c (x :: l) = atB r c l:=by
 constructor
 · rw [atI,h1,h2];rfl
 · rw [atB,h1,h2];rfl
theorem at_here {r c:Int} {x:Kn} {l:List Kn} (h1:isAt x r c = true):atI r c (x :: l) = 0∧atB r c (x :: l) = true:=by
 constructor
 · rw [atI,h1];rfl
 · rw [atB,h1];rfl
theorem at_past {r c:Int} {x:Kn} {l:List Kn} (h1:isAt x r c = false) (h2:aft x r c = true):atI r c (x :: l) = 0∧atB r c (x :: l) = false:=by
 constructor
 · rw [atI,h1,h2];rfl
 · rw [atB,h1,h2];rfl
theorem drop_at {L:List Kn} {i:Nat} {x:Kn} (h:L[i]? = some x):L.drop i = x :: L.drop (i+1):=by
 obtain ⟨hi,rfl⟩:=List.getElem?_eq_some_iff.1 h
 exact List.drop_eq_getElem_cons hi
theorem at_any (W:World) (d cp:Nat) (p:Option Addr) (L:List Kn) (h:DBr W d p cp L) (hl:L.length≤100000) (r c:Int) :
   Calls Tryz.prog 32 #[.pointer (some ⟨d,0,none⟩),.int .i64 r,.int .i64 c] W fun e w'=>e = .returned (.tuple #[.int .i64 (atI r c L),.bool (atB r c L)])∧Ext W w':=by
 obtain ⟨n,hn⟩:∃ n,L.length = n:=⟨_,rfl⟩
 have HD:Hid (DBr W d p cp L∧L.length = n):=⟨h,hn⟩
 have hn2:n≤100000:=J2
 have dc:=h.cell
 rw [hn] at dc
 clear h hl hn
 go_enter func32,ntmps32
 go_wp2_with fail
 go_loopw [8] (fun iv wr=>∃ i:Nat,iv = .int .i64 (i:Int)∧i≤n∧atI r c L = i+atI r c (L.drop i)∧atB r c L = atB r c (L.drop i)∧Ext W wr) (fun iv _=>n - (intOf iv).toNat)
 case atStart=>exact ⟨0,rfl,Nat.zero_le _,by simp,rfl,Ext.refl _⟩
 case round =>
   obtain ⟨i,rfl,hi,h1,h2,hE⟩:=hrel
   have HA:Hid (atI r c L = i+atI r c (L.drop i)∧atB r c L = atB r c (L.drop i)∧Ext W wr):=⟨h1,h2,hE⟩
   have dc:=(hE.cell.1 d 0 HD.out.1.lt).trans dc
   clear h1 h2 hE
   by_cases hlt:i < n
   · have hltI:(i:Int) < (n:Int):=J2
     obtain ⟨x,hx⟩:∃ x,L[i]? = some x:=⟨_,gEq (by rw [HD.out.2];exact hlt)⟩
     have hrd:=HD.out.1.rd.ext HA.out.2.2
     rw [HD.out.2] at hrd
     obtain ⟨gb,off,rfl,hgb,c0,c1,c2,c3,c4,c5⟩:=hrd.at hx
     have HX:Hid (L.drop i = x :: L.drop (i+1)):=drop_at hx
     have HI:Hid (i < n):=hlt
     have WI:Hid (wrap64 ((i:Int)+1) = ((i+1:Nat):Int)):=by show _ = _;unfold wrap64;omega
     clear hrd hx hlt
     by_cases hr:x.r = r
     · have t1:(x.r == r) = true:=by simpa using hr
       have g1:decide (x.r > r) = false:=J6
       by_cases hc:x.c = c
       · have t2:(x.c == c) = true:=J69
         have HL:Hid (isAt x r c = true):=(isAt_iff _ _ _).2 ⟨hr,hc⟩
         clear hr hc g1
         go_wp2_with fail
         go_ret2
         refine ⟨?_,HA.out.2.2.alloc _⟩
         rw [HA.out.1,HA.out.2.1,HX.out,(at_here HL.out).1,(at_here HL.out).2]
         rfl
       · have t2:(x.c == c) = false:=J69
         have HL:Hid (isAt x r c = false):=(isAt_no _ _ _).2 (fun h=>hc h.2)
         by_cases hg:x.c > c
         · have g2:decide (x.c > c) = true:=by simpa using hg
           have HM:Hid (aft x r c = true):=(aft_iff _ _ _).2 (.inr ⟨hr,hg⟩)
           have hg3:x.c > c:=hg
           have hr3:¬ x.r > r:=J2
           clear hr hc hg
           exact K114
         · have g2:decide (x.c > c) = false:=by simpa using hg
           have HM:Hid (aft x r c = false):=(aft_no _ _ _).2 J2
           have hr3:¬ x.r > r:=J2
           have hg3:¬ x.c > c:=hg
           clear hr hc hg
           exact K70
     · have t1:(x.r == r) = false:=by simpa using hr
       have HL:Hid (isAt x r c = false):=(isAt_no _ _ _).2 (fun h=>hr h.1)
       by_cases hg:x.r > r
       · have g1:decide (x.r > r) = true:=by simpa using hg
         have HM:Hid (aft x r c = true):=(aft_iff _ _ _).2 (.inl hg)
         clear hr
         exact K114
       · have g1:decide (x.r > r) = false:=by simpa using hg
         have HM:Hid (aft x r c = false):=(aft_no _ _ _).2 J2
         clear hr
         exact K70
   · have hltI:¬ (i:Int) < (n:Int):=J2
     have HJ:Hid (i = n):=by show _ = _;omega
     clear hlt
     go_wp2_with fail
     go_ret2
     refine ⟨?_,HA.out.2.2⟩
     have h0:L.drop i = []:=List.drop_eq_nil_of_le (by rw [HD.out.2,HJ.out];exact Nat.le_refl _)
     rw [HA.out.1,HA.out.2.1,h0,HJ.out]
     rfl
theorem wpList_sl {P:Program} (w:World) {ops:Array Oper} {rest:List Oper} {o:Oper} {a:Act} {Q:Exit→Act→World→Prop} (hg:o.guard = none) (x:Operand) (t:TypeId) (lo hi:Option Operand) (hop:o.op = Op.slice t x lo hi none)
   (xv v:Value) (lv hv:Option Value) (hx:a.eval x = xv) (hl:lo.map a.eval = lv) (hh:hi.map a.eval = hv) (hrun:(Instr.sliceAt t xv lv hv none).run P w = .ok v w) (hK:wpList P ops Q rest (a.put o.dst v) w):wpList P ops Q (o :: rest) a w:=by
 refine wpList_plain hg fun K' hK'=>?_
 unfold Oper.wp
 simp [execOp,hop,hx,hl,hh,hrun,Result.andThen]
 exact hK' _ _ hK
theorem elemK:Tryz.prog.elem 22 = 35:=J3
theorem sizeK (w:World):(sizeOf 35).run Tryz.prog w = .ok 6 w:=J3
theorem RdKn.sub {W:World} {p:Option Addr} {n c:Nat} {l:List Kn} (h:RdKn W (.slice p n c) l) (i j:Nat) (hij:i≤j) (hj:j≤l.length):RdKn W (.slice (if c = i then p else p.map (·.add (i * 6))) (j - i) (c - i)) ((l.take j).drop i):=by
 have hl:((l.take j).drop i).length = j - i:=J6
 have hnc:n≤c:=by obtain ⟨p',c',h1,h2,_⟩:=h;cases h1;exact h2
 have hn:=h.len
 by_cases hc:c = i
 · have h0:(l.take j).drop i = []:=List.eq_nil_of_length_eq_zero (by rw [hl];omega)
   rw [if_pos hc]
   exact ⟨p,c - i,by rw [hl],by rw [hl];omega,.inl h0⟩
 · rw [if_neg hc]
   cases p with
   | none =>
     obtain ⟨p',c',h1,h2,h3⟩:=h
     cases h1
     rcases h3 with h3 | ⟨b,off,h4,_⟩
     · exact ⟨none,c - i,by rw [hl];rfl,by rw [hl];omega,.inl (by rw [h3];simp)⟩
     · cases h4
   | some a =>
     obtain ⟨p',c',h1,h2,h3⟩:=h
     cases h1
     rcases h3 with h3 | ⟨b,off,h4,h5,h6⟩
     · exact ⟨_,c - i,by rw [hl],by rw [hl];omega,.inl (by rw [h3];simp)⟩
     · cases h4
       have:=RdKn.part (W:=W) (b:=b) (off:=off) (n:=l.length) (c:=c) (l:=l) ⟨_,c,rfl,h2,.inr ⟨b,off,rfl,h5,h6⟩⟩ i j hij hj
       simp only [Option.map_some,Addr.add_lit]
       exact this
theorem sl_lo (p:Option Addr) (n c i:Nat) (h:i≤n):∃ p',(∀ w,(Instr.sliceAt 22 (.slice p n c) (some (.int .i64 (i:Int))) none none).run Tryz.prog w = .ok (.slice p' (n - i) (c - i)) w)∧(∀ W l,RdKn W (.slice p n c) l→RdKn W (.slice p' (n - i) (c - i)) (l.drop i)):=by
 refine ⟨if c = i then p else p.map (·.add (i * 6)),fun w=>?_,fun W l hr=>?_⟩
 · have hu:Tryz.prog.underlying 22 = some (.slice (Tryz.prog.elem 22)):=by rw [elemK];exact Tryz.underlying22
   rw [run_sliceAt_slice _ _ _ _ _ _ hu,run_slice_l _ _ _ _ _ hu .i64 (i:Int) J2 J2,elemK,sizeK]
   simp [Result.andThen,sliced]
 · have hn:=hr.len
   have:=hr.sub i l.length J2 nrf
   rw [List.take_length,← hn] at this
   exact this
theorem sl_hi (p:Option Addr) (n c i:Nat) (h:i≤n) (hc:n≤c):∃ p',(∀ w,(Instr.sliceAt 22 (.slice p n c) none (some (.int .i64 (i:Int))) none).run Tryz.prog w = .ok (.slice p' i c) w)∧(∀ W l,RdKn W (.slice p n c) l→RdKn W (.slice p' i c) (l.take i)):=by
 refine ⟨if c = 0 then p else p.map (·.add (0 * 6)),fun w=>?_,fun W l hr=>?_⟩
 · have hu:Tryz.prog.underlying 22 = some (.slice (Tryz.prog.elem 22)):=by rw [elemK];exact Tryz.underlying22
   rw [run_sliceAt_slice _ _ _ _ _ _ hu,run_slice_h _ _ _ _ _ hu .i64 (i:Int) J2 J2,elemK,sizeK]
   simp [Result.andThen,sliced]
 · have hn:=hr.len
   have:=hr.sub 0 i J2 J2
   simpa using this
def DPut (W:World) (d:Nat) (L:List Kn) (e:Ending) (w':World):Prop :=
 e = .returned (.tuple #[])∧∃ p c,DBr w' d p c L∧(∀ a,p = some a→W.heap.size≤a.block)∧ExtB d W w'
theorem top6 {W:World} {x:Kn} {T:TypeId}:∀ j u,(cK x)[j]? = some u→(W.alloc (.cells #[.int .i64 x.r,.int .i64 x.c,.int .i64 x.v.k,.int .i64 x.v.n,.string x.v.s,.int .i64 x.v.e] T)).cell? ⟨W.heap.size,j,none⟩ = some u:=by
 intro j u hu
 match j,hu with
 | 0,hu=>simp [cK] at hu;subst hu;simp [go_sem]
 | 1,hu=>simp [cK] at hu;subst hu;simp [go_sem]
 | 2,hu=>simp [cK] at hu;subst hu;simp [go_sem]
 | 3,hu=>simp [cK] at hu;subst hu;simp [go_sem]
 | 4,hu=>simp [cK] at hu;subst hu;simp [go_sem]
 | 5,hu=>simp [cK] at hu;subst hu;simp [go_sem]
 | j+6,hu=>simp [cK] at hu
theorem Ext.Bd {d:Nat} {W w:World} (h:Ext W w) (u:Value):ExtB d W (w.setCell ⟨d,0,none⟩ u):=by
 refine (h.toB d).trans ⟨rfl,rfl,rfl,by simp [World.setCell],fun k _ hk=>?_⟩
 exact Below.heap_setCell _ _ _ _ hk
theorem dput_end {W w:World} {d cp base n:Nat} {p:Option Addr} {L L':List Kn} {v:Value} (hD:DBr W d p cp L) (e:Ext W w) (o:w.ownsRow base 35 6 v n (L'.flatMap cK)) (hn:n = L'.length) (hb:W.heap.size≤base) :
   DPut W d L' (.returned (.tuple #[])) (w.setCell ⟨d,0,none⟩ v):=by
 subst hn
 have hD':=hD.ext e
 obtain ⟨p',c',rfl,hc⟩:=own_form o
 have hfar:∀ a,p' = some a→base≤a.block∧a.block < w.heap.size:=fun a ha=>by
   subst ha
   exact o.lt a.block rfl
 have hne:∀ a,p' = some a→a.block≠d:=fun a ha h=>by have:=(hfar a ha).1;have:=hD.lt;omega
 refine ⟨rfl,p',c',⟨by simpa [World.setCell] using hD'.lt,wSa _ ⟨d,0,none⟩ _ (by rw [hD'.cell]),by rw [wFz];exact hD'.fz,?_,fun a ha=>⟨by simpa [World.setCell] using (hfar a ha).2,hne a ha⟩⟩,fun a ha=>Nat.le_trans hb (hfar a ha).1,e.Bd _⟩
 exact (own_rdK o rfl).keep (by simp [World.setCell]) (fun a ha _=>Below.heap_setCell _ _ _ _ (hne a ha))
theorem own_newK {T:TypeId} {k b:Nat} (w W:World) (hb:b = W.heap.size) (h:w.heap.size≤W.heap.size):(W.alloc (.cells #[] T)).ownsRow w.heap.size T k (.slice (some ⟨b,0,none⟩) 0 0) 0 []:=by subst hb;exact own_new w W h
theorem kn_app {ops:Array Oper} {rest:List Oper} {o:Oper} {a:Act} {Q:Exit→Act→World→Prop} (W WA:World) (s x:Operand) (ov va:Value) (l m:List Kn) (N K base:Nat) (hgd:o.guard = none)
   (ho:o.op = .call { callee:=.builtin .append,args:=#[s,x],argTypes:=#[22,22] }) (hs:a.eval s = ov) (hx:a.eval x = va) (hN:l.length = N) (hK:m.length = K)
   (hB:WA.ownsRow base 35 6 ov N (l.flatMap cK)) (hR:RdKn WA va m) (e:Ext W WA) (hb:W.heap.size≤base) (hb2:base≤WA.heap.size) (hl:N+K≤10000)
   (h:∀ pv c W',W'.ownsRow base 35 6 (.slice pv (N+K) c) (N+K) ((l ++ m).flatMap cK)→Ext W W'→WA.grownBy W' ov.ownBlock→wpList Tryz.prog ops Q rest (a.put o.dst (.slice pv (N+K) c)) W') :
   wpList Tryz.prog ops Q (o :: rest) a WA:=by
 subst hN hK
 refine own_app eltK WA W s x ov va l.length m.length (l.flatMap cK) (m.flatMap cK) base hgd ho hs hx hB hR.row (cK_one m) J30 J2 e hb hb2 ?_
 intro v' W' k1 k2 k3
 obtain ⟨pv,c,rfl,_⟩:=own_form k1
 refine h pv c W' ?_ k2 k3
 rw [List.flatMap_append]
 exact k1
theorem RdKn.one {W:World} {g:Nat} {x:Kn} (hg:g < W.heap.size) (h:∀ j u,(cK x)[j]? = some u→W.cell? ⟨g,j,none⟩ = some u):RdKn W (.slice (some ⟨g,0,none⟩) 1 1) [x]:=by
 refine ⟨_,1,rfl,Nat.le_refl _,.inr ⟨g,0,rfl,hg,fun i y j u hi hj=>?_⟩⟩
 cases i with
 | zero=>simp at hi;subst hi;simpa using h j u hj
 | succ i=>simp at hi
theorem dput_out (W:World) (d cp:Nat) (p:Option Addr) (L:List Kn) (h:DBr W d p cp L) (r c k nn:Int) (s:ByteArray) (e:Int) (hi:inB r c = false) :
   Calls Tryz.prog 27 #[.pointer (some ⟨d,0,none⟩),.int .i64 r,.int .i64 c,.agg #[.int .i64 k,.int .i64 nn,.string s,.int .i64 e]] W fun e w'=>e = .returned (.tuple #[])∧DBr w' d p cp L∧Ext W w':=by
 have c1:=fun W=>rin_any r c W
 rw [hi] at c1
 have HD:Hid (DBr W d p cp L):=h
 clear h hi
 go_enter func27,ntmps27
 go_wp2_with fail
 refine (c1 _).mono ?_
 rintro e w1 ⟨rfl,rfl⟩
 go_wp2_with fail
 refine bodyPost_ret (v:=.tuple #[]) J44 rfl ?_
 exact ⟨rfl,HD.out.ext (xr.alloc _),xr.alloc _⟩
theorem dput_sb (W:World) (d cp:Nat) (p:Option Addr) (L:List Kn) (h:DBr W d p cp L) (hl:L.length≤1000) (r c k nn:Int) (s:ByteArray) (e:Int) (hi:inB r c = true) (v:V) (hv:nm k nn s e = v) (hs:atB r c L = true) (hk:v.k = 0) :
   Calls Tryz.prog 27 #[.pointer (some ⟨d,0,none⟩),.int .i64 r,.int .i64 c,.agg #[.int .i64 k,.int .i64 nn,.string s,.int .i64 e]] W (DPut W d (putL L r c v)):=by
 have c1:=fun W=>rin_any r c W
 have hput:putL L r c v = L.take (atI r c L) ++ [] ++ (L.drop (atI r c L)).drop 1:=by
   unfold putL newL
   rw [if_pos hi,hs,if_pos hk]
   simp
 rw [hi] at c1
 have c2:=fun W'=>rnormal_any k nn s e W'
 rw [hv,dat_eq] at c2
 have c3:=fun W' (e:Ext W W')=>at_any W' d cp p L (h.ext e) J2 r c
 obtain ⟨n,hn⟩:∃ n,L.length = n:=⟨_,rfl⟩
 have hin:atI r c L≤n:=J121
 have hlt:atI r c L < n:=by rw [← hn];exact atB_lt hs
 rw [hput]
 generalize atI r c L = i at *
 rw [hs] at c3
 have hD:=h
 have hcp:n≤cp:=by obtain ⟨_,_,h1,h2,_⟩:=h.rd;cases h1;omega
 obtain ⟨p1,hr1,hp1⟩:=sl_lo p n cp i hin
 obtain ⟨p3,hr3,hp3⟩:=sl_hi p n cp i hin hcp
 obtain ⟨p2,hr2,hp2⟩:=sl_lo p1 (n - i) (cp - i) 1 J2
 have HD:Hid (DBr W d p cp L∧L.length = n):=⟨h,hn⟩
 have HP:Hid ((∀ W l,RdKn W (.slice p n cp) l→RdKn W (.slice p2 (n - i - 1) (cp - i - 1)) ((l.drop i).drop 1))∧(∀ W l,RdKn W (.slice p n cp) l→RdKn W (.slice p3 i cp) (l.take i))):=⟨(fun W l h=>hp2 W _ (hp1 W l h)),hp3⟩
 have HR1:Hid _:=hr1
 have HR3:Hid _:=hr3
 have HR2:Hid _:=hr2
 have HN:Hid (i≤n∧n≤1000∧n≤cp∧i < n):=⟨hin,by omega,hcp,hlt⟩
 obtain ⟨vk,vn,vs,ve,q1,q2,q3,q4⟩:∃ vk vn vs ve,v.k = vk∧v.n = vn∧v.s = vs∧v.e = ve:=⟨_,_,_,_,rfl,rfl,rfl,rfl⟩
 have HVV:Hid (v.k = vk∧v.n = vn∧v.s = vs∧v.e = ve):=⟨q1,q2,q3,q4⟩
 rw [q1,q2,q3,q4] at c2
 rw [q1] at hk
 have k0:(vk != 0) = false:=J96
 clear h hi hv hk hs hD hp1 hp3 hr1 hr3 hin hcp hn hl hput q1 q2 q3 q4 hp2 hr2 hlt
 go_enter func27,ntmps27
 go_wp2_with fail
 refine (c1 _).mono ?_
 rintro e w1 ⟨rfl,rfl⟩
 go_wp2_with fail
 refine (c2 _).mono ?_
 rintro e w1 ⟨rfl,E1⟩
 have B1:=blk_top (b:=W.heap.size) J65 E1
 have X1:Hid (Ext W w1):=(xr.alloc _).trans E1
 have D0:=B1
 obtain ⟨b0z,⟨b0_0,b0_1,b0_2,b0_3⟩,b0f0,b0f1,b0f2,b0f3⟩:=D0
 clear c1 c2 E1
 go_wp2_with fail
 refine (c3 _ (by exact (((X1.out.setCell J65 _).setCell J65 _).setCell J65 _).setCell J65 _)).mono ?_
 rintro e w2 ⟨rfl,E2⟩
 have X2:Hid (Ext W w2):=((((X1.out.setCell J65 _).setCell J65 _).setCell J65 _).setCell J65 _).trans E2
 have B2:=(B1.set _ _ _ _).ext E2
 have dc:=(HD.out.1.ext X2.out).cell
 rw [HD.out.2] at dc
 have df:=(HD.out.1.ext X2.out).fz
 have dl:=(HD.out.1.ext X2.out).lt
 have D2:=B2
 obtain ⟨zV,⟨v0,v1,v2,v3⟩,g0,g1,g2,g3⟩:=D2
 clear E2 b0z b0_0 b0_1 b0_2 b0_3 b0f0 b0f1 b0f2 b0f3 B1 X1 c3
 have HX3:Hid (Ext W (w2.alloc (.cells #[] 35))):=X2.out.alloc _
 have HO3:Hid ((w2.alloc (.cells #[] 35)).ownsRow w2.heap.size 35 6 (.slice (some ⟨w2.heap.size,0,none⟩) 0 0) 0 (([]:List Kn).flatMap cK)):=own_newK w2 w2 rfl nrf
 have HRD:Hid (∀ W',Ext W W'→RdKn W' (.slice p n cp) L):=fun W' e=>by
   exact K113
 have HK3:Hid (RdKn (w2.alloc (.cells #[] 35)) (.slice p3 i cp) (L.take i)):=HP.out.2 _ L (HRD.out _ HX3.out)
 have HL3:Hid ((L.take i).length = i):=by
   exact K105
 have HS3:Hid (w2.heap.size≤(w2.alloc (.cells #[] 35)).heap.size∧W.heap.size≤w2.heap.size):=⟨by simp,X2.out.size⟩
 go_upto_region 8 with (first
   | (refine wpList_sl _ rfl _ _ _ _ rfl (.slice p n cp) _ (some (.int .i64 (i:Int))) none J26 J26 J26 (HR1.out _) ?_)
   | (refine wpList_sl _ rfl _ _ _ _ rfl (.slice p n cp) _ none (some (.int .i64 (i:Int))) J26 J26 J26 (HR3.out _) ?_)
   | (refine wpList_sl _ rfl _ _ _ _ rfl (.slice p1 (n - i) (cp - i)) _ (some (.int .i64 ((1:Nat):Int))) none J26 J26 J26 (HR2.out _) ?_)
   | (at_builtin;refine kn_app W _ _ _ _ _ [] (L.take i) 0 i w2.heap.size rfl rfl J26 J26 rfl HL3.out HO3.out HK3.out HX3.out HS3.out.2 HS3.out.1 (by have:=HN.out;omega) ?_;intro pv4 c4 w4 o4 e4 g4;have H4:Hid (w4.ownsRow w2.heap.size 35 6 (.slice pv4 i c4) i ((L.take i).flatMap cK)∧Ext W w4∧w2.heap.size≤w4.heap.size):=⟨(by simpa using o4),e4,Nat.le_trans J65 g4.size⟩;have B4:=(B2.al (.cells #[] 35)).grown g4 (by intro q;simp [Value.ownBlock] at q;omega);have dc4:=(HD.out.1.ext e4).cell;rw [HD.out.2] at dc4;have df4:=(HD.out.1.ext e4).fz;clear o4 e4 g4))
 clear dc df dl zV v0 v1 v2 v3 g0 g1 g2 g3 B2 HO3 HK3 HX3 HR1 HR3 HR2
 obtain ⟨zV,⟨v0,v1,v2,v3⟩,g0,g1,g2,g3⟩:=B4
 have HLB:Hid (((L.drop i).drop 1).length = (n - i - 1)):=by
   exact K140
 go_wp2_with (at_builtin;refine kn_app W _ _ _ _ _ (L.take i) ((L.drop i).drop 1) i (n - i - 1) w2.heap.size rfl rfl J26 J26 HL3.out HLB.out H4.out.1 (HP.out.1 _ L (HRD.out _ H4.out.2.1)) H4.out.2.1 HS3.out.2 H4.out.2.2 (by have:=HN.out;omega) ?_;intro pv6 c6 w6 o6 e6 g6;have H6:Hid (w6.ownsRow w2.heap.size 35 6 (.slice pv6 (i+(n - i - 1)) c6) (i+(n - i - 1)) ((L.take i ++ ((L.drop i).drop 1)).flatMap cK)∧Ext W w6):=⟨o6,e6⟩;have dc6:=(HD.out.1.ext e6).cell;rw [HD.out.2] at dc6;have df6:=(HD.out.1.ext e6).fz;clear o6 e6 g6)
 exact K109
theorem dput_sv (W:World) (d cp:Nat) (p:Option Addr) (L:List Kn) (h:DBr W d p cp L) (hl:L.length≤1000) (r c k nn:Int) (s:ByteArray) (e:Int) (hi:inB r c = true) (v:V) (hv:nm k nn s e = v) (hs:atB r c L = true) (hk:v.k≠0) :
   Calls Tryz.prog 27 #[.pointer (some ⟨d,0,none⟩),.int .i64 r,.int .i64 c,.agg #[.int .i64 k,.int .i64 nn,.string s,.int .i64 e]] W (DPut W d (putL L r c v)):=by
 have c1:=fun W=>rin_any r c W
 have hput:putL L r c v = L.take (atI r c L) ++ [⟨r,c,v.rw⟩] ++ (L.drop (atI r c L)).drop 1:=by
   unfold putL newL
   rw [if_pos hi,hs,if_neg hk]
   simp
 rw [hi] at c1
 have c2:=fun W'=>rnormal_any k nn s e W'
 rw [hv,dat_eq] at c2
 have c3:=fun W' (e:Ext W W')=>at_any W' d cp p L (h.ext e) J2 r c
 obtain ⟨n,hn⟩:∃ n,L.length = n:=⟨_,rfl⟩
 have hin:atI r c L≤n:=J121
 have hlt:atI r c L < n:=by rw [← hn];exact atB_lt hs
 rw [hput]
 generalize atI r c L = i at *
 rw [hs] at c3
 have hD:=h
 have hcp:n≤cp:=by obtain ⟨_,_,h1,h2,_⟩:=h.rd;cases h1;omega
 obtain ⟨p1,hr1,hp1⟩:=sl_lo p n cp i hin
 obtain ⟨p3,hr3,hp3⟩:=sl_hi p n cp i hin hcp
 obtain ⟨p2,hr2,hp2⟩:=sl_lo p1 (n - i) (cp - i) 1 J2
 have HD:Hid (DBr W d p cp L∧L.length = n):=⟨h,hn⟩
 have HP:Hid ((∀ W l,RdKn W (.slice p n cp) l→RdKn W (.slice p2 (n - i - 1) (cp - i - 1)) ((l.drop i).drop 1))∧(∀ W l,RdKn W (.slice p n cp) l→RdKn W (.slice p3 i cp) (l.take i))):=⟨(fun W l h=>hp2 W _ (hp1 W l h)),hp3⟩
 have HR1:Hid _:=hr1
 have HR3:Hid _:=hr3
 have HR2:Hid _:=hr2
 have HN:Hid (i≤n∧n≤1000∧n≤cp∧i < n):=⟨hin,by omega,hcp,hlt⟩
 obtain ⟨vk,vn,vs,ve,q1,q2,q3,q4⟩:∃ vk vn vs ve,v.k = vk∧v.n = vn∧v.s = vs∧v.e = ve:=⟨_,_,_,_,rfl,rfl,rfl,rfl⟩
 have HVV:Hid (v.k = vk∧v.n = vn∧v.s = vs∧v.e = ve):=⟨q1,q2,q3,q4⟩
 rw [q1,q2,q3,q4] at c2
 rw [q1] at hk
 have k0:(vk != 0) = true:=J96
 clear h hi hv hk hs hD hp1 hp3 hr1 hr3 hin hcp hn hl hput q1 q2 q3 q4 hp2 hr2 hlt
 go_enter func27,ntmps27
 go_wp2_with fail
 refine (c1 _).mono ?_
 rintro e w1 ⟨rfl,rfl⟩
 go_wp2_with fail
 refine (c2 _).mono ?_
 rintro e w1 ⟨rfl,E1⟩
 have B1:=blk_top (b:=W.heap.size) J65 E1
 have X1:Hid (Ext W w1):=(xr.alloc _).trans E1
 have D0:=B1
 obtain ⟨b0z,⟨b0_0,b0_1,b0_2,b0_3⟩,b0f0,b0f1,b0f2,b0f3⟩:=D0
 clear c1 c2 E1
 go_wp2_with fail
 refine (c3 _ (by exact (((X1.out.setCell J65 _).setCell J65 _).setCell J65 _).setCell J65 _)).mono ?_
 rintro e w2 ⟨rfl,E2⟩
 have X2:Hid (Ext W w2):=((((X1.out.setCell J65 _).setCell J65 _).setCell J65 _).setCell J65 _).trans E2
 have B2:=(B1.set _ _ _ _).ext E2
 have dc:=(HD.out.1.ext X2.out).cell
 rw [HD.out.2] at dc
 have df:=(HD.out.1.ext X2.out).fz
 have dl:=(HD.out.1.ext X2.out).lt
 have D2:=B2
 obtain ⟨zV,⟨v0,v1,v2,v3⟩,g0,g1,g2,g3⟩:=D2
 clear E2 b0z b0_0 b0_1 b0_2 b0_3 b0f0 b0f1 b0f2 b0f3 B1 X1 c3
 have HX3:Hid (Ext W (w2.alloc (.cells #[] 35))):=X2.out.alloc _
 have HO3:Hid ((w2.alloc (.cells #[] 35)).ownsRow w2.heap.size 35 6 (.slice (some ⟨w2.heap.size,0,none⟩) 0 0) 0 (([]:List Kn).flatMap cK)):=own_newK w2 w2 rfl nrf
 have HRD:Hid (∀ W',Ext W W'→RdKn W' (.slice p n cp) L):=fun W' e=>by
   exact K113
 have HK3:Hid (RdKn (w2.alloc (.cells #[] 35)) (.slice p3 i cp) (L.take i)):=HP.out.2 _ L (HRD.out _ HX3.out)
 have HL3:Hid ((L.take i).length = i):=by
   exact K105
 have HS3:Hid (w2.heap.size≤(w2.alloc (.cells #[] 35)).heap.size∧W.heap.size≤w2.heap.size):=⟨by simp,X2.out.size⟩
 go_upto_region 8 with (first
   | (refine wpList_sl _ rfl _ _ _ _ rfl (.slice p n cp) _ (some (.int .i64 (i:Int))) none J26 J26 J26 (HR1.out _) ?_)
   | (refine wpList_sl _ rfl _ _ _ _ rfl (.slice p n cp) _ none (some (.int .i64 (i:Int))) J26 J26 J26 (HR3.out _) ?_)
   | (refine wpList_sl _ rfl _ _ _ _ rfl (.slice p1 (n - i) (cp - i)) _ (some (.int .i64 ((1:Nat):Int))) none J26 J26 J26 (HR2.out _) ?_)
   | (at_builtin;refine kn_app W _ _ _ _ _ [] (L.take i) 0 i w2.heap.size rfl rfl J26 J26 rfl HL3.out HO3.out HK3.out HX3.out HS3.out.2 HS3.out.1 (by have:=HN.out;omega) ?_;intro pv4 c4 w4 o4 e4 g4;have H4:Hid (w4.ownsRow w2.heap.size 35 6 (.slice pv4 i c4) i ((L.take i).flatMap cK)∧Ext W w4∧w2.heap.size≤w4.heap.size):=⟨(by simpa using o4),e4,Nat.le_trans J65 g4.size⟩;have B4:=(B2.al (.cells #[] 35)).grown g4 (by intro q;simp [Value.ownBlock] at q;omega);have dc4:=(HD.out.1.ext e4).cell;rw [HD.out.2] at dc4;have df4:=(HD.out.1.ext e4).fz;clear o4 e4 g4))
 clear dc df dl zV v0 v1 v2 v3 g0 g1 g2 g3 B2 HO3 HK3 HX3 HR1 HR3 HR2
 obtain ⟨zV,⟨v0,v1,v2,v3⟩,g0,g1,g2,g3⟩:=B4
 have HLB:Hid (((L.drop i).drop 1).length = (n - i - 1)):=by
   exact K140
 have HO4:Hid ((w4.alloc (.cells #[.int .i64 r,.int .i64 c,.int .i64 vk,.int .i64 vn,.string vs,.int .i64 ve] 35)).ownsRow w2.heap.size 35 6 (.slice pv4 i c4) i ((L.take i).flatMap cK)):=ownsRow_ext H4.out.1 (xr.alloc _)
 have HK4:Hid (RdKn (w4.alloc (.cells #[.int .i64 r,.int .i64 c,.int .i64 vk,.int .i64 vn,.string vs,.int .i64 ve] 35)) (.slice (some ⟨w4.heap.size,0,none⟩) 1 1) [⟨r,c,⟨vk,vn,vs,ve⟩⟩]):=RdKn.one (x:=⟨r,c,⟨vk,vn,vs,ve⟩⟩) J65 (top6 (x:=⟨r,c,⟨vk,vn,vs,ve⟩⟩))
 have HX4:Hid (Ext W (w4.alloc (.cells #[.int .i64 r,.int .i64 c,.int .i64 vk,.int .i64 vn,.string vs,.int .i64 ve] 35))∧w2.heap.size≤(w4.alloc (.cells #[.int .i64 r,.int .i64 c,.int .i64 vk,.int .i64 vn,.string vs,.int .i64 ve] 35)).heap.size):=⟨H4.out.2.1.alloc _,Nat.le_trans H4.out.2.2 J65⟩
 go_wp2_with (first | (at_builtin;refine kn_app W _ _ _ (.slice pv4 i c4) (.slice (some ⟨w4.heap.size,0,none⟩) 1 1) (L.take i) [⟨r,c,⟨vk,vn,vs,ve⟩⟩] i 1 w2.heap.size rfl rfl J26 J26 HL3.out rfl HO4.out HK4.out HX4.out.1 HS3.out.2 HX4.out.2 (by have:=HN.out;omega) ?_;intro pv5 c5 w5 o5 e5 g5;have H5:Hid (w5.ownsRow w2.heap.size 35 6 (.slice pv5 (i+1) c5) (i+1) ((L.take i ++ ([⟨r,c,⟨vk,vn,vs,ve⟩⟩]:List Kn)).flatMap cK)∧Ext W w5∧w2.heap.size≤w5.heap.size):=⟨o5,e5,Nat.le_trans HX4.out.2 g5.size⟩;have dc5:=(HD.out.1.ext e5).cell;rw [HD.out.2] at dc5;have df5:=(HD.out.1.ext e5).fz;clear o5 e5 g5 zV v0 v1 v2 v3 g0 g1 g2 g3 dc4 df4) | (at_builtin;refine kn_app W _ _ _ (.slice pv5 (i+1) c5) _ (L.take i ++ ([⟨r,c,⟨vk,vn,vs,ve⟩⟩]:List Kn)) ((L.drop i).drop 1) (i+1) (n - i - 1) w2.heap.size rfl rfl J26 J26 (by rw [List.length_append,HL3.out];rfl) HLB.out H5.out.1 (HP.out.1 _ L (HRD.out _ H5.out.2.1)) H5.out.2.1 HS3.out.2 H5.out.2.2 (by have:=HN.out;omega) ?_;intro pv6 c6 w6 o6 e6 g6;have H6:Hid (w6.ownsRow w2.heap.size 35 6 (.slice pv6 (i+1+(n - i - 1)) c6) (i+1+(n - i - 1)) ((L.take i ++ ([⟨r,c,⟨vk,vn,vs,ve⟩⟩]:List Kn) ++ ((L.drop i).drop 1)).flatMap cK)∧Ext W w6):=⟨o6,e6⟩;have dc6:=(HD.out.1.ext e6).cell;rw [HD.out.2] at dc6;have df6:=(HD.out.1.ext e6).fz;clear o6 e6 g6))
 exact K71
theorem dput_nb (W:World) (d cp:Nat) (p:Option Addr) (L:List Kn) (h:DBr W d p cp L) (hl:L.length≤1000) (r c k nn:Int) (s:ByteArray) (e:Int) (hi:inB r c = true) (v:V) (hv:nm k nn s e = v) (hs:atB r c L = false) (hk:v.k = 0) :
   Calls Tryz.prog 27 #[.pointer (some ⟨d,0,none⟩),.int .i64 r,.int .i64 c,.agg #[.int .i64 k,.int .i64 nn,.string s,.int .i64 e]] W (DPut W d (putL L r c v)):=by
 have c1:=fun W=>rin_any r c W
 have hput:putL L r c v = L.take (atI r c L) ++ [] ++ L.drop (atI r c L):=by
   unfold putL newL
   rw [if_pos hi,hs,if_pos hk]
   simp
 rw [hi] at c1
 have c2:=fun W'=>rnormal_any k nn s e W'
 rw [hv,dat_eq] at c2
 have c3:=fun W' (e:Ext W W')=>at_any W' d cp p L (h.ext e) J2 r c
 obtain ⟨n,hn⟩:∃ n,L.length = n:=⟨_,rfl⟩
 have hin:atI r c L≤n:=J121
 rw [hput]
 generalize atI r c L = i at *
 rw [hs] at c3
 have hD:=h
 have hcp:n≤cp:=by obtain ⟨_,_,h1,h2,_⟩:=h.rd;cases h1;omega
 obtain ⟨p1,hr1,hp1⟩:=sl_lo p n cp i hin
 obtain ⟨p3,hr3,hp3⟩:=sl_hi p n cp i hin hcp
 have HD:Hid (DBr W d p cp L∧L.length = n):=⟨h,hn⟩
 have HP:Hid ((∀ W l,RdKn W (.slice p n cp) l→RdKn W (.slice p1 (n - i) (cp - i)) (l.drop i))∧(∀ W l,RdKn W (.slice p n cp) l→RdKn W (.slice p3 i cp) (l.take i))):=⟨hp1,hp3⟩
 have HR1:Hid _:=hr1
 have HR3:Hid _:=hr3
 have HN:Hid (i≤n∧n≤1000∧n≤cp):=⟨hin,by omega,hcp⟩
 obtain ⟨vk,vn,vs,ve,q1,q2,q3,q4⟩:∃ vk vn vs ve,v.k = vk∧v.n = vn∧v.s = vs∧v.e = ve:=⟨_,_,_,_,rfl,rfl,rfl,rfl⟩
 have HVV:Hid (v.k = vk∧v.n = vn∧v.s = vs∧v.e = ve):=⟨q1,q2,q3,q4⟩
 rw [q1,q2,q3,q4] at c2
 rw [q1] at hk
 have k0:(vk != 0) = false:=J96
 clear h hi hv hk hs hD hp1 hp3 hr1 hr3 hin hcp hn hl hput q1 q2 q3 q4
 go_enter func27,ntmps27
 go_wp2_with fail
 refine (c1 _).mono ?_
 rintro e w1 ⟨rfl,rfl⟩
 go_wp2_with fail
 refine (c2 _).mono ?_
 rintro e w1 ⟨rfl,E1⟩
 have B1:=blk_top (b:=W.heap.size) J65 E1
 have X1:Hid (Ext W w1):=(xr.alloc _).trans E1
 have D0:=B1
 obtain ⟨b0z,⟨b0_0,b0_1,b0_2,b0_3⟩,b0f0,b0f1,b0f2,b0f3⟩:=D0
 clear c1 c2 E1
 go_wp2_with fail
 refine (c3 _ (by exact (((X1.out.setCell J65 _).setCell J65 _).setCell J65 _).setCell J65 _)).mono ?_
 rintro e w2 ⟨rfl,E2⟩
 have X2:Hid (Ext W w2):=((((X1.out.setCell J65 _).setCell J65 _).setCell J65 _).setCell J65 _).trans E2
 have B2:=(B1.set _ _ _ _).ext E2
 have dc:=(HD.out.1.ext X2.out).cell
 rw [HD.out.2] at dc
 have df:=(HD.out.1.ext X2.out).fz
 have dl:=(HD.out.1.ext X2.out).lt
 have D2:=B2
 obtain ⟨zV,⟨v0,v1,v2,v3⟩,g0,g1,g2,g3⟩:=D2
 clear E2 b0z b0_0 b0_1 b0_2 b0_3 b0f0 b0f1 b0f2 b0f3 B1 X1 c3
 have HX3:Hid (Ext W (w2.alloc (.cells #[] 35))):=X2.out.alloc _
 have HO3:Hid ((w2.alloc (.cells #[] 35)).ownsRow w2.heap.size 35 6 (.slice (some ⟨w2.heap.size,0,none⟩) 0 0) 0 (([]:List Kn).flatMap cK)):=own_newK w2 w2 rfl nrf
 have HRD:Hid (∀ W',Ext W W'→RdKn W' (.slice p n cp) L):=fun W' e=>by
   exact K113
 have HK3:Hid (RdKn (w2.alloc (.cells #[] 35)) (.slice p3 i cp) (L.take i)):=HP.out.2 _ L (HRD.out _ HX3.out)
 have HL3:Hid ((L.take i).length = i):=by
   exact K105
 have HS3:Hid (w2.heap.size≤(w2.alloc (.cells #[] 35)).heap.size∧W.heap.size≤w2.heap.size):=⟨by simp,X2.out.size⟩
 go_upto_region 8 with (first
   | (refine wpList_sl _ rfl _ _ _ _ rfl (.slice p n cp) _ (some (.int .i64 (i:Int))) none J26 J26 J26 (HR1.out _) ?_)
   | (refine wpList_sl _ rfl _ _ _ _ rfl (.slice p n cp) _ none (some (.int .i64 (i:Int))) J26 J26 J26 (HR3.out _) ?_)
   | (at_builtin;refine kn_app W _ _ _ _ _ [] (L.take i) 0 i w2.heap.size rfl rfl J26 J26 rfl HL3.out HO3.out HK3.out HX3.out HS3.out.2 HS3.out.1 (by have:=HN.out;omega) ?_;intro pv4 c4 w4 o4 e4 g4;have H4:Hid (w4.ownsRow w2.heap.size 35 6 (.slice pv4 i c4) i ((L.take i).flatMap cK)∧Ext W w4∧w2.heap.size≤w4.heap.size):=⟨(by simpa using o4),e4,Nat.le_trans J65 g4.size⟩;have B4:=(B2.al (.cells #[] 35)).grown g4 (by intro q;simp [Value.ownBlock] at q;omega);have dc4:=(HD.out.1.ext e4).cell;rw [HD.out.2] at dc4;have df4:=(HD.out.1.ext e4).fz;clear o4 e4 g4))
 clear dc df dl zV v0 v1 v2 v3 g0 g1 g2 g3 B2 HO3 HK3 HX3 HR1 HR3
 obtain ⟨zV,⟨v0,v1,v2,v3⟩,g0,g1,g2,g3⟩:=B4
 have HLB:Hid ((L.drop i).length = (n - i)):=by
   exact K140
 go_wp2_with (at_builtin;refine kn_app W _ _ _ _ _ (L.take i) (L.drop i) i (n - i) w2.heap.size rfl rfl J26 J26 HL3.out HLB.out H4.out.1 (HP.out.1 _ L (HRD.out _ H4.out.2.1)) H4.out.2.1 HS3.out.2 H4.out.2.2 (by have:=HN.out;omega) ?_;intro pv6 c6 w6 o6 e6 g6;have H6:Hid (w6.ownsRow w2.heap.size 35 6 (.slice pv6 (i+(n - i)) c6) (i+(n - i)) ((L.take i ++ (L.drop i)).flatMap cK)∧Ext W w6):=⟨o6,e6⟩;have dc6:=(HD.out.1.ext e6).cell;rw [HD.out.2] at dc6;have df6:=(HD.out.1.ext e6).fz;clear o6 e6 g6)
 exact K109
theorem dput_nv (W:World) (d cp:Nat) (p:Option Addr) (L:List Kn) (h:DBr W d p cp L) (hl:L.length≤1000) (r c k nn:Int) (s:ByteArray) (e:Int) (hi:inB r c = true) (v:V) (hv:nm k nn s e = v) (hs:atB r c L = false) (hk:v.k≠0) :
   Calls Tryz.prog 27 #[.pointer (some ⟨d,0,none⟩),.int .i64 r,.int .i64 c,.agg #[.int .i64 k,.int .i64 nn,.string s,.int .i64 e]] W (DPut W d (putL L r c v)):=by
 have c1:=fun W=>rin_any r c W
 have hput:putL L r c v = L.take (atI r c L) ++ [⟨r,c,v.rw⟩] ++ L.drop (atI r c L):=by
   unfold putL newL
   rw [if_pos hi,hs,if_neg hk]
   simp
 rw [hi] at c1
 have c2:=fun W'=>rnormal_any k nn s e W'
 rw [hv,dat_eq] at c2
 have c3:=fun W' (e:Ext W W')=>at_any W' d cp p L (h.ext e) J2 r c
 obtain ⟨n,hn⟩:∃ n,L.length = n:=⟨_,rfl⟩
 have hin:atI r c L≤n:=J121
 rw [hput]
 generalize atI r c L = i at *
 rw [hs] at c3
 have hD:=h
 have hcp:n≤cp:=by obtain ⟨_,_,h1,h2,_⟩:=h.rd;cases h1;omega
 obtain ⟨p1,hr1,hp1⟩:=sl_lo p n cp i hin
 obtain ⟨p3,hr3,hp3⟩:=sl_hi p n cp i hin hcp
 have HD:Hid (DBr W d p cp L∧L.length = n):=⟨h,hn⟩
 have HP:Hid ((∀ W l,RdKn W (.slice p n cp) l→RdKn W (.slice p1 (n - i) (cp - i)) (l.drop i))∧(∀ W l,RdKn W (.slice p n cp) l→RdKn W (.slice p3 i cp) (l.take i))):=⟨hp1,hp3⟩
 have HR1:Hid _:=hr1
 have HR3:Hid _:=hr3
 have HN:Hid (i≤n∧n≤1000∧n≤cp):=⟨hin,by omega,hcp⟩
 obtain ⟨vk,vn,vs,ve,q1,q2,q3,q4⟩:∃ vk vn vs ve,v.k = vk∧v.n = vn∧v.s = vs∧v.e = ve:=⟨_,_,_,_,rfl,rfl,rfl,rfl⟩
 have HVV:Hid (v.k = vk∧v.n = vn∧v.s = vs∧v.e = ve):=⟨q1,q2,q3,q4⟩
 rw [q1,q2,q3,q4] at c2
 rw [q1] at hk
 have k0:(vk != 0) = true:=J96
 clear h hi hv hk hs hD hp1 hp3 hr1 hr3 hin hcp hn hl hput q1 q2 q3 q4
 go_enter func27,ntmps27
 go_wp2_with fail
 refine (c1 _).mono ?_
 rintro e w1 ⟨rfl,rfl⟩
 go_wp2_with fail
 refine (c2 _).mono ?_
 rintro e w1 ⟨rfl,E1⟩
 have B1:=blk_top (b:=W.heap.size) J65 E1
 have X1:Hid (Ext W w1):=(xr.alloc _).trans E1
 have D0:=B1
 obtain ⟨b0z,⟨b0_0,b0_1,b0_2,b0_3⟩,b0f0,b0f1,b0f2,b0f3⟩:=D0
 clear c1 c2 E1
 go_wp2_with fail
 refine (c3 _ (by exact (((X1.out.setCell J65 _).setCell J65 _).setCell J65 _).setCell J65 _)).mono ?_
 rintro e w2 ⟨rfl,E2⟩
 have X2:Hid (Ext W w2):=((((X1.out.setCell J65 _).setCell J65 _).setCell J65 _).setCell J65 _).trans E2
 have B2:=(B1.set _ _ _ _).ext E2
 have dc:=(HD.out.1.ext X2.out).cell
 rw [HD.out.2] at dc
 have df:=(HD.out.1.ext X2.out).fz
 have dl:=(HD.out.1.ext X2.out).lt
 have D2:=B2
 obtain ⟨zV,⟨v0,v1,v2,v3⟩,g0,g1,g2,g3⟩:=D2
 clear E2 b0z b0_0 b0_1 b0_2 b0_3 b0f0 b0f1 b0f2 b0f3 B1 X1 c3
 have HX3:Hid (Ext W (w2.alloc (.cells #[] 35))):=X2.out.alloc _
 have HO3:Hid ((w2.alloc (.cells #[] 35)).ownsRow w2.heap.size 35 6 (.slice (some ⟨w2.heap.size,0,none⟩) 0 0) 0 (([]:List Kn).flatMap cK)):=own_newK w2 w2 rfl nrf
 have HRD:Hid (∀ W',Ext W W'→RdKn W' (.slice p n cp) L):=fun W' e=>by
   exact K113
 have HK3:Hid (RdKn (w2.alloc (.cells #[] 35)) (.slice p3 i cp) (L.take i)):=HP.out.2 _ L (HRD.out _ HX3.out)
 have HL3:Hid ((L.take i).length = i):=by
   exact K105
 have HS3:Hid (w2.heap.size≤(w2.alloc (.cells #[] 35)).heap.size∧W.heap.size≤w2.heap.size):=⟨by simp,X2.out.size⟩
 go_upto_region 8 with (first
   | (refine wpList_sl _ rfl _ _ _ _ rfl (.slice p n cp) _ (some (.int .i64 (i:Int))) none J26 J26 J26 (HR1.out _) ?_)
   | (refine wpList_sl _ rfl _ _ _ _ rfl (.slice p n cp) _ none (some (.int .i64 (i:Int))) J26 J26 J26 (HR3.out _) ?_)
   | (at_builtin;refine kn_app W _ _ _ _ _ [] (L.take i) 0 i w2.heap.size rfl rfl J26 J26 rfl HL3.out HO3.out HK3.out HX3.out HS3.out.2 HS3.out.1 (by have:=HN.out;omega) ?_;intro pv4 c4 w4 o4 e4 g4;have H4:Hid (w4.ownsRow w2.heap.size 35 6 (.slice pv4 i c4) i ((L.take i).flatMap cK)∧Ext W w4∧w2.heap.size≤w4.heap.size):=⟨(by simpa using o4),e4,Nat.le_trans J65 g4.size⟩;have B4:=(B2.al (.cells #[] 35)).grown g4 (by intro q;simp [Value.ownBlock] at q;omega);have dc4:=(HD.out.1.ext e4).cell;rw [HD.out.2] at dc4;have df4:=(HD.out.1.ext e4).fz;clear o4 e4 g4))
 clear dc df dl zV v0 v1 v2 v3 g0 g1 g2 g3 B2 HO3 HK3 HX3 HR1 HR3
 obtain ⟨zV,⟨v0,v1,v2,v3⟩,g0,g1,g2,g3⟩:=B4
 have HLB:Hid ((L.drop i).length = (n - i)):=by
   exact K140
 have HO4:Hid ((w4.alloc (.cells #[.int .i64 r,.int .i64 c,.int .i64 vk,.int .i64 vn,.string vs,.int .i64 ve] 35)).ownsRow w2.heap.size 35 6 (.slice pv4 i c4) i ((L.take i).flatMap cK)):=ownsRow_ext H4.out.1 (xr.alloc _)
 have HK4:Hid (RdKn (w4.alloc (.cells #[.int .i64 r,.int .i64 c,.int .i64 vk,.int .i64 vn,.string vs,.int .i64 ve] 35)) (.slice (some ⟨w4.heap.size,0,none⟩) 1 1) [⟨r,c,⟨vk,vn,vs,ve⟩⟩]):=RdKn.one (x:=⟨r,c,⟨vk,vn,vs,ve⟩⟩) J65 (top6 (x:=⟨r,c,⟨vk,vn,vs,ve⟩⟩))
 have HX4:Hid (Ext W (w4.alloc (.cells #[.int .i64 r,.int .i64 c,.int .i64 vk,.int .i64 vn,.string vs,.int .i64 ve] 35))∧w2.heap.size≤(w4.alloc (.cells #[.int .i64 r,.int .i64 c,.int .i64 vk,.int .i64 vn,.string vs,.int .i64 ve] 35)).heap.size):=⟨H4.out.2.1.alloc _,Nat.le_trans H4.out.2.2 J65⟩
 go_wp2_with (first | (at_builtin;refine kn_app W _ _ _ (.slice pv4 i c4) (.slice (some ⟨w4.heap.size,0,none⟩) 1 1) (L.take i) [⟨r,c,⟨vk,vn,vs,ve⟩⟩] i 1 w2.heap.size rfl rfl J26 J26 HL3.out rfl HO4.out HK4.out HX4.out.1 HS3.out.2 HX4.out.2 (by have:=HN.out;omega) ?_;intro pv5 c5 w5 o5 e5 g5;have H5:Hid (w5.ownsRow w2.heap.size 35 6 (.slice pv5 (i+1) c5) (i+1) ((L.take i ++ ([⟨r,c,⟨vk,vn,vs,ve⟩⟩]:List Kn)).flatMap cK)∧Ext W w5∧w2.heap.size≤w5.heap.size):=⟨o5,e5,Nat.le_trans HX4.out.2 g5.size⟩;have dc5:=(HD.out.1.ext e5).cell;rw [HD.out.2] at dc5;have df5:=(HD.out.1.ext e5).fz;clear o5 e5 g5 zV v0 v1 v2 v3 g0 g1 g2 g3 dc4 df4) | (at_builtin;refine kn_app W _ _ _ (.slice pv5 (i+1) c5) _ (L.take i ++ ([⟨r,c,⟨vk,vn,vs,ve⟩⟩]:List Kn)) (L.drop i) (i+1) (n - i) w2.heap.size rfl rfl J26 J26 (by rw [List.length_append,HL3.out];rfl) HLB.out H5.out.1 (HP.out.1 _ L (HRD.out _ H5.out.2.1)) H5.out.2.1 HS3.out.2 H5.out.2.2 (by have:=HN.out;omega) ?_;intro pv6 c6 w6 o6 e6 g6;have H6:Hid (w6.ownsRow w2.heap.size 35 6 (.slice pv6 (i+1+(n - i)) c6) (i+1+(n - i)) ((L.take i ++ ([⟨r,c,⟨vk,vn,vs,ve⟩⟩]:List Kn) ++ (L.drop i)).flatMap cK)∧Ext W w6):=⟨o6,e6⟩;have dc6:=(HD.out.1.ext e6).cell;rw [HD.out.2] at dc6;have df6:=(HD.out.1.ext e6).fz;clear o6 e6 g6))
 exact K71
theorem dput_any (W:World) (d cp:Nat) (p:Option Addr) (L:List Kn) (h:DBr W d p cp L) (hl:L.length≤1000) (r c k nn:Int) (s:ByteArray) (e:Int) :
   Calls Tryz.prog 27 #[.pointer (some ⟨d,0,none⟩),.int .i64 r,.int .i64 c,.agg #[.int .i64 k,.int .i64 nn,.string s,.int .i64 e]] W fun e' w'=>e' = .returned (.tuple #[])∧∃ p' c',DBr w' d p' c' (putL L r c (nm k nn s e))∧(p' = p∨∀ a,p' = some a→W.heap.size≤a.block)∧ExtB d W w':=by
 cases hi:inB r c with
 | false =>
   have hp:putL L r c (nm k nn s e) = L:=by unfold putL;rw [hi];rfl
   rw [hp]
   refine (dput_out W d cp p L h r c k nn s e hi).mono ?_
   rintro e' w' ⟨h1,h2,h3⟩
   exact ⟨h1,p,cp,h2,.inl rfl,h3.toB d⟩
 | true =>
   have key:Calls Tryz.prog 27 #[.pointer (some ⟨d,0,none⟩),.int .i64 r,.int .i64 c,.agg #[.int .i64 k,.int .i64 nn,.string s,.int .i64 e]] W (DPut W d (putL L r c (nm k nn s e))):=by
     by_cases hk:(nm k nn s e).k = 0
     · cases hs:atB r c L with
       | true=>exact dput_sb W d cp p L h hl r c k nn s e hi _ rfl hs hk
       | false=>exact dput_nb W d cp p L h hl r c k nn s e hi _ rfl hs hk
     · cases hs:atB r c L with
       | true=>exact dput_sv W d cp p L h hl r c k nn s e hi _ rfl hs hk
       | false=>exact dput_nv W d cp p L h hl r c k nn s e hi _ rfl hs hk
   refine key.mono ?_
   rintro e' w' ⟨h1,p',c',h2,h3,h4⟩
   exact ⟨h1,p',c',h2,.inr h3,h4⟩
def mStep (M:Bov) (x:Kn):Bov:=bset M x.r x.c x.v.v
def lStep (L:List Kn) (x:Kn):List Kn:=putL L x.r x.c x.v.v
def bM (l:List Kn):Bov:=l.foldl mStep bz
def bL (l:List Kn):List Kn:=l.foldl lStep []
theorem bM_snoc (l:List Kn) (x:Kn):bM (l ++ [x]) = bset (bM l) x.r x.c x.v.v:=by unfold bM;rw [List.foldl_append];rfl
theorem bL_snoc (l:List Kn) (x:Kn):bL (l ++ [x]) = putL (bL l) x.r x.c x.v.v:=by unfold bL;rw [List.foldl_append];rfl
theorem bL_len (l:List Kn):(bL l).length≤l.length:=by
 have:∀ (l:List Kn) (L:List Kn),(l.foldl lStep L).length≤L.length+l.length:=by
   intro l
   induction l with
   | nil=>intro L;exact Nat.le_refl _
   | cons x l ih =>
     intro L
     have h1:=ih (lStep L x)
     have h2:=putL_len x.r x.c x.v.v L
     unfold lStep at h1
     simp only [List.foldl_cons,List.length_cons]
     unfold lStep
     omega
 have h:=this l []
 unfold bL
 simpa using h
theorem map_not_cell {W:World} {g n o:Nat} {M:Bov} {u:Value} (h:MapB W g n M) (hu:W.cell? ⟨g,o,none⟩ = some u):False:=by
 obtain ⟨D,⟨es,clock,hb,_⟩,_⟩:=h
 unfold World.cell? at hu
 simp only [hb] at hu
 cases hu
structure BdI (W:World) (b d:Nat) (g:Option Nat) (p:Option Addr) (c n:Nat) (M:Bov) (L:List Kn) (wr:World):Prop where
 e:Ext W wr
 br:Brd wr b g n M
 gl:∀ k,g = some k→W.heap.size≤k
 db:DBr wr d p c L
 pl:∀ a,p = some a→d < a.block
 hb:W.heap.size≤b
 bd:b < d
theorem BdI.ext {W wr w':World} {b d c n:Nat} {g:Option Nat} {p:Option Addr} {M:Bov} {L:List Kn} (h:BdI W b d g p c n M L wr) (e:Ext wr w'):BdI W b d g p c n M L w' :=
 ⟨h.e.trans e,h.br.ext e,h.gl,h.db.ext e,h.pl,h.hb,h.bd⟩
theorem Brd.notMap {W:World} {b n o:Nat} {g:Option Nat} {M:Bov} (h:Brd W b g n M) {k:Nat} {u:Value} (hu:W.cell? ⟨k,o,none⟩ = some u):g≠some k:=by
 intro e
 subst e
 exact map_not_cell h.map hu
theorem BdI.put {W wr w':World} {b d c n:Nat} {g g':Option Nat} {p:Option Addr} {M M':Bov} {L:List Kn} (h:BdI W b d g p c n M L wr) (hB:Brd w' b g' (n+1) M') (hg:g' = g∨(g = none∧∃ q,g' = some q∧wr.heap.size≤q)) (e:ExtS (fun k=>k = b∨g = some k) wr w'):BdI W b d g' p c (n+1) M' L w':=by
 have hS:∀ k,(k = b∨g = some k)→W.heap.size≤k:=fun k hk=>by
   rcases hk with rfl | hk
   · exact h.hb
   · exact h.gl k hk
 refine ⟨e.ext h.e hS,hB,fun k hk=>?_,h.db.keep e (fun hd=>?_) (fun a ha hL hd=>?_),h.pl,h.hb,h.bd⟩
 · rcases hg with hg | ⟨_,q,hq,hge⟩
   · exact h.gl k (hg ▸ hk)
   · rw [hq] at hk;cases hk;exact Nat.le_trans h.e.size hge
 · rcases hd with hd | hd
   · have:=h.bd;omega
   · exact h.br.notMap h.db.cell hd
 · rcases hd with hd | hd
   · have:=h.pl a ha;have:=h.bd;omega
   · obtain ⟨x,hx⟩:∃ x,L[0]? = some x:=by
       cases L with
       | nil=>exact absurd rfl hL
       | cons x l=>exact ⟨x,rfl⟩
     obtain ⟨gb,off,hp,_,hc,_⟩:=h.db.rd.at hx
     rw [hp] at ha
     cases ha
     exact h.br.notMap hc hd
theorem BdI.dput {W wr w':World} {b d c n c':Nat} {g:Option Nat} {p p':Option Addr} {M:Bov} {L L':List Kn} (h:BdI W b d g p c n M L wr) (hD:DBr w' d p' c' L') (hp:p' = p∨∀ a,p' = some a→wr.heap.size≤a.block) (e:ExtB d wr w'):BdI W b d g p' c' n M L' w':=by
 have eS:ExtS (fun k=>k = d) wr w':=⟨e.os,e.tape,e.output,e.size,fun k hk hn=>e.block k hk hn⟩
 refine ⟨e.ext h.e (by have:=h.hb;have:=h.bd;omega),h.br.keep eS (by have:=h.bd;omega) (fun k hk hd=>by subst hd;exact h.br.notMap h.db.cell hk),h.gl,hD,fun a ha=>?_,h.hb,h.bd⟩
 rcases hp with rfl | hp
 · exact h.pl a ha
 · have:=hp a ha;have:=h.db.lt;omega
def BoQ (W:World) (l:List Kn) (e:Ending) (w':World):Prop:=∃ d g p c,e = .returned (.tuple #[.pointer (some ⟨W.heap.size,0,none⟩),.pointer (some ⟨d,0,none⟩)])∧BdI W W.heap.size d g p c 200 (bM (l.take 200)) (bL (l.take 200)) w'
theorem boards_any (W:World) (l:List Kn) (pp:Option Addr) (n cl:Nat) (hI:RdKn W (.slice pp n cl) l) (hk:KnI l) (hN:Nm W) :
   Calls Tryz.prog 8 #[.slice pp n cl] W (BoQ W l):=by
 have hn:=hI.len
 have cN:=fun W=>new_any W
 have HI:Hid (RdKn W (.slice pp n cl) l∧KnI l∧Nm W∧n = l.length):=⟨hI,hk,hN,hn⟩
 clear hI hk hN hn
 go_enter func8,ntmps8
 go_wp2_with fail
 refine (cN _).mono ?_
 rintro e w0 ⟨rfl,hB0,E0⟩
 have HZ:Hid (BdI W W.heap.size w0.heap.size none none 0 0 bz [] (w0.alloc (.cells #[.slice none 0 0] 31))):=by
   refine ⟨E0.alloc _,hB0.ext (xr.alloc _),fun k hk=>(by cases hk),⟨by simp,by simp [go_sem],by simp [go_sem],RdKn.nil _,fun a ha=>(by cases ha)⟩,fun a ha=>(by cases ha),Nat.le_refl _,hB0.lt⟩
 clear hB0 E0 cN
 go_wp2_with fail
 go_loopw [6] (fun iv wr=>∃ (j:Nat) (g:Option Nat) (pd:Option Addr) (cd:Nat),iv = .int .i64 (j:Int)∧j≤n∧j≤200∧BdI W W.heap.size w0.heap.size g pd cd j (bM (l.take j)) (bL (l.take j)) wr) (fun iv _=>200 - (intOf iv).toNat)
 case atStart=>exact ⟨0,_,_,_,rfl,Nat.zero_le _,Nat.zero_le _,HZ.out⟩
 case round =>
   clear HZ
   obtain ⟨j,g,pd,cd,rfl,hj,hj2,hS⟩:=hrel
   have HB0:Hid (BdI W W.heap.size w0.heap.size g pd cd j (bM (l.take j)) (bL (l.take j)) wr):=hS
   clear hS
   by_cases hlt:j < n
   · have hltI:(j:Int) < (n:Int):=J2
     have t1:decide ((j:Int) < (n:Int)) = true:=by simpa using hltI
     by_cases h200:j < 200
     · have h200I:(j:Int) < 200:=J2
       obtain ⟨x,hx⟩:∃ x,l[j]? = some x:=⟨_,gEq (by rw [← HI.out.2.2.2];exact hlt)⟩
       have HX:Hid (l[j]? = some x∧I64 x.r∧I64 x.c∧I64 x.v.n):=⟨hx,HI.out.2.1 x (List.mem_of_getElem? hx)⟩
       obtain ⟨gb,off,rfl,hgb,c0,c1,c2,c3,c4,c5⟩:=HI.out.1.at hx
       have mkS:Hid (∀ W2,Ext W W2→(fun W2=>W2.cell? ⟨gb,off+j * 6,none⟩ = some (.int .i64 x.r)∧W2.cell? ⟨gb,off+j * 6+1,none⟩ = some (.int .i64 x.c)∧W2.cell? ⟨gb,off+j * 6+2,none⟩ = some (.int .i64 x.v.k)∧W2.cell? ⟨gb,off+j * 6+3,none⟩ = some (.int .i64 x.v.n)∧W2.cell? ⟨gb,off+j * 6+4,none⟩ = some (.string x.v.s)∧W2.cell? ⟨gb,off+j * 6+5,none⟩ = some (.int .i64 x.v.e)) W2):=fun W2 e=>by
         have k:=fun o=>e.cell.1 gb o hgb
         exact ⟨(k _).trans c0,(k _).trans c1,(k _).trans c2,(k _).trans c3,(k _).trans c4,(k _).trans c5⟩
       have cP:=fun V (g:Option Nat) (h:BdI W W.heap.size w0.heap.size g pd cd j (bM (l.take j)) (bL (l.take j)) V)=>put_any V.drew W.heap.size j g (bM (l.take j)) (h.br.ext xr.drew) J2 x.r x.c x.v.k x.v.n x.v.s x.v.e HX.out.2.2.2 (HI.out.2.2.1.ext h.e.drew)
       have HLL:Hid ((bL (l.take j)).length≤1000):=by
         show _≤_
         have h1:=bL_len (l.take j)
         have h2:(l.take j).length≤j:=J6
         omega
       have cD:=fun V (g:Option Nat) (h:BdI W W.heap.size w0.heap.size g pd cd (j+1) (bset (bM (l.take j)) x.r x.c x.v.v) (bL (l.take j)) V)=>dput_any V.drew w0.heap.size cd pd (bL (l.take j)) (h.db.ext xr.drew) HLL.out x.r x.c x.v.k x.v.n x.v.s x.v.e
       have HT:Hid (l.take (j+1) = l.take j ++ [x]):=by show _ = _;rw [List.take_add_one,hx];rfl
       have HJ:Hid (j < n∧j < 200):=⟨hlt,h200⟩
       clear c0 c1 c2 c3 c4 c5 hgb hx hlt h200 hj hj2
       go_wp2_with fail
       refine wp_region_held_drew (S:=(fun W2=>W2.cell? ⟨gb,off+j * 6,none⟩ = some (.int .i64 x.r)∧W2.cell? ⟨gb,off+j * 6+1,none⟩ = some (.int .i64 x.c)∧W2.cell? ⟨gb,off+j * 6+2,none⟩ = some (.int .i64 x.v.k)∧W2.cell? ⟨gb,off+j * 6+3,none⟩ = some (.int .i64 x.v.n)∧W2.cell? ⟨gb,off+j * 6+4,none⟩ = some (.string x.v.s)∧W2.cell? ⟨gb,off+j * 6+5,none⟩ = some (.int .i64 x.v.e))) J3 ?_ (fun hHeld0=>?_)
       · (first | exact mkS.out _ HB0.out.e.drew | exact mkS.out _ HB1.out.e | exact mkS.out _ HB1.out.e.drew | exact mkS.out _ HB2.out.e)
       refine tkI (i:=0) (oi:=⟨some 22,.move (.tmp 4),25, "law.go:38",#[],none⟩) ?_
       try go_frame
       refine tkI (i:=1) (oi:=⟨some 23,.move (.tmp 0),22, "law.go:38",#[],none⟩) ?_
       try go_frame
       refine tkI (i:=2) (oi:=⟨some 24,.move (.tmp 6),3, "law.go:38",#[],none⟩) ?_
       try go_frame
       refine tkI (i:=3) (oi:=⟨some 25,.indexAddr 22 (.tmp 23) (.tmp 24),0, "law.go:38",#[⟨1,.data⟩,⟨2,.data⟩],none⟩) ?_
       try go_frame
       refine tkI (i:=4) (oi:=⟨some 26,.fieldAddr 35 (.tmp 25) 0,0, "law.go:38",#[⟨3,.data⟩],none⟩) ?_
       try go_frame
       refine tkI (i:=5) (oi:=⟨some 27,.load 3 (.tmp 26),3, "law.go:38",#[⟨4,.data⟩],none⟩) ?_
       try go_frame
       refine tkI (i:=6) (oi:=⟨some 28,.move (.tmp 0),22, "law.go:38",#[],none⟩) ?_
       try go_frame
       refine tkI (i:=7) (oi:=⟨some 29,.move (.tmp 6),3, "law.go:38",#[],none⟩) ?_
       try go_frame
       refine tkI (i:=8) (oi:=⟨some 30,.indexAddr 22 (.tmp 28) (.tmp 29),0, "law.go:38",#[⟨6,.data⟩,⟨7,.data⟩],none⟩) ?_
       try go_frame
       refine tkI (i:=9) (oi:=⟨some 31,.fieldAddr 35 (.tmp 30) 1,0, "law.go:38",#[⟨8,.data⟩],none⟩) ?_
       try go_frame
       refine tkI (i:=10) (oi:=⟨some 32,.load 3 (.tmp 31),3, "law.go:38",#[⟨9,.data⟩],none⟩) ?_
       try go_frame
       refine tkI (i:=11) (oi:=⟨some 33,.move (.tmp 0),22, "law.go:38",#[],none⟩) ?_
       try go_frame
       refine tkI (i:=12) (oi:=⟨some 34,.move (.tmp 6),3, "law.go:38",#[],none⟩) ?_
       try go_frame
       refine tkI (i:=13) (oi:=⟨some 35,.indexAddr 22 (.tmp 33) (.tmp 34),0, "law.go:38",#[⟨11,.data⟩,⟨12,.data⟩],none⟩) ?_
       try go_frame
       refine tkI (i:=14) (oi:=⟨some 36,.fieldAddr 35 (.tmp 35) 2,0, "law.go:38",#[⟨13,.data⟩],none⟩) ?_
       try go_frame
       refine tkI (i:=15) (oi:=⟨some 37,.load 33 (.tmp 36),33, "law.go:38",#[⟨14,.data⟩],none⟩) ?_
       try go_frame
       refine wpAnyH_ready (rs:=[16]) J3 J65 ?_
       refine AllReadyH.cons (o:=⟨some 38,.call { callee:=.value (.func 22),args:=#[.tmp 22,.tmp 27,.tmp 32,.tmp 37],argTypes:=#[25,3,3,33] },0, "law.go:38",#[⟨0,.data⟩,⟨5,.data⟩,⟨10,.data⟩,⟨15,.data⟩],none⟩) rfl (fun K hK=>?_) AllReadyH.nil
       go_simp
       refine (cP _ _ HB0.out).mono ?_;rintro e w1 ⟨rfl,g1,hB1,hg1,S1⟩;have HB1:Hid (BdI W W.heap.size w0.heap.size g1 pd cd (j+1) (bset (bM (l.take j)) x.r x.c x.v.v) (bL (l.take j)) w1):=(HB0.out.ext xr.drew).put hB1 hg1 S1;clear hB1 hg1 S1
       try go_wp2_with fail
       refine hK.out _ _ ?_ (fun hHeld1=>?_)
       · (try dsimp only);(first | exact mkS.out _ HB0.out.e.drew | exact mkS.out _ HB1.out.e | exact mkS.out _ HB1.out.e.drew | exact mkS.out _ HB2.out.e)
       clear hK K hHeld0
       try go_frame
       refine wpAnyH_done J3 ?_ _
       go_wp2_with fail
       refine wp_region_held_drew (S:=(fun W2=>W2.cell? ⟨gb,off+j * 6,none⟩ = some (.int .i64 x.r)∧W2.cell? ⟨gb,off+j * 6+1,none⟩ = some (.int .i64 x.c)∧W2.cell? ⟨gb,off+j * 6+2,none⟩ = some (.int .i64 x.v.k)∧W2.cell? ⟨gb,off+j * 6+3,none⟩ = some (.int .i64 x.v.n)∧W2.cell? ⟨gb,off+j * 6+4,none⟩ = some (.string x.v.s)∧W2.cell? ⟨gb,off+j * 6+5,none⟩ = some (.int .i64 x.v.e))) J3 ?_ (fun hHeld0=>?_)
       · (first | exact mkS.out _ HB0.out.e.drew | exact mkS.out _ HB1.out.e | exact mkS.out _ HB1.out.e.drew | exact mkS.out _ HB2.out.e)
       refine tkI (i:=0) (oi:=⟨some 39,.move (.tmp 5),26, "law.go:39",#[],none⟩) ?_
       try go_frame
       refine tkI (i:=1) (oi:=⟨some 40,.move (.tmp 0),22, "law.go:39",#[],none⟩) ?_
       try go_frame
       refine tkI (i:=2) (oi:=⟨some 41,.move (.tmp 6),3, "law.go:39",#[],none⟩) ?_
       try go_frame
       refine tkI (i:=3) (oi:=⟨some 42,.indexAddr 22 (.tmp 40) (.tmp 41),0, "law.go:39",#[⟨1,.data⟩,⟨2,.data⟩],none⟩) ?_
       try go_frame
       refine tkI (i:=4) (oi:=⟨some 43,.fieldAddr 35 (.tmp 42) 0,0, "law.go:39",#[⟨3,.data⟩],none⟩) ?_
       try go_frame
       refine tkI (i:=5) (oi:=⟨some 44,.load 3 (.tmp 43),3, "law.go:39",#[⟨4,.data⟩],none⟩) ?_
       try go_frame
       refine tkI (i:=6) (oi:=⟨some 45,.move (.tmp 0),22, "law.go:39",#[],none⟩) ?_
       try go_frame
       refine tkI (i:=7) (oi:=⟨some 46,.move (.tmp 6),3, "law.go:39",#[],none⟩) ?_
       try go_frame
       refine tkI (i:=8) (oi:=⟨some 47,.indexAddr 22 (.tmp 45) (.tmp 46),0, "law.go:39",#[⟨6,.data⟩,⟨7,.data⟩],none⟩) ?_
       try go_frame
       refine tkI (i:=9) (oi:=⟨some 48,.fieldAddr 35 (.tmp 47) 1,0, "law.go:39",#[⟨8,.data⟩],none⟩) ?_
       try go_frame
       refine tkI (i:=10) (oi:=⟨some 49,.load 3 (.tmp 48),3, "law.go:39",#[⟨9,.data⟩],none⟩) ?_
       try go_frame
       refine tkI (i:=11) (oi:=⟨some 50,.move (.tmp 0),22, "law.go:39",#[],none⟩) ?_
       try go_frame
       refine tkI (i:=12) (oi:=⟨some 51,.move (.tmp 6),3, "law.go:39",#[],none⟩) ?_
       try go_frame
       refine tkI (i:=13) (oi:=⟨some 52,.indexAddr 22 (.tmp 50) (.tmp 51),0, "law.go:39",#[⟨11,.data⟩,⟨12,.data⟩],none⟩) ?_
       try go_frame
       refine tkI (i:=14) (oi:=⟨some 53,.fieldAddr 35 (.tmp 52) 2,0, "law.go:39",#[⟨13,.data⟩],none⟩) ?_
       try go_frame
       refine tkI (i:=15) (oi:=⟨some 54,.load 33 (.tmp 53),33, "law.go:39",#[⟨14,.data⟩],none⟩) ?_
       try go_frame
       refine wpAnyH_ready (rs:=[16]) J3 J65 ?_
       refine AllReadyH.cons (o:=⟨some 55,.call { callee:=.value (.func 27),args:=#[.tmp 39,.tmp 44,.tmp 49,.tmp 54],argTypes:=#[26,3,3,33] },0, "law.go:39",#[⟨0,.data⟩,⟨5,.data⟩,⟨10,.data⟩,⟨15,.data⟩],none⟩) rfl (fun K hK=>?_) AllReadyH.nil
       go_simp
       refine (cD _ _ HB1.out).mono ?_;rintro e w2 ⟨rfl,p2,c2,hD2,hp2,E2⟩;have HB2:Hid (BdI W W.heap.size w0.heap.size g1 p2 c2 (j+1) (bset (bM (l.take j)) x.r x.c x.v.v) (putL (bL (l.take j)) x.r x.c x.v.v) w2):=(HB1.out.ext xr.drew).dput hD2 hp2 E2;clear hD2 hp2 E2
       try go_wp2_with fail
       refine hK.out _ _ ?_ (fun hHeld1=>?_)
       · (try dsimp only);(first | exact mkS.out _ HB0.out.e.drew | exact mkS.out _ HB1.out.e | exact mkS.out _ HB1.out.e.drew | exact mkS.out _ HB2.out.e)
       clear hK K hHeld0
       try go_frame
       refine wpAnyH_done J3 ?_ _
       go_wp2_with fail
       go_roundw
       case rel=>exact ⟨j+1,_,_,_,by go_num,HJ.out.1,HJ.out.2,by rw [HT.out,bM_snoc,bL_snoc];exact HB2.out⟩
       case measure=>exact (by show 200 - ((j:Int)+1).toNat < 200 - ((j:Int)).toNat;have:=HJ.out;omega)
     · have h200I:¬ (j:Int) < 200:=J2
       have HE:Hid (l.take j = l.take 200∧j≤200):=⟨by rw [show j = 200 by omega],hj2⟩
       clear hlt h200 hj hj2
       exact K108
   · have hltI:¬ (j:Int) < (n:Int):=J2
     have t1:decide ((j:Int) < (n:Int)) = false:=by simpa using hltI
     have HE:Hid (l.take j = l.take 200∧j≤200):=by
       have h1:=HI.out.2.2.2
       exact ⟨by rw [List.take_of_length_le J2,List.take_of_length_le J2],hj2⟩
     clear hlt hj hj2
     exact K108
def LvK (o:Rd) (k:Nat):Rd:=if k = 1 then frm o else if k = 2 then lv (lv (lv o 4) 3) 2 else if k = 3 then lv (lv o 4) 3 else if k = 4 then lv o 4 else o
theorem LvK_step (o:Rd) (k:Nat) (h1:1≤k) (h4:k≤4):LvK o k = lv (LvK o (k+1)) k:=by
 have hh:k = 1∨k = 2∨k = 3∨k = 4:=J2
 rcases hh with rfl | rfl | rfl | rfl <;> rfl
theorem LvK_top (o:Rd) (k:Nat) (h:5≤k):LvK o k = o:=by
 unfold LvK
 rw [if_neg J2,if_neg J2,if_neg J2,if_neg J2]
theorem bnd_le4 (s:List UInt8):bnd s≤4:=by unfold bnd;repeat (first | (split;· omega) | omega)
def cl (o:Rd) (d:Nat):Nat→Nat→T→List Tk→Rs
 | 0,_,x,ts=>.ok (x,ts)
 | f+1,k,x,ts=>if (hd ts).1 = 3∧k≤bnd (hd ts).2.2.1 then (match LvK o (bnd (hd ts).2.2.1+1) d ts.tail with
   | .error e=>.error e
   | .ok (y,ts2)=>cl o d f k (tBin (hd ts).2.2.1 x y) ts2) else .ok (x,ts)
theorem LvK_sh {n:Nat} {o:Rd} (ho:ShF n o) (k:Nat):ShF n (LvK o k):=by
 unfold LvK
 split
 · exact frm_sh ho
 · split
   · exact lv_sh (lv_sh (lv_sh ho 4) 3) 2
   · split
     · exact lv_sh (lv_sh ho 4) 3
     · split
       · exact lv_sh ho 4
       · exact ho
theorem tk1_ok {d:Nat} (hd4:d≤40) (ts:List Tk):tk1 d ts = .ok ts.tail:=by unfold tk1;rw [if_neg J2]
theorem tail_sh {ts:List Tk} (h:Nz ts) (h3:(hd ts).1 = 3):Nz ts.tail∧ts.tail.length+1 = ts.length:=h.tail (by rw [h3];decide)
theorem lp_fuel {n:Nat} {F:Rd} (hF:ShF n F) (k d:Nat):∀ (f g:Nat) (x:T) (ts:List Tk),Nz ts→ts.length≤n→ts.length≤f→ts.length≤g→lp F k d f x ts = lp F k d g x ts:=by
 intro f
 induction f with
 | zero=>intro g x ts h _ h1 _;have:=h.pos;omega
 | succ f ih =>
   intro g x ts h hn h1 h2
   cases g with
   | zero=>have:=h.pos;omega
   | succ g =>
     unfold lp
     split
     · rename_i hk
       cases ht:tk1 d ts with
       | error e=>rfl
       | ok ts1 =>
         have s1:=tk1_sh h (by rw [hk.1];decide) ht
         show (match F d ts1 with | .error e=>(.error e:Rs) | .ok (y,ts2)=>lp F k d f (tBin (hd ts).2.2.1 x y) ts2) = (match F d ts1 with | .error e=>(.error e:Rs) | .ok (y,ts2)=>lp F k d g (tBin (hd ts).2.2.1 x y) ts2)
         cases hr:F d ts1 with
         | error e=>rfl
         | ok p =>
           obtain ⟨y,ts2⟩:=p
           have s2:=hF d ts1 s1.1 (by have:=s1.2;omega) y ts2 hr
           have a1:=s1.2
           have a2:=s2.2
           exact ih g _ ts2 s2.1 J2 J2 J2
     · rfl
theorem cl_fuel {n:Nat} {o:Rd} (ho:ShF n o) (k d:Nat):∀ (f g:Nat) (x:T) (ts:List Tk),Nz ts→ts.length≤n→ts.length≤f→ts.length≤g→cl o d f k x ts = cl o d g k x ts:=by
 intro f
 induction f with
 | zero=>intro g x ts h _ h1 _;have:=h.pos;omega
 | succ f ih =>
   intro g x ts h hn h1 h2
   cases g with
   | zero=>have:=h.pos;omega
   | succ g =>
     unfold cl
     split
     · rename_i hk
       have s1:=tail_sh h hk.1
       cases hr:LvK o (bnd (hd ts).2.2.1+1) d ts.tail with
       | error e=>rfl
       | ok p =>
         obtain ⟨y,ts2⟩:=p
         have s2:=LvK_sh ho _ d ts.tail s1.1 J2 y ts2 hr
         have a2:=s2.2
         exact ih g _ ts2 s2.1 J2 J2 J2
     · rfl
theorem cl_stop {n:Nat} {o:Rd} (ho:ShF n o) (k d:Nat):∀ (f:Nat) (x y:T) (ts ts':List Tk),Nz ts→ts.length≤n→ts.length≤f→cl o d f k x ts = .ok (y,ts')→¬ ((hd ts').1 = 3∧k≤bnd (hd ts').2.2.1):=by
 intro f
 induction f with
 | zero=>intro x y ts ts' h _ h1 _;have:=h.pos;omega
 | succ f ih =>
   intro x y ts ts' h hn h1 e
   unfold cl at e
   split at e
   · rename_i hk
     have s1:=tail_sh h hk.1
     split at e
     · cases e
     · rename_i z ts2 hr
       have s2:=LvK_sh ho _ d ts.tail s1.1 J2 z ts2 hr
       have a2:=s2.2
       exact ih _ _ ts2 ts' s2.1 J2 J2 e
   · rename_i hk
     cases e;exact hk
def thenR (r:Rs) (g:T→List Tk→Rs):Rs:=match r with
 | .error e=>.error e
 | .ok (x,ts)=>g x ts
def Clm (o:Rd) (n d k:Nat):Prop:=∀ ts,Nz ts→ts.length≤n→LvK o k d ts = thenR (o d ts) (fun x ts1=>cl o d ts1.length k x ts1)
theorem clm_bind {n d k:Nat} {o:Rd} (ho:ShF n o) (hd4:d≤40) (hC:Clm o n d (k+1)):∀ (f:Nat) (x:T) (ts:List Tk),Nz ts→ts.length≤n→ts.length≤f →
   thenR (cl o d f (k+1) x ts) (fun x' ts'=>lp (LvK o (k+1)) k d ts'.length x' ts') = cl o d f k x ts:=by
 intro f
 induction f with
 | zero=>intro x ts h _ h1 ;have:=h.pos;omega
 | succ f ih =>
   intro x ts h hn hf
   by_cases h3:(hd ts).1 = 3
   · have s1:=tail_sh h h3
     by_cases hb:k+1≤bnd (hd ts).2.2.1
     · rw [cl,cl,if_pos ⟨h3,hb⟩,if_pos ⟨h3,by omega⟩]
       cases hr:LvK o (bnd (hd ts).2.2.1+1) d ts.tail with
       | error e=>rfl
       | ok p =>
         obtain ⟨y,ts2⟩:=p
         have s2:=LvK_sh ho _ d ts.tail s1.1 J2 y ts2 hr
         have a2:=s2.2
         exact ih _ ts2 s2.1 J2 J2
     · by_cases hk:bnd (hd ts).2.2.1 = k
       · rw [cl,cl,if_neg (by rintro ⟨_,h⟩;omega),if_pos ⟨h3,by omega⟩]
         show lp (LvK o (k+1)) k d ts.length x ts = _
         obtain ⟨g,hg⟩:∃ g,ts.length = g+1:=⟨ts.length - 1,by omega⟩
         rw [hg,lp,if_pos ⟨h3,hk⟩,tk1_ok hd4,hk]
         show (match LvK o (k+1) d ts.tail with | .error e=>(.error e:Rs) | .ok (y,ts2)=>lp (LvK o (k+1)) k d g (tBin (hd ts).2.2.1 x y) ts2) = _
         cases hr:LvK o (k+1) d ts.tail with
         | error e=>rfl
         | ok p =>
           obtain ⟨y,ts2⟩:=p
           have s2:=LvK_sh ho _ d ts.tail s1.1 J2 y ts2 hr
           have a2:=s2.2
           show lp (LvK o (k+1)) k d g (tBin (hd ts).2.2.1 x y) ts2 = cl o d f k (tBin (hd ts).2.2.1 x y) ts2
           rw [← ih _ ts2 s2.1 J2 J2]
           have hstop:¬ ((hd ts2).1 = 3∧k+1≤bnd (hd ts2).2.2.1):=by
             rw [hC ts.tail s1.1 J2] at hr
             cases ho1:o d ts.tail with
             | error e=>rw [ho1] at hr;cases hr
             | ok q =>
               obtain ⟨z,ts3⟩:=q
               rw [ho1] at hr
               have s3:=ho d ts.tail s1.1 J2 z ts3 ho1
               have a3:=s3.2
               exact cl_stop ho (k+1) d _ _ _ ts3 ts2 s3.1 J2 nrf hr
           have hcl:cl o d f (k+1) (tBin (hd ts).2.2.1 x y) ts2 = .ok (tBin (hd ts).2.2.1 x y,ts2):=by
             cases f with
             | zero=>rfl
             | succ f=>rw [cl,if_neg hstop]
           rw [hcl]
           exact lp_fuel (LvK_sh ho _) k d g ts2.length _ ts2 s2.1 J2 J2 nrf
       · rw [cl,cl,if_neg (by rintro ⟨_,h⟩;omega),if_neg (by rintro ⟨_,h⟩;omega)]
         show lp (LvK o (k+1)) k d ts.length x ts = _
         obtain ⟨g,hg⟩:∃ g,ts.length = g+1:=⟨ts.length - 1,by omega⟩
         rw [hg,lp,if_neg (by rintro ⟨_,h⟩;exact hk h)]
   · rw [cl,cl,if_neg (by rintro ⟨h,_⟩;exact h3 h),if_neg (by rintro ⟨h,_⟩;exact h3 h)]
     show lp (LvK o (k+1)) k d ts.length x ts = _
     obtain ⟨g,hg⟩:∃ g,ts.length = g+1:=⟨ts.length - 1,by have:=h.pos;omega⟩
     rw [hg,lp,if_neg (by rintro ⟨h,_⟩;exact h3 h)]
theorem clm5 (o:Rd) (n d:Nat) (ho:ShF n o):Clm o n d 5:=by
 intro ts h hn
 rw [LvK_top o 5 J2]
 cases ho1:o d ts with
 | error e=>rfl
 | ok q =>
   obtain ⟨z,ts3⟩:=q
   have s3:=ho d ts h hn z ts3 ho1
   show _ = cl o d ts3.length 5 z ts3
   obtain ⟨g,hg⟩:∃ g,ts3.length = g+1:=⟨ts3.length - 1,by have:=s3.1.pos;omega⟩
   rw [hg,cl,if_neg (by rintro ⟨_,h⟩;have:=bnd_le4 (hd ts3).2.2.1;omega)]
theorem clm_down {n d k:Nat} {o:Rd} (ho:ShF n o) (hd4:d≤40) (h1:1≤k) (h4:k≤4) (hC:Clm o n d (k+1)):Clm o n d k:=by
 intro ts h hn
 rw [LvK_step o k h1 h4]
 unfold lv
 rw [hC ts h hn]
 cases ho1:o d ts with
 | error e=>rfl
 | ok q =>
   obtain ⟨z,ts3⟩:=q
   have s3:=ho d ts h hn z ts3 ho1
   have a3:=s3.2
   show (match cl o d ts3.length (k+1) z ts3 with | .error e=>(.error e:Rs) | .ok (x,ts1)=>lp (LvK o (k+1)) k d ts1.length x ts1) = cl o d ts3.length k z ts3
   exact clm_bind ho hd4 hC ts3.length z ts3 s3.1 J2 nrf
theorem clm_all {n d:Nat} {o:Rd} (ho:ShF n o) (hd4:d≤40) (k:Nat) (h1:1≤k) (h5:k≤5):Clm o n d k:=by
 have c5:=clm5 o n d ho
 have c4:=clm_down ho hd4 J9 J9 c5
 have c3:=clm_down ho hd4 J9 J9 c4
 have c2:=clm_down ho hd4 J9 J9 c3
 have c1:=clm_down ho hd4 J9 J9 c2
 have hh:k = 1∨k = 2∨k = 3∨k = 4∨k = 5:=J2
 rcases hh with rfl | rfl | rfl | rfl | rfl <;> assumption
theorem O_deep (n d:Nat) (h:40 < d) (ts:List Tk):∃ e,O n d ts = .error e:=by
 have ht:∀ ts,tk1 d ts = .error (ft ts true):=fun ts=>if_pos h
 cases n with
 | zero=>exact ⟨_,rfl⟩
 | succ n =>
   show ∃ e,opn (frm (O n)) (O n) d ts = .error e
   unfold opn
   split
   · rw [ht];exact ⟨_,rfl⟩
   · unfold smp one
     rw [ht]
     split
     · exact ⟨_,rfl⟩
     · split
       · exact ⟨_,rfl⟩
       · split
         · exact ⟨_,rfl⟩
         · split
           · unfold wrd one
             rw [ht]
             split
             · exact ⟨_,rfl⟩
             · split
               · exact ⟨_,rfl⟩
               · split
                 · exact ⟨_,rfl⟩
                 · have hr:∃ e,refr d ts = .error e:=by
                     unfold refr
                     rw [ht]
                     split <;> exact ⟨_,rfl⟩
                   obtain ⟨e,he⟩:=hr
                   rw [he];exact ⟨_,rfl⟩
           · have hr:∃ e,pass1 [40] d ts = .error e:=by
               unfold pass1
               rw [ht]
               split <;> exact ⟨_,rfl⟩
             obtain ⟨e,he⟩:=hr
             unfold brk
             rw [he];exact ⟨_,rfl⟩
theorem LvK_deep (n d k:Nat) (h:40 < d) (ts:List Tk):∃ e,LvK (O n) k d ts = .error e:=by
 have one:∀ (F:Rd) (j:Nat),(∀ ts,∃ e,F d ts = .error e)→∀ ts,∃ e,lv F j d ts = .error e:=by
   intro F j hF ts
   obtain ⟨e,he⟩:=hF ts
   exact ⟨e,by unfold lv;rw [he]⟩
 have o0:=O_deep n d h
 unfold LvK
 split
 · exact one _ _ (one _ _ (one _ _ (one _ _ o0))) ts
 · split
   · exact one _ _ (one _ _ (one _ _ o0)) ts
   · split
     · exact one _ _ (one _ _ o0) ts
     · split
       · exact one _ _ o0 ts
       · exact o0 ts
end Go.Proofs.YtcfgbiaahangmaaGreatDoor

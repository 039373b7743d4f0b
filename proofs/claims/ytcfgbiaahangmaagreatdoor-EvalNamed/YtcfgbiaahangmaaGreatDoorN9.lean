import Derived.Test.YtcfgbiaahangmaaGreatDoorN8
import Derived.Lib.SmallJoins
import Derived.Deep.Slices
set_option maxHeartbeats 2000000
set_option maxRecDepth 100000
namespace Go.Proofs.YtcfgbiaahangmaaGreatDoor
open Go.Proofs.Tryz
open Go.RowKit
open Go.ChangeShapes Go.WideShapes Go.RowKit
open Go.Joins (trod_struct4)
open Go.Deep (choose_lt)
instance : Inhabited T:=⟨tz⟩
inductive Wf : T → Prop
 | mk (t : T) : I64 t.k → I64 t.n → t.s.length ≤ maxLen → I64 t.e → I64 t.r.1 → I64 t.r.2.1 → I64 t.q.1 → I64 t.q.2.1 → (∀ x ∈ t.l,Wf x) → Wf t
theorem list13 {α : Type} {cs : List α} (h : cs.length = 13) : ∃ c0 c1 c2 c3 c4 c5 c6 c7 c8 c9 c10 c11 c12,cs = [c0,c1,c2,c3,c4,c5,c6,c7,c8,c9,c10,c11,c12]:=by
 match cs,h with
 | [c0,c1,c2,c3,c4,c5,c6,c7,c8,c9,c10,c11,c12],_=>exact ⟨c0,c1,c2,c3,c4,c5,c6,c7,c8,c9,c10,c11,c12,rfl⟩
theorem cells_exp : Tryz.prog.cellsOf 43 = 13:=J3
theorem cells_rf : Tryz.prog.cellsOf 40 = 4:=J3
theorem cells_i : Tryz.prog.cellsOf 3 = 1:=J3
theorem cells_i64 : Tryz.prog.cellsOf 2 = 1:=J3
theorem cells_st : Tryz.prog.cellsOf 9 = 1:=J3
theorem cells_bl : Tryz.prog.cellsOf 4 = 1:=J3
theorem cells_sl : Tryz.prog.cellsOf 41 = 1:=J3
section
variable {H : Type} {enc : TypeId × Value → H} {w : World} {base : Nat} {sp : Nat → Bool} {hd : Bool}
theorem open_rf {fuel : Nat} {c0 c1 c2 c3 : Value} {x : DataW H × List MemPlace} (h : DataW.trod enc Tryz.prog w base sp hd fuel 40 [c0,c1,c2,c3] = some x) :
   ∃ r : Rf,c0 = .int .i64 r.1 ∧ c1 = .int .i64 r.2.1 ∧ c2 = .bool r.2.2.1 ∧ c3 = .bool r.2.2.2 ∧ I64 r.1 ∧ I64 r.2.1:=by
 obtain ⟨y0,y1,y2,y3,n,_,_,h0,h1,h2,h3⟩:=trod_struct4 Tryz.underlying40 h
 simp [cells_i,cells_bl] at h0 h1 h2 h3
 obtain ⟨a0,e0,_,w0⟩:=DataW.trod_int Tryz.underlying3 h0
 obtain ⟨a1,e1,_,w1⟩:=DataW.trod_int Tryz.underlying3 h1
 obtain ⟨a2,e2,_⟩:=DataW.trod_bool Tryz.underlying4 h2
 obtain ⟨a3,e3,_⟩:=DataW.trod_bool Tryz.underlying4 h3
 simp only [List.cons.injEq,and_true] at e0 e1 e2 e3
 exact ⟨(a0,a1,a2,a3),e0,e1,e2,e3,i64_of_wf w0,i64_of_wf w1⟩
theorem open_exp : ∀ (fuel : Nat) (cs : List Value) (x : DataW H × List MemPlace),DataW.trod enc Tryz.prog w base sp hd fuel 43 cs = some x →
   ∃ (t : T) (lv : Value),cs = cellsT t lv ∧ IsL w (fun _=>True) lv t.l ∧ Wf t:=by
 intro fuel
 induction fuel using Nat.strongRecOn with
 | _ fuel ih =>
   intro cs x h
   obtain ⟨xs,n,rfl,_,hlen,hxl,hf⟩:=DataW.trod_struct Tryz.underlying43 h
   rw [cells_exp] at hlen
   obtain ⟨c0,c1,c2,c3,c4,c5,c6,c7,c8,c9,c10,c11,c12,rfl⟩:=list13 hlen
   have hx : ∀ i,i < 7 → ∃ y,xs[i]? = some y:=fun i hi=>⟨_,gEq (by rw [hxl];exact hi)⟩
   obtain ⟨y0,g0⟩:=hx 0 J9
   obtain ⟨y1,g1⟩:=hx 1 J9
   obtain ⟨y2,g2⟩:=hx 2 J9
   obtain ⟨y3,g3⟩:=hx 3 J9
   obtain ⟨y4,g4⟩:=hx 4 J9
   obtain ⟨y5,g5⟩:=hx 5 J9
   obtain ⟨y6,g6⟩:=hx 6 J9
   have f0:=(hf 0 _ rfl).trans g0
   have f1:=(hf 1 _ rfl).trans g1
   have f2:=(hf 2 _ rfl).trans g2
   have f3:=(hf 3 _ rfl).trans g3
   have f4:=(hf 4 _ rfl).trans g4
   have f5:=(hf 5 _ rfl).trans g5
   have f6:=(hf 6 _ rfl).trans g6
   simp [cells_i,cells_i64,cells_st,cells_rf,cells_sl] at f0 f1 f2 f3 f4 f5 f6
   obtain ⟨a0,e0,_,w0⟩:=DataW.trod_int Tryz.underlying3 f0
   obtain ⟨a1,e1,_,w1⟩:=DataW.trod_int Tryz.underlying2 f1
   obtain ⟨a2,e2,_,w2⟩:=DataW.trod_string Tryz.underlying9 f2
   obtain ⟨a3,e3,_,w3⟩:=DataW.trod_int Tryz.underlying3 f3
   obtain ⟨r,r0,r1,r2,r3,rw0,rw1⟩:=open_rf f4
   obtain ⟨q,q0,q1,q2,q3,qw0,qw1⟩:=open_rf f5
   simp only [List.cons.injEq,and_true] at e0 e1 e2 e3
   subst e0 e1 e2 e3 r0 r1 r2 r3 q0 q1 q2 q3
   have hs : bs a2.data.toList = a2:=by unfold bs;rfl
   have key : ∃ l,IsL w (fun _=>True) c12 l ∧ ∀ x ∈ l,Wf x:=by
     rcases DataW.trod_slice Tryz.underlying41 f6 with ⟨e6,_⟩ | ⟨a,len,cap,elems,rest,n',hn',e6,_,hb,hl,hm,hel,hx,_,_⟩
     · simp only [List.cons.injEq,and_true] at e6
       subst e6
       exact ⟨[],.nil,fun x hx=>by cases hx⟩
     · simp only [List.cons.injEq,and_true] at e6
       subst e6
       rw [cells_exp] at hx
       have each : ∀ i,i < len → ∃ p : T × Value,(∀ j u,(cellsT p.1 p.2)[j]? = some u → w.cell? ((a.add (i * 13)).add j) = some u) ∧ IsL w (fun _=>True) p.2 p.1.l ∧ Wf p.1:=by
         intro i hi
         have h0:=hx i hi
         rw [gEq (show i < elems.length by omega)] at h0
         obtain ⟨cs',h1,h2⟩:=Option.bind_eq_some_iff.1 h0
         obtain ⟨_,k1,k2⟩:=World.cells?_some h1
         obtain ⟨t,lv,rfl,hL,hW⟩:=ih n' J2 cs' _ h2
         refine ⟨(t,lv),fun j u hu=>?_,hL,hW⟩
         exact K163
       obtain ⟨f,hf⟩:=choose_lt each
       by_cases h0 : len = 0
       · subst h0
         exact ⟨[],.nil,fun x hx=>by cases hx⟩
       obtain ⟨b,off,spot⟩:=a
       have hz:=(hf 0 J2).1 0 _ rfl
       have hspot : spot = none:=by simpa [Addr.add] using World.cell?_spot hz
       subst hspot
       have hblt : b < w.heap.size:=World.block_lt_of_cell? _ _ hz
       refine ⟨(List.range len).map (fun i=>(f i).1),.mk b off cap len _ (fun i=>(f i).2) J60 hl trivial hblt ?_ ?_,?_⟩
       · intro i t j u hi hj
         have hi' : i < len:=by
           exact K153
         rw [List.getElem?_map,List.getElem?_range hi'] at hi
         simp at hi
         subst hi
         have:=(hf i hi').1 j u hj
         rw [Addr.add_lit,Addr.add_lit] at this
         exact this
       · intro i t hi
         have hi' : i < len:=by
           exact K153
         rw [List.getElem?_map,List.getElem?_range hi'] at hi
         simp at hi
         subst hi
         exact (hf i hi').2.1
       · intro x hx
         obtain ⟨i,hi,rfl⟩:=List.mem_map.1 hx
         exact (hf i (List.mem_range.1 hi)).2.2
   obtain ⟨l,hL,hW⟩:=key
   refine ⟨.mk a0 a1 a2.data.toList a3 r q l,c12,?_,hL,.mk _ (i64_of_wf w0) (i64_of_wf w1) (by show a2.data.toList.length ≤ maxLen;rw [size_list];exact w2) (i64_of_wf w3) rw0 rw1 qw0 qw1 hW⟩
   show _ = cellsT _ c12
   unfold cellsT
   simp only [T.k,T.n,T.s,T.e,T.r,T.q,hs]
end
open Go.RowKit
def szT : Nat → T → Nat
 | 0,_=>1
 | n + 1,t=>1 + (t.l.map (szT n)).sum
theorem szT_pos (n : Nat) (t : T) : 1 ≤ szT n t:=by cases n <;> simp [szT]
theorem tw_of {p : UInt8 → Bool} {l A B : List UInt8} (e : A ++ B = l) (hA : A.all p = true) (hB : ∀ c,B.head? = some c → p c = false) : l.takeWhile p = A ∧ l.dropWhile p = B:=by
 subst e
 induction A with
 | nil =>
   cases B with
   | nil=>exact ⟨rfl,rfl⟩
   | cons c B =>
     have:=hB c rfl
     constructor
     · show (c :: B).takeWhile p = [];rw [List.takeWhile_cons,this];rfl
     · show (c :: B).dropWhile p = c :: B;rw [List.dropWhile_cons,this];rfl
 | cons a A ih =>
   rw [List.all_cons,Bool.and_eq_true] at hA
   obtain ⟨i1,i2⟩:=ih hA.2
   constructor
   · show (a :: (A ++ B)).takeWhile p = a :: A;rw [List.takeWhile_cons,hA.1,i1];rfl
   · show (a :: (A ++ B)).dropWhile p = B;rw [List.dropWhile_cons,hA.1,if_pos rfl,i2]
theorem dw_head {p : UInt8 → Bool} (l : List UInt8) (c : UInt8) (h : (l.dropWhile p).head? = some c) : p c = false:=by
 have:=List.head?_dropWhile_not p l
 rw [h] at this
 simpa using this
def nmR (l : List UInt8) : List UInt8:=(undl l).takeWhile upB
def rsR (l : List UInt8) : List UInt8:=(undl l).dropWhile upB
def dgR (l : List UInt8) : List UInt8:=undl (rsR l)
def okR (l : List UInt8) : Bool:=rowOk (dgR l) && inB (val (dgR l)) (colN (nmR l))
theorem lt_sgn {c : UInt8} (h : upB c = true) : sgns.contains c = false:=by
 rw [sgn_eq]
 unfold upB at h;simp at h
 have : (c == 36) = false:=beq_eq_false_iff_ne.2 fun e=>by
   rw [e] at h;have : (36 : UInt8).toNat = 36:=rfl;omega
 rw [this];unfold dgB;simp;omega
theorem sgn_lt {c : UInt8} (h : sgns.contains c = true) : upB c = false:=by
 cases g : upB c with
 | false=>rfl
 | true=>rw [lt_sgn g] at h;cases h
theorem par_one (l : List UInt8) (h : okP l = true) : nmR l = nmL l ∧ rsR l = rsL l ∧ okR l = true ∧ rowP l = val (dgR l):=by
 have hin:=h
 unfold okP inB at hin
 simp at hin
 have hc : colN (nmL l) ≠ 0:=by unfold colP at hin;omega
 have hA:=colN_letters _ hc
 have e : nmL l ++ rsL l = undl l:=List.takeWhile_append_dropWhile
 have hB : ∀ c,(rsL l).head? = some c → upB c = false:=fun c hc=>by
   have:=dw_head (p:=fun c=>!sgns.contains c) (undl l) c hc
   exact sgn_lt (by simpa using this)
 obtain ⟨t1,t2⟩:=tw_of e hA hB
 have n1 : nmR l = nmL l:=t1
 have n2 : rsR l = rsL l:=t2
 obtain ⟨o1,o2⟩:=row_in (undl (rsL l)) (by unfold rowP at hin;omega) (by unfold rowP at hin;omega)
 have n3 : dgR l = undl (rsL l):=by unfold dgR;rw [n2]
 refine ⟨n1,n2,?_,?_⟩
 · unfold okR
   rw [n3,n1,o1,o2]
   exact h
 · rw [n3,o2];rfl
theorem par_two (l : List UInt8) (h : okR l = true) : okP l = true:=by
 unfold okR at h
 rw [Bool.and_eq_true] at h
 obtain ⟨h1,h2⟩:=h
 have hin:=h2
 unfold inB at hin
 simp at hin
 have hA : (nmR l).all (fun c=>!sgns.contains c) = true:=by
   rw [List.all_eq_true]
   intro c hc
   have:=List.all_eq_true.1 (List.all_takeWhile (p:=upB) (l:=undl l)) c hc
   rw [lt_sgn this];rfl
 have e : nmR l ++ rsR l = undl l:=List.takeWhile_append_dropWhile
 have hne : dgR l ≠ []:=by
   intro k;rw [k] at hin
   have : val ([] : List UInt8) = 0:=rfl
   omega
 have hB : ∀ c,(rsR l).head? = some c → (!sgns.contains c) = false:=by
   intro c hc
   rw [sgn_eq]
   by_cases g : c = 36
   · subst g;rfl
   · have hd : dlB (rsR l) = false:=by unfold dlB;rw [hc];simpa using g
     have e2 : dgR l = rsR l:=by unfold dgR undl;rw [hd];rfl
     unfold rowOk at h1
     rw [Bool.and_eq_true,Bool.and_eq_true,e2] at h1
     have:=List.all_eq_true.1 h1.1.1 c (List.mem_of_mem_head? (by rw [hc];rfl))
     rw [this];simp
 obtain ⟨t1,t2⟩:=tw_of e hA hB
 have n1 : nmL l = nmR l:=t1
 have n2 : rsL l = rsR l:=t2
 have hr:=row_ok (dgR l) h1 hne
 unfold okP rowP colP
 rw [n1,n2]
 show inB (rowC (dgR l)) _ = true
 rw [hr];exact h2
theorem ok_eq (l : List UInt8) : okP l = okR l:=by
 cases h : okR l with
 | true=>exact par_two l h
 | false =>
   cases g : okP l with
   | false=>rfl
   | true=>rw [(par_one l g).2.2.1] at h;cases h
theorem prV_R (l : List UInt8) : prV l = if okR l then refD (val (dgR l)) (colN (nmR l)) (dlB (rsR l)) (dlB l) else refD 0 0 false false:=by
 unfold prV
 rw [← ok_eq]
 cases g : okP l with
 | false=>rfl
 | true =>
   obtain ⟨n1,n2,_,n4⟩:=par_one l g
   rw [if_pos rfl,if_pos rfl,n4,n1,n2];rfl
def canR (p q u v : Int) : Bool:=inB p q && inB u v && decide (p ≤ u) && decide (q ≤ v)
def areaR (p q u v : Int) : Int:=if canR p q u v then (u - p + 1) * (v - q + 1) else 0
def hasR (p q u v r c : Int) : Bool:=canR p q u v && decide (p ≤ r) && decide (r ≤ u) && decide (q ≤ c) && decide (c ≤ v)
def mnI (a b : Int) : Int:=if a < b then a else b
def mxI (a b : Int) : Int:=if b < a then a else b
def rectD (p q u v : Int) : Value:=.agg #[.int .i64 p,.int .i64 q,.int .i64 u,.int .i64 v]
theorem can_bd {p q u v : Int} (h : canR p q u v = true) : 1 ≤ p ∧ p ≤ u ∧ u ≤ 1000 ∧ 1 ≤ q ∧ q ≤ v ∧ v ≤ 52:=by
 unfold canR inB at h;simp at h;omega
theorem area_bd (p q u v : Int) : 0 ≤ areaR p q u v ∧ areaR p q u v ≤ 52000 ∧ (areaR p q u v = 0 ↔ canR p q u v = false):=by
 unfold areaR
 cases h : canR p q u v
 · simp
 · obtain ⟨h1,h2,h3,h4,h5,h6⟩:=can_bd h
   rw [if_pos rfl]
   have a1 : 1 ≤ u - p + 1:=J2
   have a2 : u - p + 1 ≤ 1000:=J2
   have b1 : 1 ≤ v - q + 1:=J2
   have b2 : v - q + 1 ≤ 52:=J2
   generalize u - p + 1 = m at *
   generalize v - q + 1 = n at *
   have l1 : 1 * 1 ≤ m * n:=Int.mul_le_mul a1 b1 J2 J2
   have l2 : m * n ≤ 1000 * 52:=Int.mul_le_mul a2 b2 J2 J2
   refine ⟨by omega,by omega,?_⟩
   constructor
   · intro e;omega
   · intro e;cases e
theorem least_any (a b : Int) (w : World) : Calls Tryz.prog 79 #[.int .i64 a,.int .i64 b] w fun e w'=>e = .returned (.int .i64 (mnI a b)) ∧ w' = w:=by
 by_cases h : a < b
 · have H : Hid (mnI a b = a):=if_pos h
   go_enter func79,ntmps79
   go_wp2_with fail
   exact K44
 · have H : Hid (mnI a b = b):=if_neg h
   go_enter func79,ntmps79
   go_wp2_with fail
   exact K44
theorem great_any (a b : Int) (w : World) : Calls Tryz.prog 80 #[.int .i64 a,.int .i64 b] w fun e w'=>e = .returned (.int .i64 (mxI a b)) ∧ w' = w:=by
 by_cases h : b < a
 · have H : Hid (mxI a b = a):=if_pos h
   go_enter func80,ntmps80
   go_wp2_with fail
   exact K44
 · have H : Hid (mxI a b = b):=if_neg h
   go_enter func80,ntmps80
   go_wp2_with fail
   exact K44
theorem rcan6_any (p q u v : Int) (w : World) : Calls Tryz.prog 45 #[.agg #[.int .i64 p,.int .i64 q,.int .i64 u,.int .i64 v]] w fun e w'=>e = .returned (.bool (canR p q u v)) ∧ Ext w w':=by
 have c1:=fun W=>rin_any p q W
 have c2:=fun W=>rin_any u v W
 have HR : Hid (canR p q u v = (inB p q && inB u v && decide (p ≤ u) && decide (q ≤ v))):=rfl
 cases g1 : inB p q
 · rw [g1] at c1 HR
   go_enter func45,ntmps45
   go_wp2_with fail
   refine (c1 _).mono ?_
   rintro e w1 ⟨rfl,rfl⟩
   go_wp2_with fail
   go_ret
   exact ⟨ret_bool J45,xr.alloc _⟩
 cases g2 : inB u v
 · rw [g1] at c1 HR
   rw [g2] at c2 HR
   exact K92
 rw [g1] at c1 HR
 rw [g2] at c2 HR
 cases h1 : decide (p ≤ u) <;> cases h2 : decide (q ≤ v)
 all_goals
   rw [h1,h2] at HR
   have h3:=h1
   have h4:=h2
   simp only [decide_eq_true_eq,decide_eq_false_iff_not] at h3 h4
   exact K92
theorem area_any (p q u v : Int) (w : World) : Calls Tryz.prog 139 #[.agg #[.int .i64 p,.int .i64 q,.int .i64 u,.int .i64 v]] w fun e w'=>e = .returned (.int .i64 (areaR p q u v)) ∧ Ext w w':=by
 have c1:=fun W=>in_any p q W
 have c2:=fun W=>in_any u v W
 have HR : Hid (canR p q u v = (inB p q && inB u v && decide (p ≤ u) && decide (q ≤ v))):=rfl
 have HN : Hid (canR p q u v = false → areaR p q u v = 0):=fun h=>(area_bd p q u v).2.2.2 h
 have HY : Hid (canR p q u v = true → areaR p q u v = (u - p + 1) * (v - q + 1)):=fun h=>by unfold areaR;rw [h];rfl
 cases g1 : inB p q
 · rw [g1] at c1 HR
   go_enter func139,ntmps139
   go_wp2_with fail
   refine (c1 _).mono ?_
   rintro e w1 ⟨rfl,rfl⟩
   go_wp2_with fail
   go_ret
   exact ⟨ret_int (by rw [HN.out J45]),xr.alloc _⟩
 cases g2 : inB u v
 · rw [g1] at c1 HR
   rw [g2] at c2 HR
   exact K89
 rw [g1] at c1 HR
 rw [g2] at c2 HR
 cases h1 : decide (p ≤ u) <;> cases h2 : decide (q ≤ v)
 all_goals rw [h1,h2] at HR
 case true.true =>
   have hc : canR p q u v = true:=HR.out
   obtain ⟨b1,b2,b3,b4,b5,b6⟩:=can_bd hc
   have HA : Hid (areaR p q u v = (u - p + 1) * (v - q + 1)):=HY.out hc
   have hb:=area_bd p q u v
   rw [HA.out] at hb
   obtain ⟨a1,a2,_⟩:=hb
   clear HR HN HY hc h1 h2 g1 g2
   go_enter func139,ntmps139
   go_wp2_with fail
   refine (c1 _).mono ?_
   rintro e w1 ⟨rfl,rfl⟩
   go_wp2_with fail
   refine (c2 _).mono ?_
   rintro e w1 ⟨rfl,rfl⟩
   go_wp2_with fail
   go_ret
   exact ⟨ret_int HA.out.symm,xr.alloc _⟩
 all_goals
   have h3:=h1
   have h4:=h2
   simp only [decide_eq_true_eq,decide_eq_false_iff_not] at h3 h4
   exact K89
theorem rhas6_any (p q u v r c : Int) (w : World) : Calls Tryz.prog 21 #[.agg #[.int .i64 p,.int .i64 q,.int .i64 u,.int .i64 v],.int .i64 r,.int .i64 c] w fun e w'=>e = .returned (.bool (hasR p q u v r c)) ∧ Ext w w':=by
 have c1:=fun W=>rcan6_any p q u v W
 have HR : Hid (hasR p q u v r c = (canR p q u v && decide (p ≤ r) && decide (r ≤ u) && decide (q ≤ c) && decide (c ≤ v))):=rfl
 cases hc : canR p q u v
 · rw [hc] at HR
   rw [hc] at c1
   go_enter func21,ntmps21
   go_wp2_with fail
   refine (c1 _).mono ?_
   rintro e w1 ⟨rfl,E1⟩
   go_wp2_with fail
   go_ret
   exact ⟨ret_bool J45,(xr.alloc _).trans E1⟩
 · rw [hc] at HR
   rw [hc] at c1
   cases h1 : decide (p ≤ r) <;> cases h2 : decide (r ≤ u) <;> cases h3 : decide (q ≤ c) <;> cases h4 : decide (c ≤ v)
   all_goals
     rw [h1,h2,h3,h4] at HR
     have i1:=h1
     have i2:=h2
     have i3:=h3
     have i4:=h4
     simp only [decide_eq_true_eq,decide_eq_false_iff_not] at i1 i2 i3 i4
     go_enter func21,ntmps21
     go_wp2_with fail
     refine (c1 _).mono ?_
     rintro e w1 ⟨rfl,E1⟩
     have B1:=blk_top rfl E1
     obtain ⟨_,⟨k0,k1,k2,k3⟩,_⟩:=B1
     go_wp2_with fail
     go_ret
     exact ⟨ret_bool J45,(xr.alloc _).trans E1⟩
def Three (w : World) (x0 x1 x2 x3 y0 y1 y2 y3 : Value) (W : World) : Prop:=Ext w W ∧ Blk W w.heap.size x0 x1 x2 x3 ∧ Blk W (w.heap.size + 1) y0 y1 y2 y3 ∧ ∃ z0 z1 z2 z3,Blk W (w.heap.size + 1 + 1) z0 z1 z2 z3
theorem Three.ext {w W W' : World} {x0 x1 x2 x3 y0 y1 y2 y3 : Value} (h : Three w x0 x1 x2 x3 y0 y1 y2 y3 W) (e : Ext W W') : Three w x0 x1 x2 x3 y0 y1 y2 y3 W':=by
 obtain ⟨a,b,c,z0,z1,z2,z3,d⟩:=h
 exact ⟨a.trans e,b.ext e,c.ext e,z0,z1,z2,z3,d.ext e⟩
theorem Three.drew {w W : World} {x0 x1 x2 x3 y0 y1 y2 y3 : Value} (h : Three w x0 x1 x2 x3 y0 y1 y2 y3 W) : Three w x0 x1 x2 x3 y0 y1 y2 y3 W.drew:=h.ext (Ext.drew xr)
theorem Three.drewN {w W : World} {x0 x1 x2 x3 y0 y1 y2 y3 : Value} (h : Three w x0 x1 x2 x3 y0 y1 y2 y3 W) (n : Nat) : Three w x0 x1 x2 x3 y0 y1 y2 y3 (W.drewN n):=h.ext (Ext.drewN xr n)
theorem Three.put {w W : World} {x0 x1 x2 x3 y0 y1 y2 y3 : Value} (h : Three w x0 x1 x2 x3 y0 y1 y2 y3 W) (v0 v1 v2 v3 : Value) : Three w x0 x1 x2 x3 y0 y1 y2 y3 ((((W.setCell ⟨w.heap.size + 1 + 1,0,none⟩ v0).setCell ⟨w.heap.size + 1 + 1,1,none⟩ v1).setCell ⟨w.heap.size + 1 + 1,2,none⟩ v2).setCell ⟨w.heap.size + 1 + 1,3,none⟩ v3):=by
 obtain ⟨a,b,c,z0,z1,z2,z3,d⟩:=h
 exact ⟨(((a.setCell J6 _).setCell J6 _).setCell J6 _).setCell J6 _,b.far J2 _ _ _ _,c.far J2 _ _ _ _,_,_,_,_,d.set _ _ _ _⟩
def rcB (a0 a1 b0 b1 : Int) : Bool:=inB a0 a1 && inB b0 b1
def rcD (a0 a1 b0 b1 : Int) : Value:=if rcB a0 a1 b0 b1 then rectD (mnI a0 b0) (mnI a1 b1) (mxI a0 b0) (mxI a1 b1) else rectD 0 0 0 0
theorem mn_eq (a b : Int) : min a b = mnI a b:=by unfold mnI;rw [Int.min_def];split <;> split <;> omega
theorem mx_eq (a b : Int) : max a b = mxI a b:=by unfold mxI;rw [Int.max_def];split <;> split <;> omega
theorem three {w : World} {x0 x1 x2 x3 y0 y1 y2 y3 z0 z1 z2 z3 : Value} {S T U : TypeId} {W : World} (h : W = ((w.alloc (.cells #[x0,x1,x2,x3] S)).alloc (.cells #[y0,y1,y2,y3] T)).alloc (.cells #[z0,z1,z2,z3] U)) :
   Ext w W ∧ Blk W w.heap.size x0 x1 x2 x3 ∧ Blk W (w.heap.size + 1) y0 y1 y2 y3 ∧ Blk W (w.heap.size + 1 + 1) z0 z1 z2 z3:=by
 subst h
 exact ⟨((xr.alloc _).alloc _).alloc _,((blk_top rfl xr).al _).al _,(blk_top J60 xr).al _,blk_top J60 xr⟩
theorem rect_any (a0 a1 b0 b1 : Int) (ax ay bx by_ : Bool) (w : World) : Calls Tryz.prog 138 #[.agg #[.int .i64 a0,.int .i64 a1,.bool ax,.bool ay],.agg #[.int .i64 b0,.int .i64 b1,.bool bx,.bool by_]] w fun e w'=>e = .returned (rcD a0 a1 b0 b1) ∧ Ext w w':=by
 have c1:=fun W=>in_any a0 a1 W
 have c2:=fun W=>in_any b0 b1 W
 have HD : Hid (rcD a0 a1 b0 b1 = if inB a0 a1 && inB b0 b1 then rectD (mnI a0 b0) (mnI a1 b1) (mxI a0 b0) (mxI a1 b1) else rectD 0 0 0 0):=rfl
 obtain ⟨W0,hW0⟩ : ∃ W0,W0 = ((w.alloc (.cells #[.int .i64 a0,.int .i64 a1,.bool ax,.bool ay] 40)).alloc (.cells #[.int .i64 b0,.int .i64 b1,.bool bx,.bool by_] 40)).alloc (.cells #[.int .i64 0,.int .i64 0,.int .i64 0,.int .i64 0] 54):=⟨_,rfl⟩
 obtain ⟨X0,BA,BB,BZ⟩:=three hW0
 have HBZ : Hid (Blk W0 (w.heap.size + 1 + 1) (.int .i64 0) (.int .i64 0) (.int .i64 0) (.int .i64 0)):=BZ
 obtain ⟨_,⟨k0,k1,k2,k3⟩,_⟩:=BA
 obtain ⟨_,⟨m0,m1,m2,m3⟩,_⟩:=BB
 obtain ⟨_,⟨n0,n1,n2,n3⟩,f0,f1,f2,f3⟩:=BZ
 cases g1 : inB a0 a1
 · rw [g1] at c1 HD
   go_enter func138,ntmps138
   go_wp2_with fail
   rw [← hW0]
   clear hW0
   refine (c1 _).mono ?_
   rintro e w1 ⟨rfl,rfl⟩
   exact K161
 cases g2 : inB b0 b1
 · rw [g1] at c1 HD
   rw [g2] at c2 HD
   go_enter func138,ntmps138
   go_wp2_with fail
   rw [← hW0]
   clear hW0
   refine (c1 _).mono ?_
   rintro e w1 ⟨rfl,rfl⟩
   go_wp2_with fail
   refine (c2 _).mono ?_
   rintro e w2 ⟨rfl,rfl⟩
   exact K161
 rw [g1] at c1 HD
 rw [g2] at c2 HD
 have HD2 : Hid (rcD a0 a1 b0 b1 = rectD (mnI a0 b0) (mnI a1 b1) (mxI a0 b0) (mxI a1 b1)):=HD.out
 clear HD
 go_enter func138,ntmps138
 go_wp2_with fail
 rw [← hW0]
 clear hW0
 refine (c1 _).mono ?_
 rintro e w1 ⟨rfl,rfl⟩
 go_wp2_with fail
 refine (c2 _).mono ?_
 rintro e w2 ⟨rfl,rfl⟩
 go_wp2_with fail
 exact fin4 n0 n1 n2 n3 rfl J2 X0 J38 (fun W h=>⟨by rw [HD2.out,mn_eq,mn_eq,mx_eq,mx_eq];rfl,h⟩)
theorem rrect_any (a0 a1 b0 b1 : Int) (ax ay bx by_ : Bool) (w : World) : Calls Tryz.prog 43 #[.agg #[.int .i64 a0,.int .i64 a1,.bool ax,.bool ay],.agg #[.int .i64 b0,.int .i64 b1,.bool bx,.bool by_]] w fun e w'=>e = .returned (rcD a0 a1 b0 b1) ∧ Ext w w':=by
 have c1:=fun W=>rin_any a0 a1 W
 have c2:=fun W=>rin_any b0 b1 W
 have HD : Hid (rcD a0 a1 b0 b1 = if inB a0 a1 && inB b0 b1 then rectD (mnI a0 b0) (mnI a1 b1) (mxI a0 b0) (mxI a1 b1) else rectD 0 0 0 0):=rfl
 obtain ⟨W0,hW0⟩ : ∃ W0,W0 = ((w.alloc (.cells #[.int .i64 a0,.int .i64 a1,.bool ax,.bool ay] 40)).alloc (.cells #[.int .i64 b0,.int .i64 b1,.bool bx,.bool by_] 40)).alloc (.cells #[.int .i64 0,.int .i64 0,.int .i64 0,.int .i64 0] 54):=⟨_,rfl⟩
 obtain ⟨X0,BA,BB,BZ⟩:=three hW0
 have HBZ : Hid (Blk W0 (w.heap.size + 1 + 1) (.int .i64 0) (.int .i64 0) (.int .i64 0) (.int .i64 0)):=BZ
 obtain ⟨_,⟨k0,k1,k2,k3⟩,_⟩:=BA
 obtain ⟨_,⟨m0,m1,m2,m3⟩,_⟩:=BB
 obtain ⟨_,⟨n0,n1,n2,n3⟩,f0,f1,f2,f3⟩:=BZ
 cases g1 : inB a0 a1
 · rw [g1] at c1 HD
   go_enter func43,ntmps43
   go_wp2_with fail
   rw [← hW0]
   clear hW0
   refine (c1 _).mono ?_
   rintro e w1 ⟨rfl,rfl⟩
   exact K107
 cases g2 : inB b0 b1
 · rw [g1] at c1 HD
   rw [g2] at c2 HD
   go_enter func43,ntmps43
   go_wp2_with fail
   rw [← hW0]
   clear hW0
   refine (c1 _).mono ?_
   rintro e w1 ⟨rfl,rfl⟩
   go_wp2_with fail
   refine (c2 _).mono ?_
   rintro e w2 ⟨rfl,rfl⟩
   exact K107
 rw [g1] at c1 HD
 rw [g2] at c2 HD
 have HD2 : Hid (rcD a0 a1 b0 b1 = rectD (mnI a0 b0) (mnI a1 b1) (mxI a0 b0) (mxI a1 b1)):=HD.out
 clear HD
 have cL:=fun a b W=>least_any a b W
 have cG:=fun a b W=>great_any a b W
 have mkS : Hid (∀ W,Three w (.int .i64 a0) (.int .i64 a1) (.bool ax) (.bool ay) (.int .i64 b0) (.int .i64 b1) (.bool bx) (.bool by_) W → (W.cell? ⟨w.heap.size,0,none⟩ = some (.int .i64 a0) ∧ W.cell? ⟨w.heap.size,1,none⟩ = some (.int .i64 a1) ∧ W.cell? ⟨w.heap.size + 1,0,none⟩ = some (.int .i64 b0) ∧ W.cell? ⟨w.heap.size + 1,1,none⟩ = some (.int .i64 b1)) ∧ Three w (.int .i64 a0) (.int .i64 a1) (.bool ax) (.bool ay) (.int .i64 b0) (.int .i64 b1) (.bool bx) (.bool by_) W):=by
   intro W hW
   have hW':=hW
   obtain ⟨_,⟨_,⟨i0,i1,_,_⟩,_⟩,⟨_,⟨j0,j1,_,_⟩,_⟩,_⟩:=hW
   exact ⟨⟨i0,i1,j0,j1⟩,hW'⟩
 have hTH : Three w (.int .i64 a0) (.int .i64 a1) (.bool ax) (.bool ay) (.int .i64 b0) (.int .i64 b1) (.bool bx) (.bool by_) W0:=by
   obtain ⟨X0,BA,BB,BZ⟩:=three hW0
   exact ⟨X0,BA,BB,_,_,_,_,BZ⟩
 go_enter func43,ntmps43
 go_wp2_with fail
 rw [← hW0]
 clear hW0
 refine (c1 _).mono ?_
 rintro e w1 ⟨rfl,rfl⟩
 go_wp2_with fail
 refine (c2 _).mono ?_
 rintro e w2 ⟨rfl,rfl⟩
 go_wp2_with fail
 clear k0 k1 k2 k3 m0 m1 m2 m3
 go_region_held3 (fun W=>(W.cell? ⟨w.heap.size,0,none⟩ = some (.int .i64 a0) ∧ W.cell? ⟨w.heap.size,1,none⟩ = some (.int .i64 a1) ∧ W.cell? ⟨w.heap.size + 1,0,none⟩ = some (.int .i64 b0) ∧ W.cell? ⟨w.heap.size + 1,1,none⟩ = some (.int .i64 b1)) ∧ Three w (.int .i64 a0) (.int .i64 a1) (.bool ax) (.bool ay) (.int .i64 b0) (.int .i64 b1) (.bool bx) (.bool by_) W)
   ((refine mkS.out _ ?_;with_reducible (repeat (first | assumption | apply Three.drew | apply Three.drewN | apply Three.put));done))
   (first | (go_at_call 79;refine Calls.mono (cL _ _ _) ?_;rintro e y1 ⟨rfl,rfl⟩) | (go_at_call 80;refine Calls.mono (cG _ _ _) ?_;rintro e y1 ⟨rfl,rfl⟩))
 go_wp2_with fail
 exact finB (HBZ.out.set _ _ _ _).dr rfl (((((X0.setCell J6 _).setCell J6 _).setCell J6 _).setCell J6 _).drew) (fun g0 g1 g2 g3=>by simp [results,results43,go_sem,g0,g1,g2,g3]) (fun h=>⟨by rw [HD2.out];rfl,h⟩)
def prB (k : Int) : Bool:=decide (k = 6 ∨ k = 7 ∨ k = 8)
def rcT (a b : Rf) : Int × Int × Int × Int:=if rcB a.1 a.2.1 b.1 b.2.1 then (mnI a.1 b.1,mnI a.2.1 b.2.1,mxI a.1 b.1,mxI a.2.1 b.2.1) else (0,0,0,0)
theorem rcD_T (a b : Rf) : rcD a.1 a.2.1 b.1 b.2.1 = .agg #[.int .i64 (rcT a b).1,.int .i64 (rcT a b).2.1,.int .i64 (rcT a b).2.2.1,.int .i64 (rcT a b).2.2.2]:=by
 unfold rcD rcT rectD
 split <;> rfl
def refsT : Nat → T → List (Int × Int × Int × Int)
 | 0,_=>[]
 | n + 1,t=>if t.k = 4 then [rcT t.r t.r] else if t.k = 5 then [rcT t.r t.q] else if prB t.k then (t.l.map (refsT n)).flatten else []
end Go.Proofs.YtcfgbiaahangmaaGreatDoor

import Derived.Test.YtcfgbiaahangmaaGreatDoorB8
import Derived.Lib.SmallJoins
import Derived.Deep.Slices
set_option maxHeartbeats 2000000
set_option maxRecDepth 100000
namespace Go.Proofs.YtcfgbiaahangmaaGreatDoor
open Go.Proofs.Tryz
open Go.RowKit
open Go.ChangeShapes Go.WideShapes Go.RowKit
open Go.Joins (trod_struct4)
open Go.Deep (choose_lt)
instance : Inhabited T:=⟨tz⟩
inductive Wf : T → Prop
 | mk (t : T) : I64 t.k → I64 t.n → t.s.length ≤ maxLen → I64 t.e → I64 t.r.1 → I64 t.r.2.1 → I64 t.q.1 → I64 t.q.2.1 → (∀ x ∈ t.l,Wf x) → Wf t
section
variable {H : Type} {enc : TypeId × Value → H} {w : World} {base : Nat} {sp : Nat → Bool} {hd : Bool}
end
open Go.RowKit
theorem tw_of {p : UInt8 → Bool} {l A B : List UInt8} (e : A ++ B = l) (hA : A.all p = true) (hB : ∀ c,B.head? = some c → p c = false) : l.takeWhile p = A ∧ l.dropWhile p = B:=by
 subst e
 induction A with
 | nil =>
   cases B with
   | nil=>exact ⟨rfl,rfl⟩
   | cons c B =>
     have:=hB c rfl
     constructor
     · show (c :: B).takeWhile p = [];rw [List.takeWhile_cons,this];rfl
     · show (c :: B).dropWhile p = c :: B;rw [List.dropWhile_cons,this];rfl
 | cons a A ih =>
   rw [List.all_cons,Bool.and_eq_true] at hA
   obtain ⟨i1,i2⟩:=ih hA.2
   constructor
   · show (a :: (A ++ B)).takeWhile p = a :: A;rw [List.takeWhile_cons,hA.1,i1];rfl
   · show (a :: (A ++ B)).dropWhile p = B;rw [List.dropWhile_cons,hA.1,if_pos rfl,i2]
theorem dw_head {p : UInt8 → Bool} (l : List UInt8) (c : UInt8) (h : (l.dropWhile p).head? = some c) : p c = false:=by
 have:=List.head?_dropWhile_not p l
 rw [h] at this
 simpa using this
def nmR (l : List UInt8) : List UInt8:=(undl l).takeWhile upB
def rsR (l : List UInt8) : List UInt8:=(undl l).dropWhile upB
def dgR (l : List UInt8) : List UInt8:=undl (rsR l)
def okR (l : List UInt8) : Bool:=rowOk (dgR l) && inB (val (dgR l)) (colN (nmR l))
theorem lt_sgn {c : UInt8} (h : upB c = true) : sgns.contains c = false:=by
 rw [sgn_eq]
 unfold upB at h;simp at h
 have : (c == 36) = false:=beq_eq_false_iff_ne.2 fun e=>by
   rw [e] at h;have : (36 : UInt8).toNat = 36:=rfl;omega
 rw [this];unfold dgB;simp;omega
theorem sgn_lt {c : UInt8} (h : sgns.contains c = true) : upB c = false:=by
 cases g : upB c with
 | false=>rfl
 | true=>rw [lt_sgn g] at h;cases h
theorem par_one (l : List UInt8) (h : okP l = true) : nmR l = nmL l ∧ rsR l = rsL l ∧ okR l = true ∧ rowP l = val (dgR l):=by
 have hin:=h
 unfold okP inB at hin
 simp at hin
 have hc : colN (nmL l) ≠ 0:=by unfold colP at hin;omega
 have hA:=colN_letters _ hc
 have e : nmL l ++ rsL l = undl l:=List.takeWhile_append_dropWhile
 have hB : ∀ c,(rsL l).head? = some c → upB c = false:=fun c hc=>by
   have:=dw_head (p:=fun c=>!sgns.contains c) (undl l) c hc
   exact sgn_lt (by simpa using this)
 obtain ⟨t1,t2⟩:=tw_of e hA hB
 have n1 : nmR l = nmL l:=t1
 have n2 : rsR l = rsL l:=t2
 obtain ⟨o1,o2⟩:=row_in (undl (rsL l)) (by unfold rowP at hin;omega) (by unfold rowP at hin;omega)
 have n3 : dgR l = undl (rsL l):=by unfold dgR;rw [n2]
 refine ⟨n1,n2,?_,?_⟩
 · unfold okR
   rw [n3,n1,o1,o2]
   exact h
 · rw [n3,o2];rfl
theorem par_two (l : List UInt8) (h : okR l = true) : okP l = true:=by
 unfold okR at h
 rw [Bool.and_eq_true] at h
 obtain ⟨h1,h2⟩:=h
 have hin:=h2
 unfold inB at hin
 simp at hin
 have hA : (nmR l).all (fun c=>!sgns.contains c) = true:=by
   rw [List.all_eq_true]
   intro c hc
   have:=List.all_eq_true.1 (List.all_takeWhile (p:=upB) (l:=undl l)) c hc
   rw [lt_sgn this];rfl
 have e : nmR l ++ rsR l = undl l:=List.takeWhile_append_dropWhile
 have hne : dgR l ≠ []:=by
   intro k;rw [k] at hin
   have : val ([] : List UInt8) = 0:=rfl
   omega
 have hB : ∀ c,(rsR l).head? = some c → (!sgns.contains c) = false:=by
   intro c hc
   rw [sgn_eq]
   by_cases g : c = 36
   · subst g;rfl
   · have hd : dlB (rsR l) = false:=by unfold dlB;rw [hc];simpa using g
     have e2 : dgR l = rsR l:=by unfold dgR undl;rw [hd];rfl
     unfold rowOk at h1
     rw [Bool.and_eq_true,Bool.and_eq_true,e2] at h1
     have:=List.all_eq_true.1 h1.1.1 c (List.mem_of_mem_head? (by rw [hc];rfl))
     rw [this];simp
 obtain ⟨t1,t2⟩:=tw_of e hA hB
 have n1 : nmL l = nmR l:=t1
 have n2 : rsL l = rsR l:=t2
 have hr:=row_ok (dgR l) h1 hne
 unfold okP rowP colP
 rw [n1,n2]
 show inB (rowC (dgR l)) _ = true
 rw [hr];exact h2
theorem ok_eq (l : List UInt8) : okP l = okR l:=by
 cases h : okR l with
 | true=>exact par_two l h
 | false =>
   cases g : okP l with
   | false=>rfl
   | true=>rw [(par_one l g).2.2.1] at h;cases h
theorem prV_R (l : List UInt8) : prV l = if okR l then refD (val (dgR l)) (colN (nmR l)) (dlB (rsR l)) (dlB l) else refD 0 0 false false:=by
 unfold prV
 rw [← ok_eq]
 cases g : okP l with
 | false=>rfl
 | true =>
   obtain ⟨n1,n2,_,n4⟩:=par_one l g
   rw [if_pos rfl,if_pos rfl,n4,n1,n2];rfl
def canR (p q u v : Int) : Bool:=inB p q && inB u v && decide (p ≤ u) && decide (q ≤ v)
def areaR (p q u v : Int) : Int:=if canR p q u v then (u - p + 1) * (v - q + 1) else 0
def mnI (a b : Int) : Int:=if a < b then a else b
def mxI (a b : Int) : Int:=if b < a then a else b
def rectD (p q u v : Int) : Value:=.agg #[.int .i64 p,.int .i64 q,.int .i64 u,.int .i64 v]
theorem can_bd {p q u v : Int} (h : canR p q u v = true) : 1 ≤ p ∧ p ≤ u ∧ u ≤ 1000 ∧ 1 ≤ q ∧ q ≤ v ∧ v ≤ 52:=by
 unfold canR inB at h;simp at h;omega
theorem area_bd (p q u v : Int) : 0 ≤ areaR p q u v ∧ areaR p q u v ≤ 52000 ∧ (areaR p q u v = 0 ↔ canR p q u v = false):=by
 unfold areaR
 cases h : canR p q u v
 · simp
 · obtain ⟨h1,h2,h3,h4,h5,h6⟩:=can_bd h
   rw [if_pos rfl]
   have a1 : 1 ≤ u - p + 1:=J2
   have a2 : u - p + 1 ≤ 1000:=J2
   have b1 : 1 ≤ v - q + 1:=J2
   have b2 : v - q + 1 ≤ 52:=J2
   generalize u - p + 1 = m at *
   generalize v - q + 1 = n at *
   have l1 : 1 * 1 ≤ m * n:=Int.mul_le_mul a1 b1 J2 J2
   have l2 : m * n ≤ 1000 * 52:=Int.mul_le_mul a2 b2 J2 J2
   refine ⟨by omega,by omega,?_⟩
   constructor
   · intro e;omega
   · intro e;cases e
theorem area_any (p q u v : Int) (w : World) : Calls Tryz.prog 139 #[.agg #[.int .i64 p,.int .i64 q,.int .i64 u,.int .i64 v]] w fun e w'=>e = .returned (.int .i64 (areaR p q u v)) ∧ Ext w w':=by
 have c1:=fun W=>in_any p q W
 have c2:=fun W=>in_any u v W
 have HR : Hid (canR p q u v = (inB p q && inB u v && decide (p ≤ u) && decide (q ≤ v))):=rfl
 have HN : Hid (canR p q u v = false → areaR p q u v = 0):=fun h=>(area_bd p q u v).2.2.2 h
 have HY : Hid (canR p q u v = true → areaR p q u v = (u - p + 1) * (v - q + 1)):=fun h=>by unfold areaR;rw [h];rfl
 cases g1 : inB p q
 · rw [g1] at c1 HR
   go_enter func139,ntmps139
   go_wp2_with fail
   refine (c1 _).mono ?_
   rintro e w1 ⟨rfl,rfl⟩
   go_wp2_with fail
   go_ret
   exact ⟨ret_int J52,xr.alloc _⟩
 cases g2 : inB u v
 · rw [g1] at c1 HR
   rw [g2] at c2 HR
   exact K86
 rw [g1] at c1 HR
 rw [g2] at c2 HR
 cases h1 : decide (p ≤ u) <;> cases h2 : decide (q ≤ v)
 all_goals rw [h1,h2] at HR
 case true.true =>
   have hc : canR p q u v = true:=HR.out
   obtain ⟨b1,b2,b3,b4,b5,b6⟩:=can_bd hc
   have HA : Hid (areaR p q u v = (u - p + 1) * (v - q + 1)):=HY.out hc
   have hb:=area_bd p q u v
   rw [HA.out] at hb
   obtain ⟨a1,a2,_⟩:=hb
   clear HR HN HY hc h1 h2 g1 g2
   go_enter func139,ntmps139
   go_wp2_with fail
   refine (c1 _).mono ?_
   rintro e w1 ⟨rfl,rfl⟩
   go_wp2_with fail
   refine (c2 _).mono ?_
   rintro e w1 ⟨rfl,rfl⟩
   go_wp2_with fail
   go_ret
   exact ⟨ret_int HA.out.symm,xr.alloc _⟩
 all_goals
   have h3:=h1
   have h4:=h2
   simp only [decide_eq_true_eq,decide_eq_false_iff_not] at h3 h4
   exact K86
def Three (w : World) (x0 x1 x2 x3 y0 y1 y2 y3 : Value) (W : World) : Prop:=Ext w W ∧ Blk W w.heap.size x0 x1 x2 x3 ∧ Blk W (w.heap.size + 1) y0 y1 y2 y3 ∧ ∃ z0 z1 z2 z3,Blk W (w.heap.size + 1 + 1) z0 z1 z2 z3
theorem Three.ext {w W W' : World} {x0 x1 x2 x3 y0 y1 y2 y3 : Value} (h : Three w x0 x1 x2 x3 y0 y1 y2 y3 W) (e : Ext W W') : Three w x0 x1 x2 x3 y0 y1 y2 y3 W':=by
 obtain ⟨a,b,c,z0,z1,z2,z3,d⟩:=h
 exact ⟨a.trans e,b.ext e,c.ext e,z0,z1,z2,z3,d.ext e⟩
theorem Three.drew {w W : World} {x0 x1 x2 x3 y0 y1 y2 y3 : Value} (h : Three w x0 x1 x2 x3 y0 y1 y2 y3 W) : Three w x0 x1 x2 x3 y0 y1 y2 y3 W.drew:=h.ext (Ext.drew xr)
theorem Three.drewN {w W : World} {x0 x1 x2 x3 y0 y1 y2 y3 : Value} (h : Three w x0 x1 x2 x3 y0 y1 y2 y3 W) (n : Nat) : Three w x0 x1 x2 x3 y0 y1 y2 y3 (W.drewN n):=h.ext (Ext.drewN xr n)
theorem Three.put {w W : World} {x0 x1 x2 x3 y0 y1 y2 y3 : Value} (h : Three w x0 x1 x2 x3 y0 y1 y2 y3 W) (v0 v1 v2 v3 : Value) : Three w x0 x1 x2 x3 y0 y1 y2 y3 ((((W.setCell ⟨w.heap.size + 1 + 1,0,none⟩ v0).setCell ⟨w.heap.size + 1 + 1,1,none⟩ v1).setCell ⟨w.heap.size + 1 + 1,2,none⟩ v2).setCell ⟨w.heap.size + 1 + 1,3,none⟩ v3):=by
 obtain ⟨a,b,c,z0,z1,z2,z3,d⟩:=h
 exact ⟨(((a.setCell J7 _).setCell J7 _).setCell J7 _).setCell J7 _,b.far J2 _ _ _ _,c.far J2 _ _ _ _,_,_,_,_,d.set _ _ _ _⟩
def rcB (a0 a1 b0 b1 : Int) : Bool:=inB a0 a1 && inB b0 b1
def rcD (a0 a1 b0 b1 : Int) : Value:=if rcB a0 a1 b0 b1 then rectD (mnI a0 b0) (mnI a1 b1) (mxI a0 b0) (mxI a1 b1) else rectD 0 0 0 0
theorem mn_eq (a b : Int) : min a b = mnI a b:=by unfold mnI;rw [Int.min_def];split <;> split <;> omega
theorem mx_eq (a b : Int) : max a b = mxI a b:=by unfold mxI;rw [Int.max_def];split <;> split <;> omega
theorem three {w : World} {x0 x1 x2 x3 y0 y1 y2 y3 z0 z1 z2 z3 : Value} {S T U : TypeId} {W : World} (h : W = ((w.alloc (.cells #[x0,x1,x2,x3] S)).alloc (.cells #[y0,y1,y2,y3] T)).alloc (.cells #[z0,z1,z2,z3] U)) :
   Ext w W ∧ Blk W w.heap.size x0 x1 x2 x3 ∧ Blk W (w.heap.size + 1) y0 y1 y2 y3 ∧ Blk W (w.heap.size + 1 + 1) z0 z1 z2 z3:=by
 subst h
 exact ⟨((xr.alloc _).alloc _).alloc _,((blk_top rfl xr).al _).al _,(blk_top J58 xr).al _,blk_top J58 xr⟩
theorem rect_any (a0 a1 b0 b1 : Int) (ax ay bx by_ : Bool) (w : World) : Calls Tryz.prog 138 #[.agg #[.int .i64 a0,.int .i64 a1,.bool ax,.bool ay],.agg #[.int .i64 b0,.int .i64 b1,.bool bx,.bool by_]] w fun e w'=>e = .returned (rcD a0 a1 b0 b1) ∧ Ext w w':=by
 have c1:=fun W=>in_any a0 a1 W
 have c2:=fun W=>in_any b0 b1 W
 have HD : Hid (rcD a0 a1 b0 b1 = if inB a0 a1 && inB b0 b1 then rectD (mnI a0 b0) (mnI a1 b1) (mxI a0 b0) (mxI a1 b1) else rectD 0 0 0 0):=rfl
 obtain ⟨W0,hW0⟩ : ∃ W0,W0 = ((w.alloc (.cells #[.int .i64 a0,.int .i64 a1,.bool ax,.bool ay] 40)).alloc (.cells #[.int .i64 b0,.int .i64 b1,.bool bx,.bool by_] 40)).alloc (.cells #[.int .i64 0,.int .i64 0,.int .i64 0,.int .i64 0] 54):=⟨_,rfl⟩
 obtain ⟨X0,BA,BB,BZ⟩:=three hW0
 have HBZ : Hid (Blk W0 (w.heap.size + 1 + 1) (.int .i64 0) (.int .i64 0) (.int .i64 0) (.int .i64 0)):=BZ
 obtain ⟨_,⟨k0,k1,k2,k3⟩,_⟩:=BA
 obtain ⟨_,⟨m0,m1,m2,m3⟩,_⟩:=BB
 obtain ⟨_,⟨n0,n1,n2,n3⟩,f0,f1,f2,f3⟩:=BZ
 cases g1 : inB a0 a1
 · rw [g1] at c1 HD
   go_enter func138,ntmps138
   go_wp2_with fail
   rw [← hW0]
   clear hW0
   refine (c1 _).mono ?_
   rintro e w1 ⟨rfl,rfl⟩
   exact K149
 cases g2 : inB b0 b1
 · rw [g1] at c1 HD
   rw [g2] at c2 HD
   go_enter func138,ntmps138
   go_wp2_with fail
   rw [← hW0]
   clear hW0
   refine (c1 _).mono ?_
   rintro e w1 ⟨rfl,rfl⟩
   go_wp2_with fail
   refine (c2 _).mono ?_
   rintro e w2 ⟨rfl,rfl⟩
   exact K149
 rw [g1] at c1 HD
 rw [g2] at c2 HD
 have HD2 : Hid (rcD a0 a1 b0 b1 = rectD (mnI a0 b0) (mnI a1 b1) (mxI a0 b0) (mxI a1 b1)):=HD.out
 clear HD
 go_enter func138,ntmps138
 go_wp2_with fail
 rw [← hW0]
 clear hW0
 refine (c1 _).mono ?_
 rintro e w1 ⟨rfl,rfl⟩
 go_wp2_with fail
 refine (c2 _).mono ?_
 rintro e w2 ⟨rfl,rfl⟩
 go_wp2_with fail
 exact fin4 n0 n1 n2 n3 rfl J2 X0 J37 (fun W h=>⟨by rw [HD2.out,mn_eq,mn_eq,mx_eq,mx_eq];rfl,h⟩)
end Go.Proofs.YtcfgbiaahangmaaGreatDoor

import Derived.Laws.IdiomStrings
import Derived.Test.YtcfgbiaahangmaaGreatDoorC19
import Derived.OwnWalk
set_option maxHeartbeats 4000000
set_option maxRecDepth 100000
namespace Go.Proofs.YtcfgbiaahangmaaGreatDoor
open Go.Proofs.Tryz
open Go.RowKit
structure CatS (W:World) (s:List (V × Bool)) (ov:Value) (V':World):Prop where
 e:Ext W V'
 o:V'.ownsRow (W.heap.size+1) 5 1 ov (allC (got texF s)).length (Lib.byteCells (allC (got texF s)))
 f:∃ g cap,ov = .slice (some ⟨g,0,none⟩) (allC (got texF s)).length cap
 z:Blk V' W.heap.size (.int .i64 0) (.int .i64 0) (.string ⟨#[]⟩) (.int .i64 0)
 b:bad texF s = .blank
 l:(allC (got texF s)).length≤300 * s.length
theorem CatS.ext {W:World} {s:List (V × Bool)} {ov:Value} {V1 V2:World} (h:CatS W s ov V1) (e:Ext V1 V2):CatS W s ov V2 :=
 ⟨h.e.trans e,ownsRow_ext h.o e,h.f,h.z.ext e,h.b,h.l⟩
theorem CatS.conv {W:World} {s:List (V × Bool)} {ov:Value} {V1:World} (h:CatS W s ov V1):(convert 189 9 ov).run Tryz.prog V1 = .ok (.string (bs (allC (got texF s)))) V1:=by
 obtain ⟨g,cap,rfl⟩:=h.f
 exact run_convert_bytes_back V1 189 9 5 ⟨g,0,none⟩ cap _ Tryz.underlying189 Tryz.underlying5 Tryz.underlying9 (fun j hj=>h.o.cells (g:=g) rfl j _ (by rw [gEq (by rw [Lib.byteCells_length];exact hj)];simp [Lib.byteCells]))
theorem bad_ok {f:V→Bool→V} (hf:∀ v a,v.ok→(f v a).ok) {l:List (V × Bool)} (h:OkS l):(bad f l).ok:=by
 induction l with
 | nil=>trivial
 | cons p l ih =>
   unfold bad
   split
   · exact hf _ _ (h p J65)
   · exact ih (fun q hq=>h q (by simp [hq]))
theorem orBad_ok {b v:V} (hb:b.ok) (hv:v.ok):(orBad b v).ok:=by unfold orBad;split <;> assumption
theorem toldR_ok (b:Bool) (n:Int) (h:I64 n):(toldR b n).ok:=by
 unfold toldR
 split
 · exact mkNum_ok n h
 · exact K79
theorem best_i (p:Int→Int→Bool) (l:List V) (b:Int) (hb:I64 b) (h:∀ v ∈ l,I64 v.n):I64 (bestF p b l):=by
 induction l generalizing b with
 | nil=>exact hb
 | cons v l ih =>
   show I64 (bestF p (if p v.n b then v.n else b) l)
   refine ih _ ?_ (fun u hu=>h u (by simp [hu]))
   split
   · exact h v J65
   · exact hb
theorem bestN_i (p:Int→Int→Bool) (l:List V) (h:∀ v ∈ l,I64 v.n):I64 (bestN p l):=by
 cases l with
 | nil=>exact I64.z
 | cons v l=>exact best_i p l v.n (h v J65) (fun u hu=>h u (by simp [hu]))
theorem AllN.i {l:List V} (h:AllN l):∀ v ∈ l,I64 v.n:=fun v hv=>by obtain ⟨n,rfl,h1,_⟩:=h v hv;exact h1
theorem toldV_i (x:Int):I64 (toldV x):=by
 unfold toldV
 split
 · unfold sg64
   exact K141
 · exact I64.z
theorem meanV_i (x n:Int):I64 (meanV x n):=by
 unfold meanV
 split
 · rename_i h
   unfold meanB at h
   simp at h
   have h0:0≤meanQ x n:=by
     unfold meanQ
     apply Int.ediv_nonneg
     · have:0≤absI x:=J94
       omega
     · omega
   split <;> exact ⟨by omega,by omega⟩
 · exact I64.z
theorem floorV_i (a:Int) (_:I64 a):I64 (floorV a):=by
 unfold floorV subV
 split
 · split
   · rename_i h2
     unfold subB fitB at h2
     simp at h2
     exact K141
   · exact I64.z
 · exact I64.z
theorem rootV_i (a:Int) (h:I64 a):I64 (rootV a):=by
 unfold rootV
 split
 · have hr:=rt_is (a.toNat * 10000)
   have h1:rtN (a.toNat * 10000)≤9223372036854775807:=by
     rcases Nat.lt_or_ge 9223372036854775807 (rtN (a.toNat * 10000)) with h2 | h2
     · have h3:=hr.1
       have h4:9223372036854775808 * 9223372036854775808≤rtN (a.toNat * 10000) * rtN (a.toNat * 10000):=Nat.mul_le_mul h2 h2
       obtain ⟨i1,i2⟩:=h
       omega
     · exact h2
   exact K141
 · exact I64.z
theorem sgnV_i (b:Bool) (n:Nat):I64 (sgnV b n):=by
 unfold sgnV
 split
 · rename_i h
   unfold sgnB at h
   simp at h
   split <;> exact ⟨by omega,by omega⟩
 · exact I64.z
theorem rndV_i (a d:Int) (h:I64 a):I64 (rndV a d):=by
 unfold rndV
 split
 · split
   · exact h
   · split
     · exact I64.z
     · exact sgnV_i _ _
 · exact I64.z
theorem modV_i (a b:Int) (_:I64 a) (hb:I64 b):I64 (modV a b):=by
 unfold modV
 split
 · rename_i h
   have hb0:b≠0:=by unfold modB at h;simp at h;exact h.2
   have hf:=fm_bd a b hb0
   obtain ⟨i1,i2⟩:=hb
   exact K141
 · exact I64.z
theorem Fit.ok {W:World} {v:Value} {gs:List Ag} (h:Fit W v gs):(fSum gs).ok∧(fCount gs).ok∧(∀ p,(fBest p gs).ok)∧(fMean gs).ok∧(∀ b,(fTruth b gs).ok)∧(fCat gs).ok:=by
 have hs:=seen_ok gs h.i
 have hb:=bad_ok numF_okk hs
 have hi:=(got_nums _ hs).i
 have hl:=h.num
 refine ⟨orBad_ok hb (toldR_ok _ _ (toldV_i _)),mkNum_ok _ ⟨by omega,by omega⟩,fun p=>orBad_ok hb (mkNum_ok _ (bestN_i p _ hi)),orBad_ok hb ?_,fun b=>orBad_ok (bad_ok truF_okk hs) ?_,orBad_ok (bad_ok texF_okk hs) (mkText_ok _)⟩
 · split
   · exact K79
   · exact toldR_ok _ _ (meanV_i _ _)
 · split
   · exact K79
   · trivial
theorem ok_n {v:V} (h:v.ok):I64 v.n:=(nm_of v h).2
theorem v_rw {v:V} (h:v.ok):v.rw.v = v:=(nm_of v h).1
theorem neg_ok {v:V} (h:v.ok):v.neg.ok:=by
 unfold V.neg
 rcases toNum_cases v h with ⟨m,e,⟨i1,i2⟩,cm⟩ | ⟨x,e,hx⟩
 · rw [e]
   have i3:m≠-9223372036854775808:=by simpa [canB] using cm
   exact ⟨⟨by omega,by omega⟩,by simp [canB];omega⟩
 · rw [e];exact hx
theorem reckon_ok (op x y:Int):(reckon op x y).ok:=by
 unfold reckon
 split
 · refine toldR_ok _ _ ?_
   unfold addV
   split
   · rename_i h;unfold addB fitB at h;simp at h;exact ⟨by omega,by omega⟩
   · exact I64.z
 · split
   · refine toldR_ok _ _ ?_
     unfold subV
     split
     · rename_i h;unfold subB fitB at h;simp at h;exact ⟨by omega,by omega⟩
     · exact I64.z
   · split
     · refine toldR_ok _ _ ?_
       unfold mulV
       split
       · exact sgnV_i _ _
       · exact I64.z
     · split
       · exact K79
       · refine toldR_ok _ _ ?_
         unfold divV
         split
         · exact sgnV_i _ _
         · exact I64.z
theorem arith_ok (op:Int) {a b:V} (ha:a.ok) (hb:b.ok):(arith op a b).ok:=by
 unfold arith
 split
 · rcases toNum_cases a ha with ⟨m,e,_⟩ | ⟨x,e,hx⟩
   · rcases toNum_cases b hb with ⟨m',e',_⟩ | ⟨x',e',hx'⟩
     · rw [e,e'];exact reckon_ok op m m'
     · rw [e,e'];exact hx'
   · rw [e];exact hx
 · exact K79
theorem join_ok {a b:V} (ha:a.ok) (hb:b.ok):(join a b).ok:=by
 have h1:=toText_ok a ha
 have h2:=toText_ok b hb
 unfold join
 generalize a.toText = x at *
 generalize b.toText = y at *
 cases x <;> cases y <;> first | exact mkText_ok _ | exact h1 | exact h2 | trivial
theorem cmpE_ok {a b:V} (ha:a.ok) (hb:b.ok):(cmpE a b).ok:=by cases a <;> cases b <;> first | exact ha | exact hb | trivial
theorem bin_ok (s:List UInt8) {a b:V} (ha:a.ok) (hb:b.ok):(binV s a b).ok:=by
 unfold binV
 split
 · exact arith_ok _ ha hb
 · split
   · exact join_ok ha hb
   · unfold cmpS
     split
     · exact cmpE_ok ha hb
     · trivial
theorem fits_ok {gs:List Ag} (hi:AgI gs) (h:(seen gs).length≤10000000000):(fSum gs).ok∧(fCount gs).ok∧(∀ p,(fBest p gs).ok)∧(fMean gs).ok∧(∀ b,(fTruth b gs).ok)∧(fCat gs).ok:=by
 have hs:=seen_ok gs hi
 have hb:=bad_ok numF_okk hs
 have hj:=(got_nums _ hs).i
 have hl:(got numF (seen gs)).length≤10000000000:=Nat.le_trans (got_len _ _) h
 refine ⟨orBad_ok hb (toldR_ok _ _ (toldV_i _)),mkNum_ok _ ⟨by omega,by omega⟩,fun p=>orBad_ok hb (mkNum_ok _ (bestN_i p _ hj)),orBad_ok hb ?_,fun b=>orBad_ok (bad_ok truF_okk hs) ?_,orBad_ok (bad_ok texF_okk hs) (mkText_ok _)⟩
 · split
   · exact K79
   · exact toldR_ok _ _ (meanV_i _ _)
 · split
   · exact K79
   · trivial
theorem sg_ok {l:List Bg} (hi:AgI (gsOf l)) (i:Nat):(sg l i).ok:=by
 unfold sg
 cases hx:l[i]? with
 | none=>exact ⟨by decide,by decide⟩
 | some a =>
   show (sgl a).ok
   unfold sgl
   split
   · exact K79
   · have:=hi a.g (by unfold gsOf;exact List.mem_map.2 ⟨a,List.mem_of_getElem? hx,rfl⟩)
     exact K176
theorem rw_n {v:V} (h:v.ok):I64 v.rw.n:=ok_n h
theorem nuR_i {v:V} (h:v.ok) {n:Int} (e:nuR v = .ok n):I64 n∧canB n = true:=by
 unfold nuR at e
 rcases toNum_cases v h with ⟨m,e',h1,h2⟩ | ⟨x,e',hx⟩
 · rw [e'] at e
   cases e
   exact ⟨h1,h2⟩
 · rw [e'] at e;cases e
theorem tolR_n {b:Bool} {n:Int} (h:I64 n) {r:Rw} (e:(tolR b n).map V.rw = .ok r):I64 r.n:=by
 cases b with
 | true=>cases e;exact rw_n (mkNum_ok n h)
 | false=>cases e
theorem xcall_n {s:List UInt8} {l:List Bg} (hi:AgI (gsOf l)) (h:(seen (gsOf l)).length≤10000000000) {r:Rw} (e:xCall s l = .ok r):I64 r.n:=by
 obtain ⟨f1,f2,f3,f4,f5,f6⟩:=fits_ok hi h
 unfold xCall at e
 by_cases h0:s = [83,85,77]
 · rw [if_pos h0] at e
   cases e;exact rw_n f1
 rw [if_neg h0] at e
 by_cases h1:s = [67,79,85,78,84]
 · rw [if_pos h1] at e
   cases e;exact rw_n f2
 rw [if_neg h1] at e
 by_cases h2:s = [77,73,78]
 · rw [if_pos h2] at e
   cases e;exact rw_n (f3 _)
 rw [if_neg h2] at e
 by_cases h3:s = [77,65,88]
 · rw [if_pos h3] at e
   cases e;exact rw_n (f3 _)
 rw [if_neg h3] at e
 by_cases h4:s = [65,86,69,82,65,71,69]
 · rw [if_pos h4] at e
   cases e;exact rw_n f4
 rw [if_neg h4] at e
 by_cases h5:s = [65,78,68]
 · rw [if_pos h5] at e
   cases e;exact rw_n (f5 _)
 rw [if_neg h5] at e
 by_cases h6:s = [79,82]
 · rw [if_pos h6] at e
   cases e;exact rw_n (f5 _)
 rw [if_neg h6] at e
 by_cases h7:s = [67,79,78,67,65,84]
 · rw [if_pos h7] at e
   cases e;exact rw_n f6
 rw [if_neg h7] at e
 by_cases h8:s = [73,70]
 · rw [if_pos h8] at e
   unfold xIf at e
   split at e
   · cases e
   · split at e
     · cases e;exact rw_n (sg_ok hi 1)
     · split at e
       · cases e;exact rw_n (v:=.tf false) trivial
       · cases e;exact rw_n (sg_ok hi 2)
 rw [if_neg h8] at e
 by_cases h9:s = [78,79,84]
 · rw [if_pos h9] at e
   unfold xNot at e
   split at e
   · cases e
   · cases e;exact rw_n (v:=.tf _) trivial
 rw [if_neg h9] at e
 by_cases h10:s = [65,66,83]
 · rw [if_pos h10] at e
   unfold xAbs at e
   split at e
   · cases e
   · rename_i n hn
     obtain ⟨⟨i1,i2⟩,c⟩:=nuR_i (sg_ok hi 0) hn
     cases e
     have h3:n≠-9223372036854775808:=by simpa [canB] using c
     exact rw_n (mkNum_ok _ (by unfold szN;split <;> exact ⟨by omega,by omega⟩))
 rw [if_neg h10] at e
 by_cases h11:s = [82,79,85,78,68]
 · rw [if_pos h11] at e
   unfold xRound at e
   split at e
   · cases e
   · rename_i a ha
     split at e
     · cases e
     · exact tolR_n (rndV_i _ _ (nuR_i (sg_ok hi 0) ha).1) e
 rw [if_neg h11] at e
 by_cases h12:s = [77,79,68]
 · rw [if_pos h12] at e
   unfold xMod at e
   split at e
   · cases e
   · rename_i a ha
     split at e
     · cases e
     · rename_i b hb
       split at e
       · cases e
       · exact tolR_n (modV_i _ _ (nuR_i (sg_ok hi 0) ha).1 (nuR_i (sg_ok hi 1) hb).1) e
 rw [if_neg h12] at e
 by_cases h13:s = [70,76,79,79,82]
 · rw [if_pos h13] at e
   unfold xFloor at e
   split at e
   · cases e
   · rename_i a ha
     exact tolR_n (floorV_i _ (nuR_i (sg_ok hi 0) ha).1) e
 rw [if_neg h13] at e
 by_cases h14:s = [83,81,82,84]
 · rw [if_pos h14] at e
   unfold xSqrt at e
   split at e
   · cases e
   · rename_i a ha
     exact tolR_n (rootV_i _ (nuR_i (sg_ok hi 0) ha).1) e
 rw [if_neg h14] at e
 by_cases h15:s = [76,69,78]
 · rw [if_pos h15] at e
   unfold xLen at e
   split at e
   · cases e
   · rename_i t ht
     cases e
     have hz:t.size≤300:=by
       have:=toText_ok _ (sg_ok hi 0)
       unfold teR at ht
       generalize (sg l 0).toText = u at *
       cases u <;> simp at ht
       all_goals subst ht
       all_goals first | exact this | (show (⟨#[]⟩:ByteArray).size≤300;decide)
     exact rw_n (mkNum_ok _ ⟨by omega,by omega⟩)
 rw [if_neg h15] at e
 by_cases h16:s = [76,69,70,84]
 · rw [if_pos h16] at e
   unfold xLeft at e
   split at e
   · cases e
   · split at e
     · cases e
     · split at e
       · cases e
       · cases e;exact rw_n (mkText_ok _)
 rw [if_neg h16] at e
 by_cases h17:s = [73,78,68,69,88]
 · rw [if_pos h17] at e
   unfold xIndex at e
   split at e
   · cases e
   · split at e
     · cases e
     · split at e
       · rename_i b hb
         unfold pkR at e
         split at e
         · cases e
         · split at e
           · cases e
           · split at e
             · rename_i r' hr'
               cases e
               have hm:=List.mem_of_getElem? hr'
               unfold arOf at hm
               split at hm
               · exact hi b.g (by unfold gsOf;exact List.mem_map.2 ⟨b,List.mem_of_getElem? hb,rfl⟩) _ hm
               · simp at hm
                 rw [hm]
                 have:=sg_ok hi 0
                 unfold sg at this
                 rw [hb] at this
                 exact rw_n this
             · cases e
       · cases e
 rw [if_neg h17] at e
 by_cases h18:s = [73,83,69,82,82,79,82]
 · rw [if_pos h18] at e
   cases e;exact rw_n (v:=.tf _) trivial
 rw [if_neg h18] at e
 by_cases h19:s = [73,70,69,82,82,79,82]
 · rw [if_pos h19] at e
   unfold xIfErr at e
   split at e
   · cases e;exact rw_n (sg_ok hi 1)
   · cases e;exact rw_n (sg_ok hi 0)
 rw [if_neg h19] at e
 cases e
theorem fn_ok (s:List UInt8) {l:List Bg} (hi:AgI (gsOf l)) (h:(seen (gsOf l)).length≤10000000000):(fnV s l).ok:=by
 unfold fnV
 split
 · cases e:xCall s l with
   | error x=>exact mkErr_ok x
   | ok r=>exact nm_ok _ _ _ _ (xcall_n hi h e)
 · exact K79
theorem knB_20 (s:List UInt8):knB s≤20:=by
 have:∀ p,kno s = some p→p.2≤20:=by
   intro p hk
   unfold kno at hk
   by_cases h1:s ∈ kn1
   · rw [if_pos h1] at hk;cases hk;decide
   rw [if_neg h1] at hk
   by_cases h2:s ∈ kn2
   · rw [if_pos h2] at hk;cases hk;decide
   rw [if_neg h2] at hk
   by_cases h3:s ∈ kn3
   · rw [if_pos h3] at hk;cases hk;decide
   rw [if_neg h3] at hk
   by_cases h4:s ∈ kn4
   · rw [if_pos h4] at hk;cases hk;decide
   rw [if_neg h4] at hk
   by_cases h5:s ∈ kn5
   · rw [if_pos h5] at hk;cases hk;decide
   rw [if_neg h5] at hk
   cases hk
 unfold knB
 cases hk:kno s with
 | none=>decide
 | some p =>
   have:=this p hk
   show (p.2:Int)≤20
   omega
theorem rect_le {r q:Rf} (h:inB r.1 r.2.1 = true) (g:inB q.1 q.2.1 = true) :
   1≤mnI r.1 q.1∧mnI r.1 q.1≤mxI r.1 q.1∧mxI r.1 q.1≤1000∧1≤mnI r.2.1 q.2.1∧mnI r.2.1 q.2.1≤mxI r.2.1 q.2.1∧mxI r.2.1 q.2.1≤52:=by
 simp [inB] at h g
 unfold mnI mxI
 split <;> split <;> split <;> split <;> omega
theorem argA_len (M:Bov) (p q u v:Int) (h:p≤u∧q≤v):((argA M p q u v).g.l.length:Int) = (u - p+1) * (v - q+1):=by
 show ((areA M p q (v - q+1).toNat (u - p+1).toNat).length:Int) = _
 rw [areA_len,Int.natCast_mul,Int.toNat_of_nonneg J2,Int.toNat_of_nonneg J2]
theorem argR_len (M:Bov) {r q:Rf} (h:inB r.1 r.2.1 = true) (g:inB q.1 q.2.1 = true):(argR M r q).g.l.length≤52000:=by
 obtain ⟨h1,h2,h3,h4,h5,h6⟩:=rect_le h g
 have:=argA_len M (mnI r.1 q.1) (mnI r.2.1 q.2.1) (mxI r.1 q.1) (mxI r.2.1 q.2.1) ⟨h2,h5⟩
 have hm:(mxI r.1 q.1 - mnI r.1 q.1+1) * (mxI r.2.1 q.2.1 - mnI r.2.1 q.2.1+1)≤1000 * 52:=Int.mul_le_mul J2 J2 J2 J2
 unfold argR
 omega
def argOk (n:Nat) (M:Bov) (x:T):Prop:=AgI [(argX n M x).g]∧(argX n M x).g.l.length≤52000∧I64 (argX n M x).rows∧I64 (argX n M x).cols
theorem args_seen {l:List Bg} (h:∀ b ∈ l,b.g.l.length≤52000) (hl:l.length≤20):(seen (gsOf l)).length≤10000000000:=by
 have:∀ l:List Bg,(∀ b ∈ l,b.g.l.length≤52000)→(seen (gsOf l)).length≤l.length * 52001:=by
   intro l
   induction l with
   | nil=>intro _;exact Nat.le_refl _
   | cons b l ih =>
     intro h
     have h1:=ih (fun x hx=>h x (by simp [hx]))
     have h2:=h b J65
     have e:seen (gsOf (b :: l)) = seen1 b.g ++ seen (gsOf l):=by simp [seen,gsOf]
     have h3:(seen1 b.g).length≤52000:=by unfold seen1;split <;> simp;omega
     rw [e,List.length_append,List.length_cons,Nat.succ_mul]
     omega
 have:=this l h
 have:l.length * 52001≤20 * 52001:=Nat.mul_le_mul hl nrf
 omega
theorem argX_ok {n:Nat} {M:Bov} (hM:BdOk M) {x:T} (hw:x.k = 5→inB x.r.1 x.r.2.1 = true∧inB x.q.1 x.q.2.1 = true) (hv:x.k≠5→(evT n M x).ok):argOk n M x:=by
 unfold argOk argX
 split
 · rename_i hk
   obtain ⟨h1,h2⟩:=hw hk
   obtain ⟨r1,r2,r3,r4,r5,r6⟩:=rect_le h1 h2
   refine ⟨fun g hg=>?_,argR_len M h1 h2,?_,?_⟩
   · simp at hg
     subst hg
     intro r hr
     obtain ⟨r',c',e⟩:=areA_mem _ _ _ _ _ _ hr
     rw [e]
     exact rw_n (hM.v _ _)
   · show I64 (mxI x.r.1 x.q.1 - mnI x.r.1 x.q.1+1);exact ⟨by omega,by omega⟩
   · show I64 (mxI x.r.2.1 x.q.2.1 - mnI x.r.2.1 x.q.2.1+1);exact ⟨by omega,by omega⟩
 · rename_i hk
   refine ⟨fun g hg=>?_,(by show 1≤52000;decide),I64.z,I64.z⟩
   simp at hg
   subst hg
   intro r hr
   simp [argV] at hr
   subst hr
   exact rw_n (hv hk)
theorem evT_ok {M:Bov} (hM:BdOk M) (n:Nat):∀ t,Wf t→wellT n t = true→(evT n M t).ok:=by
 induction n with
 | zero=>intro t _ h;cases h
 | succ n ih =>
   intro t hW hw
   have hx:∀ x ∈ t.l,Wf x:=by cases hW;assumption
   have hn:I64 t.n:=by cases hW;assumption
   unfold wellT at hw
   unfold evT
   by_cases h0:t.k = 0
   · rw [if_pos h0];exact mkNum_ok _ hn
   rw [if_neg h0] at hw ⊢
   by_cases h1:t.k = 1
   · rw [if_pos h1];exact mkText_ok _
   rw [if_neg h1] at hw ⊢
   by_cases h2:t.k = 2
   · rw [if_pos h2];trivial
   rw [if_neg h2] at hw ⊢
   by_cases h3:t.k = 3
   · rw [if_pos h3];exact mkErr_ok _
   rw [if_neg h3] at hw ⊢
   by_cases h4:t.k = 4
   · rw [if_pos h4];exact hM.v _ _
   rw [if_neg h4] at hw ⊢
   by_cases h6:t.k = 6
   · rw [if_pos h6] at hw ⊢
     simp at hw
     split
     · rename_i x l e
       exact neg_ok (ih x (hx x J59) (hw.2 x J59))
     · trivial
   rw [if_neg h6] at hw ⊢
   by_cases h7:t.k = 7
   · rw [if_pos h7] at hw ⊢
     simp at hw
     split
     · rename_i x y l e
       exact bin_ok _ (ih x (hx x J59) (hw.2 x J59)) (ih y (hx y J59) (hw.2 y J59))
     · trivial
   rw [if_neg h7] at hw ⊢
   by_cases h8:t.k = 8
   · rw [if_pos h8] at hw
     simp at hw
     obtain ⟨⟨⟨_,_⟩,hB⟩,hall⟩:=hw
     have hB':=knB_20 t.s
     have hA:∀ x ∈ t.l,argOk n M x:=fun x hm=>argX_ok hM
       (fun hk=>by have:=hall x hm;rw [if_pos hk] at this;simpa using this)
       (fun hk=>by have:=hall x hm;rw [if_neg hk] at this;exact ih x (hx x hm) this)
     refine fn_ok _ (fun g hg=>?_) (args_seen (fun b hb=>?_) J6)
     · unfold gsOf at hg
       simp at hg
       obtain ⟨x,hm,e⟩:=hg
       exact (hA x hm).1 g (by rw [← e];simp [argX])
     · simp at hb
       obtain ⟨x,hm,e⟩:=hb
       rw [← e]
       exact (hA x hm).2.1
   rw [if_neg h8] at hw
   cases hw
theorem grownE {W W':World} (h:W.grownBy W' none):Ext W W':=⟨h.os,h.tape,h.output,h.size,fun k hk=>h.block k hk J65⟩
theorem own_make {TS T:TypeId} {k bytes:Nat} (hT:Elt TS T k bytes) {ops:Array Oper} {rest:List Oper} {o:Oper} {a:Act} {Q:Exit→Act→World→Prop} (W:World) (l c:Operand) (C:Int) (n base:Nat) (hg:o.guard = none) (hop:o.op = Op.makeSlice TS l c)
   (hl:a.eval l = .int .i64 0) (hc:a.eval c = .int .i64 C) (hC:C = (n:Int)) (b2:bytes * n≤281474976710656) (b3:n≤maxLen) (b4:base≤W.heap.size)
   (h:∀ W',W'.ownsRow base T k (.slice (some ⟨W.heap.size,0,none⟩) 0 n) 0 []→Ext W W'→wpList Tryz.prog ops Q rest (a.put o.dst (.slice (some ⟨W.heap.size,0,none⟩) 0 n)) W'):wpList Tryz.prog ops Q (o :: rest) a W:=by
 obtain ⟨i,z,hi,hz,h1,h2,h3⟩:=hT.i
 refine wpList_make_own W hg l c TS hop base T i z k hT.u hi hz h1 .i64 .i64 C n hl hc hC (by rw [h2];exact b2) b3 b4 ?_
 intro w' r1 r2
 exact h w' r1 (grownE r2)
structure ArS (W:World) (B0 RB RC:Nat) (p q u v:Int) (l:List Rw) (ov:Value) (wr:World):Prop where
 e:Ext W wr
 o:wr.ownsRow B0 33 4 ov l.length (l.flatMap cV)
 rb:Blk wr RB (.bool false) (.int .i64 0) (.int .i64 0) (.slice none 0 0)
 rc:Blk wr RC (.int .i64 p) (.int .i64 q) (.int .i64 u) (.int .i64 v)
 b0:W.heap.size≤RB
 b1:RB < B0
 b2:RC < B0
 b3:W.heap.size≤B0
 b4:B0≤wr.heap.size
theorem ArS.ext {W wr w':World} {B0 RB RC:Nat} {p q u v:Int} {l:List Rw} {ov:Value} (h:ArS W B0 RB RC p q u v l ov wr) (e:Ext wr w'):ArS W B0 RB RC p q u v l ov w' :=
 ⟨h.e.trans e,ownsRow_ext h.o e,h.rb.ext e,h.rc.ext e,h.b0,h.b1,h.b2,h.b3,Nat.le_trans h.b4 e.size⟩
theorem ars_app {ops:Array Oper} {rest:List Oper} {o:Oper} {a:Act} {Q:Exit→Act→World→Prop} (W wr WA:World) (B0 RB RC:Nat) (p q u v:Int) (s x:Operand) (ov:Value) (l:List Rw) (r:Rw) (g:Nat) (hgd:o.guard = none)
   (ho:o.op = .call { callee:=.builtin .append,args:=#[s,x],argTypes:=#[111,111] }) (hs:a.eval s = ov) (hx:a.eval x = .slice (some ⟨g,0,none⟩) 1 1)
   (hc:Blk WA g (.int .i64 r.k) (.int .i64 r.n) (.string r.s) (.int .i64 r.e)) (h:ArS W B0 RB RC p q u v l ov wr) (e:Ext wr WA) (hl:l.length≤100000) (N:Nat) (hN:l.length = N)
   (K:∀ pv c W',ArS W B0 RB RC p q u v (l ++ [r]) (.slice pv (N+1) c) W'→wpList Tryz.prog ops Q rest (a.put o.dst (.slice pv (N+1) c)) W') :
   wpList Tryz.prog ops Q (o :: rest) a WA:=by
 subst hN
 have h':=h.ext e
 refine own_app2 eltV WA W s x ov _ l.length 1 (l.flatMap cV) (cV r) B0 hgd ho hs hx h'.o ⟨rfl,_,_,rfl,.inr ⟨_,rfl,?_⟩⟩ ?_ J30 J2 h'.e h'.b3 h'.b4 ?_
 · intro j y hj
   obtain ⟨_,⟨k0,k1,k2,k3⟩,_⟩:=hc
   match j,hj with
   | 0,hj=>simp [cV] at hj;subst hj;simpa [Addr.add] using k0
   | 1,hj=>simp [cV] at hj;subst hj;simpa [Addr.add] using k1
   | 2,hj=>simp [cV] at hj;subst hj;simpa [Addr.add] using k2
   | 3,hj=>simp [cV] at hj;subst hj;simpa [Addr.add] using k3
   | j+4,hj=>simp [cV] at hj
 · intro y hy
   simp [cV] at hy
   rcases hy with rfl | rfl | rfl | rfl <;> rfl
 · intro v' W' k1 k2 k3 k4
   obtain ⟨pv,c,rfl,_⟩:=own_form k1
   have hfar:∀ b,b < B0→ov.ownBlock≠some b:=fun b hb hq=>by have:=(h'.o.lt b hq).1;omega
   refine K pv c W' ⟨k2,?_,h'.rb.grown k3 (hfar _ h'.b1),h'.rc.grown k3 (hfar _ h'.b2),h.b0,h.b1,h.b2,h.b3,Nat.le_trans h'.b4 k3.size⟩
   rw [List.flatMap_append,List.length_append]
   simpa using k1
theorem rcD_is {a0 a1 b0 b1:Int} (h:inB a0 a1 = true) (g:inB b0 b1 = true):rcD a0 a1 b0 b1 = .agg #[.int .i64 (mnI a0 b0),.int .i64 (mnI a1 b1),.int .i64 (mxI a0 b0),.int .i64 (mxI a1 b1)]:=by
 unfold rcD rcB
 rw [h,g]
 rfl
theorem earea_any (W:World) (b n:Nat) (g:Option Nat) (M:Bov) (h:Brd W b g n M) (r0 r1 q0 q1:Int) (rx ry qx qy:Bool) (hr:inB r0 r1 = true) (hq:inB q0 q1 = true) :
   Calls Tryz.prog 102 #[.pointer (some ⟨b,0,none⟩),.agg #[.int .i64 r0,.int .i64 r1,.bool rx,.bool ry],.agg #[.int .i64 q0,.int .i64 q1,.bool qx,.bool qy]] W fun e w' =>
     ∃ lv,e = .returned (.agg #[.bool true,.int .i64 (argR M (r0,r1,rx,ry) (q0,q1,qx,qy)).rows,.int .i64 (argR M (r0,r1,rx,ry) (q0,q1,qx,qy)).cols,lv])∧RdV w'.heap.size w' lv (argR M (r0,r1,rx,ry) (q0,q1,qx,qy)).g.l∧(∀ k,lv.ownBlock = some k→W.heap.size≤k∧k < w'.heap.size)∧Ext W w':=by
 have cR:=fun W=>rect_any r0 r1 q0 q1 rx ry qx qy W
 rw [rcD_is hr hq] at cR
 obtain ⟨h1,h2,h3,h4,h5,h6⟩:=rect_le (r:=(r0,r1,rx,ry)) (q:=(q0,q1,qx,qy)) hr hq
 simp only at h1 h2 h3 h4 h5 h6
 unfold argR argA
 simp only
 generalize mnI r0 q0 = p at *
 generalize mnI r1 q1 = q at *
 generalize mxI r0 q0 = u at *
 generalize mxI r1 q1 = v at *
 have cA:=fun W=>area_any p q u v W
 obtain ⟨RN,hRN⟩:∃ RN:Nat,(u - p+1).toNat = RN:=⟨_,rfl⟩
 obtain ⟨CN,hCN⟩:∃ CN:Nat,(v - q+1).toNat = CN:=⟨_,rfl⟩
 have hu:u = p+RN - 1:=J2
 have hv:v = q+CN - 1:=J2
 have hRC:RN * CN≤52000:=by
   have:RN * CN≤1000 * 52:=Nat.mul_le_mul J2 J2
   omega
 have hca:areaR p q u v = ((RN * CN:Nat):Int):=by
   have:canR p q u v = true:=by unfold canR inB;simp;omega
   unfold areaR
   rw [this,if_pos rfl,Int.natCast_mul]
   have e1:u - p+1 = (RN:Int):=J2
   have e2:v - q+1 = (CN:Int):=J2
   rw [e1,e2]
 rw [hca] at cA
 rw [hRN,hCN]
 have HB:Hid (Brd W b g n M):=h
 have HN:Hid (u = p+RN - 1∧v = q+CN - 1∧RN * CN≤52000∧1≤p∧u≤1000∧1≤q∧v≤52):=⟨hu,hv,hRC,by omega,by omega,by omega,by omega⟩
 clear h hr hq hu hv hRC hca hRN hCN h1 h2 h3 h4 h5 h6
 go_enter func102,ntmps102
 go_wp2_with fail
 refine (cR _).mono ?_
 rintro e w1 ⟨rfl,E1⟩
 have X1:Hid (Ext W w1):=(((xr.alloc _).alloc _).alloc _).trans E1
 have D1:=blk_top (b:=W.heap.size+1+1) J65 E1
 clear E1
 go_wp2_with fail
 refine (cA _).mono ?_
 rintro e w2 ⟨rfl,E2⟩
 have X2:Hid (Ext W w2):=(X1.out.alloc _).trans E2
 have D2:Hid (Blk w2 (W.heap.size+1+1) (.bool false) (.int .i64 0) (.int .i64 0) (.slice none 0 0)):=(D1.al _).ext E2
 have D3:Hid (Blk w2 w1.heap.size (.int .i64 p) (.int .i64 q) (.int .i64 u) (.int .i64 v)):=blk_top (b:=w1.heap.size) rfl E2
 clear E2 D1 X1 cR cA
 obtain ⟨RC,hRC⟩:∃ RC,w1.heap.size = RC:=⟨_,rfl⟩
 rw [hRC] at D3 ⊢
 obtain ⟨RB,hRB⟩:∃ RB,W.heap.size+1+1 = RB:=⟨_,rfl⟩
 rw [hRB] at D2 ⊢
 have HRB:Hid (W.heap.size≤RB∧W.heap.size≤w2.heap.size):=⟨by omega,X2.out.size⟩
 clear hRB hRC
 go_wp2_with (at_make;refine own_make eltV _ _ _ _ (RN * CN) w2.heap.size rfl rfl J26 J26 J26 (by have:=HN.out;omega) (by unfold maxLen;have:=HN.out;omega) nrf ?_;intro w3 O3 E3;have HS:Hid (ArS W w2.heap.size RB RC p q u v [] (.slice (some ⟨w2.heap.size,0,none⟩) 0 (RN * CN)) w3):=⟨X2.out.trans E3,O3,D2.out.ext E3,D3.out.ext E3,HRB.out.1,D2.out.1,D3.out.1,HRB.out.2,E3.size⟩;clear O3;obtain ⟨_,⟨c0,c1,c2,c3⟩,_⟩:=HS.out.rc;clear E3)
 obtain ⟨B0,hB0⟩:∃ B0,w2.heap.size = B0:=⟨_,rfl⟩
 rw [hB0] at HS ⊢
 clear hB0 HRB D2 D3 X2
 go_loopw [9,8] (fun iv ov wr=>∃ (i:Nat) (pv:Option Addr) (nv cv:Nat),iv = .int .i64 (p+(i:Int))∧ov = .slice pv nv cv∧i≤RN∧ArS W B0 RB RC p q u v (areA M p q CN i) (.slice pv nv cv) wr) (fun iv _ _=>RN - (intOf iv - p).toNat)
 case atStart=>exact ⟨0,_,_,_,by simp,rfl,Nat.zero_le _,HS.out⟩
 case round =>
   clear c0 c1 c2 c3 HS
   obtain ⟨i,pv,nv,cv,rfl,rfl,hi,hS⟩:=hrel
   have HS:Hid (ArS W B0 RB RC p q u v (areA M p q CN i) (.slice pv nv cv) wr):=hS
   obtain ⟨_,⟨c0,c1,c2,c3⟩,_⟩:=HS.out.rc
   clear hS
   by_cases hlt:i < RN
   · have hle:p+(i:Int)≤u:=by have:=HN.out;omega
     have WI:Hid (wrap64 (p+(i:Int)+1) = p+((i+1:Nat):Int)):=by show _ = _;unfold wrap64;have:=HN.out;omega
     have HI:Hid (i < RN):=hlt
     clear hlt hi
     go_wp2_with fail
     generalize wr = wo at *
     go_loopw [10,8] (fun jv ov w3=>∃ (j:Nat) (pv:Option Addr) (nv cv:Nat),jv = .int .i64 (q+(j:Int))∧ov = .slice pv nv cv∧j≤CN∧ArS W B0 RB RC p q u v (areA M p q CN i ++ rowA M (p+(i:Int)) q j) (.slice pv nv cv) w3) (fun jv _ _=>CN - (intOf jv - q).toNat)
     case atStart=>exact ⟨0,_,_,_,by simp,rfl,Nat.zero_le _,by show ArS W B0 RB RC p q u v (areA M p q CN i ++ []) _ _;rw [List.append_nil];exact HS.out⟩
     case round =>
       clear c0 c1 c2 c3 HS
       obtain ⟨j,pv,nv,cv,rfl,rfl,hj,hS⟩:=hrel
       have HS:Hid (ArS W B0 RB RC p q u v (areA M p q CN i ++ rowA M (p+(i:Int)) q j) (.slice pv nv cv) wr):=hS
       obtain ⟨_,⟨c0,c1,c2,c3⟩,_⟩:=HS.out.rc
       clear hS
       by_cases hlt:j < CN
       · have hlj:q+(j:Int)≤v:=by have:=HN.out;omega
         have WJ:Hid (wrap64 (q+(j:Int)+1) = q+((j+1:Nat):Int)):=by show _ = _;unfold wrap64;have:=HN.out;omega
         have HJ:Hid (j < CN):=hlt
         have cG:=fun W' (e:Ext W W')=>get_any W' b n g M (HB.out.ext e) (p+(i:Int)) (q+(j:Int)) (by have:=HN.out;have:=HI.out;exact ⟨by omega,by omega⟩) (by have:=HN.out;have:=HJ.out;exact ⟨by omega,by omega⟩)
         have HM:Hid (rowA M (p+(i:Int)) q (j+1) = rowA M (p+(i:Int)) q j ++ [(M (p+(i:Int)) (q+(j:Int))).rw]):=rowA_snoc M _ j q
         have HL:Hid ((areA M p q CN i ++ rowA M (p+(i:Int)) q j).length≤100000):=by
           show _≤_
           rw [List.length_append,areA_len,rowA_len]
           have h1:i * CN≤RN * CN:=Nat.mul_le_mul (Nat.le_of_lt HI.out) nrf
           have:=HN.out
           omega
         obtain ⟨N6,hN6⟩:∃ N6,(areA M p q CN i ++ rowA M (p+(i:Int)) q j).length = N6:=⟨_,rfl⟩
         have HN6:Hid ((areA M p q CN i ++ rowA M (p+(i:Int)) q j).length = N6):=hN6
         clear hN6
         simp only [dat_eq] at cG
         generalize M (p+(i:Int)) (q+(j:Int)) = vv at *
         obtain ⟨vk,vn,vs,ve,hvv⟩:∃ vk vn vs ve,vv.k = vk∧vv.n = vn∧vv.s = vs∧vv.e = ve:=⟨_,_,_,_,rfl,rfl,rfl,rfl⟩
         have HV:Hid (vv.k = vk∧vv.n = vn∧vv.s = vs∧vv.e = ve):=hvv
         obtain ⟨q1,q2,q3,q4⟩:=hvv
         rw [q1,q2,q3,q4] at cG
         clear q1 q2 q3 q4 hlt hj
         go_wp2_with fail
         refine (cG _ HS.out.e).mono ?_
         rintro e w5 ⟨rfl,E5⟩
         have X5:Hid (Ext wr w5):=E5
         clear E5 c0 c1 c2 c3 cG
         go_wp2_with (at_builtin;refine ars_app W wr _ B0 RB RC p q u v _ _ _ _ ⟨vk,vn,vs,ve⟩ w5.heap.size rfl rfl J26 J26 (blk_top rfl xr) HS.out (X5.out.alloc _) HL.out N6 HN6.out ?_;intro pv6 c6 w6 h6;have H6:Hid (ArS W B0 RB RC p q u v (areA M p q CN i ++ rowA M (p+(i:Int)) q (j+1)) (.slice pv6 (N6+1) c6) w6):=(by show ArS _ _ _ _ _ _ _ _ _ _ _;rw [HM.out,← List.append_assoc];obtain ⟨q1,q2,q3,q4⟩:=HV.out;unfold V.rw;rw [q1,q2,q3,q4];exact h6);clear h6)
         go_roundw
         case rel=>exact ⟨j+1,_,_,_,by rw [WJ.out],rfl,HJ.out,H6.out⟩
         case measure =>
           rw [WJ.out]
           show CN - (q+((j+1:Nat):Int) - q).toNat < CN - (q+(j:Int) - q).toNat
           have:=HJ.out
           omega
       · have hlj:¬ q+(j:Int)≤v:=by have:=HN.out;omega
         have HJ:Hid (j = CN):=by show _ = _;omega
         clear hlt hj
         go_wp2_with fail
         go_roundw
         case rel=>exact ⟨i+1,_,_,_,by rw [WI.out],rfl,HI.out,by rw [areA_snoc];have hS:=HS.out;rw [HJ.out] at hS;exact hS⟩
         case measure =>
           rw [WI.out]
           show RN - (p+((i+1:Nat):Int) - p).toNat < RN - (p+(i:Int) - p).toNat
           have:=HI.out
           omega
   · have hle:¬ p+(i:Int)≤u:=by have:=HN.out;omega
     have HI:Hid (i = RN):=by show _ = _;omega
     obtain ⟨_,⟨d0,d1,d2,d3⟩,e0,e1,e2,e3⟩:=HS.out.rb
     have w1':wrap64 (u - p) = u - p:=by unfold wrap64;have:=HN.out;omega
     have w2':wrap64 (u - p+1) = u - p+1:=by unfold wrap64;have:=HN.out;omega
     have w3':wrap64 (v - q) = v - q:=by unfold wrap64;have:=HN.out;omega
     have w4':wrap64 (v - q+1) = v - q+1:=by unfold wrap64;have:=HN.out;omega
     clear hlt hi
     go_wp2_with fail
     have hb0:=HS.out.b0
     have hfar:∀ b,b < B0→(Value.slice pv nv cv).ownBlock≠some b:=fun b hb hq=>by have:=(HS.out.o.lt b hq).1;omega
     have hO:=HS.out.o
     have hO1:=own_far (o:=0) (u:=.bool true) hO (hfar _ HS.out.b1)
     have hO2:=own_far (o:=1) (u:=.int .i64 (u - p+1)) hO1 (hfar _ HS.out.b1)
     have hO3:=own_far (o:=2) (u:=.int .i64 (v - q+1)) hO2 (hfar _ HS.out.b1)
     have hO4:=own_far (o:=3) (u:=.slice pv nv cv) hO3 (hfar _ HS.out.b1)
     refine finB (HS.out.rb.set _ _ _ _) rfl ((((HS.out.e.setCell hb0 _).setCell hb0 _).setCell hb0 _).setCell hb0 _) (fun g0 g1 g2 g3=>by simp [results,results102,go_sem,g0,g1,g2,g3]) (fun h=>⟨_,rfl,?_,fun k hk=>⟨by have h5:=(HS.out.o.lt k hk).1;have h6:=HS.out.b3;omega,by simpa [World.setCell] using (HS.out.o.lt k hk).2⟩,h⟩)
     rw [HI.out] at hO4
     exact own_rdV hO4
structure Ent (W:World) (b:Nat) (g:Option Nat) (n:Nat) (M:Bov):Prop where
 b:Brd W b g n M
 n:Nm W
 t:Tab W
theorem Ent.ext {W W':World} {b n:Nat} {g:Option Nat} {M:Bov} (h:Ent W b g n M) (e:Ext W W'):Ent W' b g n M:=⟨h.b.ext e,h.n.ext e,h.t.ext e⟩
def RkC (b:Nat) (g:Option Nat) (n:Nat) (M:Bov) (m:Nat) (x:T):Prop:=∀ (W:World) (pp:Option Addr) (ln cl:Nat),Ent W b g n M→IsL W (fun _=>True) (.slice pp ln cl) x.l →
 Calls Tryz.prog 37 #[.pointer (some ⟨b,0,none⟩),.agg #[.int .i64 x.k,.int .i64 x.n,.string (bs x.s),.int .i64 x.e,.int .i64 x.r.1,.int .i64 x.r.2.1,.bool x.r.2.2.1,.bool x.r.2.2.2,.int .i64 x.q.1,.int .i64 x.q.2.1,.bool x.q.2.2.1,.bool x.q.2.2.2,.slice pp ln cl]] W fun e w'=>e = .returned (.agg #[.int .i64 (evT m M x).k,.int .i64 (evT m M x).n,.string (evT m M x).s,.int .i64 (evT m M x).e])∧Ext W w'
theorem RdV.grown {W W':World} {v:Value} {l:List Rw} {row:Option Nat} (h:RdV W.heap.size W v l) (g:W.grownBy W' row) (hn:∀ k,v.ownBlock = some k→row≠some k):RdV W'.heap.size W' v l:=by
 obtain ⟨p,c,h1,h2,h3⟩:=h
 refine ⟨p,c,h1,h2,?_⟩
 rcases h3 with h3 | ⟨b,off,rfl,h4,h5,h6⟩
 · exact .inl h3
 · have k:=fun o=>(cell_of_heap (g.block b h5 (fun e=>hn b (by rw [h1];rfl) e.symm)) o).1
   refine .inr ⟨b,off,rfl,llL h5 g.size,llL h5 g.size,fun i r hr=>?_⟩
   exact K146
theorem RdV.ext' {W W':World} {v:Value} {l:List Rw} (h:RdV W.heap.size W v l) (e:Ext W W'):RdV W'.heap.size W' v l:=(h.low e).up e.size
def cBg (q:Bg × Value):List Value:=[.bool q.1.g.area,.int .i64 q.1.rows,.int .i64 q.1.cols,q.2]
theorem cBg_len (q:Bg × Value):(cBg q).length = 4:=rfl
theorem own_rdBg {W:World} {base:Nat} {v:Value} {l:List (Bg × Value)} (h:W.ownsRow base 113 4 v l.length (l.flatMap cBg)) (hv:∀ q ∈ l,RdV W.heap.size W q.2 q.1.g.l):RdB W.heap.size W v (l.map Prod.fst):=by
 have hl:(l.map Prod.fst).length = l.length:=J65
 rcases h.2 with ⟨rfl,h0⟩ | ⟨g,cap,cur,rfl,h2,h3,h4,h5⟩
 · exact K153
 · have hg:g < W.heap.size:=(Array.getElem?_eq_some_iff.1 h3).1
   refine ⟨_,cap,by rw [hl],by rw [hl];exact h4,.inr ⟨g,0,rfl,hg,hg,fun i r hr=>?_⟩⟩
   rw [List.getElem?_map] at hr
   obtain ⟨q,hq,rfl⟩:=Option.map_eq_some_iff.1 hr
   have k:=fun j (hj:j < 4) u (hu:(cBg q)[j]? = some u)=>h.cells (g:=g) rfl (i * 4+j) u (by rw [fm_at cBg 4 cBg_len l i q j hq hj];exact hu)
   simp only [Addr.add_lit] at k
   exact ⟨q.2,k 0 J9 _ rfl,k 1 J9 _ rfl,k 2 J9 _ rfl,k 3 J9 _ rfl,hv q (List.mem_of_getElem? hq)⟩
structure AgS (W:World) (B0:Nat) (l:List (Bg × Value)) (ov:Value) (wr:World):Prop where
 e:Ext W wr
 o:wr.ownsRow B0 113 4 ov l.length (l.flatMap cBg)
 v:∀ q ∈ l,RdV wr.heap.size wr q.2 q.1.g.l∧(∀ k,q.2.ownBlock = some k→ov.ownBlock≠some k∧k < wr.heap.size)
 b3:W.heap.size≤B0
 b4:B0≤wr.heap.size
theorem AgS.ext {W wr w':World} {B0:Nat} {l:List (Bg × Value)} {ov:Value} (h:AgS W B0 l ov wr) (e:Ext wr w'):AgS W B0 l ov w' :=
 ⟨h.e.trans e,ownsRow_ext h.o e,fun q hq=>⟨(h.v q hq).1.ext' e,fun k hk=>⟨((h.v q hq).2 k hk).1,llL ((h.v q hq).2 k hk).2 e.size⟩⟩,h.b3,Nat.le_trans h.b4 e.size⟩
theorem ags_app {ops:Array Oper} {rest:List Oper} {o:Oper} {a:Act} {Q:Exit→Act→World→Prop} (W wr WA:World) (B0:Nat) (s x:Operand) (ov:Value) (l:List (Bg × Value)) (r:Bg) (lv:Value) (g:Nat) (hgd:o.guard = none)
   (ho:o.op = .call { callee:=.builtin .append,args:=#[s,x],argTypes:=#[107,107] }) (hs:a.eval s = ov) (hx:a.eval x = .slice (some ⟨g,0,none⟩) 1 1)
   (hc:Blk WA g (.bool r.g.area) (.int .i64 r.rows) (.int .i64 r.cols) lv) (hv:RdV WA.heap.size WA lv r.g.l) (hlo:∀ k,lv.ownBlock = some k→wr.heap.size≤k∧k < WA.heap.size) (h:AgS W B0 l ov wr) (e:Ext wr WA) (hl:l.length≤100000) (N:Nat) (hN:l.length = N)
   (K:∀ pv c W',AgS W B0 (l ++ [(r,lv)]) (.slice pv (N+1) c) W'→wpList Tryz.prog ops Q rest (a.put o.dst (.slice pv (N+1) c)) W') :
   wpList Tryz.prog ops Q (o :: rest) a WA:=by
 subst hN
 have h':=h.ext e
 refine own_app2 eltA WA W s x ov _ l.length 1 (l.flatMap cBg) (cBg (r,lv)) B0 hgd ho hs hx h'.o ⟨rfl,_,_,rfl,.inr ⟨_,rfl,?_⟩⟩ ?_ J30 J2 h'.e h'.b3 h'.b4 ?_
 · intro j y hj
   obtain ⟨_,⟨k0,k1,k2,k3⟩,_⟩:=hc
   match j,hj with
   | 0,hj=>simp [cBg] at hj;subst hj;simpa [Addr.add] using k0
   | 1,hj=>simp [cBg] at hj;subst hj;simpa [Addr.add] using k1
   | 2,hj=>simp [cBg] at hj;subst hj;simpa [Addr.add] using k2
   | 3,hj=>simp [cBg] at hj;subst hj;simpa [Addr.add] using k3
   | j+4,hj=>simp [cBg] at hj
 · intro y hy
   obtain ⟨p',c',hf,_⟩:=hv
   simp [cBg] at hy
   rcases hy with rfl | rfl | rfl | rfl
   · rfl
   · rfl
   · rfl
   · rw [hf];rfl
 · intro v' W' k1 k2 k3 k4
   obtain ⟨pv,c,rfl,_⟩:=own_form k1
   have hov:∀ k,ov.ownBlock = some k→k < wr.heap.size:=fun k hk=>(h.o.lt k hk).2
   refine K pv c W' ⟨k2,?_,?_,h.b3,Nat.le_trans h'.b4 k3.size⟩
   · rw [List.flatMap_append,List.length_append]
     simpa using k1
   · intro q hq
     rcases List.mem_append.1 hq with hq | hq
     · obtain ⟨g1,g2⟩:=h'.v q hq
       refine ⟨g1.grown k3 (fun k hk=>(g2 k hk).1),fun k hk=>⟨?_,llL (g2 k hk).2 k3.size⟩⟩
       rcases k4 with k4 | k4
       · rw [k4];exact (g2 k hk).1
       · rw [k4];intro e9;cases e9;have:=(g2 _ hk).2;omega
     · simp at hq
       subst hq
       refine ⟨hv.grown k3 (fun k hk e9=>by have:=hov k e9;have:=(hlo k hk).1;omega),fun k hk=>⟨?_,llL (hlo k hk).2 k3.size⟩⟩
       rcases k4 with k4 | k4
       · rw [k4];intro e9;have:=hov k e9;have:=(hlo k hk).1;omega
       · rw [k4];intro e9;cases e9;have:=(hlo _ hk).2;omega
theorem RdV.one {W:World} {g:Nat} {r:Rw} (B:Blk W g (.int .i64 r.k) (.int .i64 r.n) (.string r.s) (.int .i64 r.e)):RdV W.heap.size W (.slice (some ⟨g,0,none⟩) 1 1) [r]:=by
 refine ⟨_,1,rfl,Nat.le_refl _,.inr ⟨g,0,rfl,B.1,B.1,fun i x hx=>?_⟩⟩
 cases i with
 | zero=>simp at hx;subst hx;simpa using B.2.1
 | succ i=>simp at hx
theorem earguments_any (b:Nat) (g:Option Nat) (n:Nat) (M:Bov) (m:Nat) (l:List T) (hl:l.length≤20) (hx:∀ x ∈ l,x.k≠5→RkC b g n M m x) (hr:∀ x ∈ l,x.k = 5→inB x.r.1 x.r.2.1 = true∧inB x.q.1 x.q.2.1 = true)
   (W:World) (pp:Option Addr) (ln cl:Nat) (hE:Ent W b g n M) (hI:IsL W (fun _=>True) (.slice pp ln cl) l) :
   Calls Tryz.prog 71 #[.pointer (some ⟨b,0,none⟩),.slice pp ln cl] W fun e w'=>∃ lv,e = .returned lv∧RdB w'.heap.size w' lv (l.map (argX m M))∧Ext W w':=by
 have hln:ln = l.length:=by
   obtain ⟨p,c,h1,_⟩:=hI.form
   cases h1;rfl
 have HX:Hid (∀ x ∈ l,x.k≠5→RkC b g n M m x):=hx
 have HR:Hid (∀ x ∈ l,x.k = 5→inB x.r.1 x.r.2.1 = true∧inB x.q.1 x.q.2.1 = true):=hr
 have HI:Hid (IsL W (fun _=>True) (.slice pp ln cl) l):=hI
 have HE:Hid (Ent W b g n M):=hE
 have HLN:Hid (ln = l.length):=hln
 have hl2:ln≤20:=J2
 clear hx hr hI hE hln hl
 go_enter func71,ntmps71
 go_wp2_with (at_make;refine own_make eltA _ _ _ _ ln W.heap.size rfl rfl J26 J26 J26 J2 J30 nrf ?_;intro w3 O3 E3;have HS:Hid (AgS W W.heap.size [] (.slice (some ⟨W.heap.size,0,none⟩) 0 ln) w3):=⟨E3,O3,fun q hq=>(by cases hq),Nat.le_refl _,E3.size⟩;clear O3 E3)
 go_loopw [13,5] (fun iv ov wr=>∃ (j:Nat) (pv:Option Addr) (nv cv:Nat) (L:List (Bg × Value)),iv = .int .i64 (j:Int)∧ov = .slice pv nv cv∧j≤ln∧L.map Prod.fst = (l.take j).map (argX m M)∧AgS W W.heap.size L (.slice pv nv cv) wr) (fun iv _ _=>ln - (intOf iv).toNat)
 case atStart=>exact ⟨0,_,_,_,[],rfl,rfl,Nat.zero_le _,rfl,HS.out⟩
 case round =>
   clear HS
   obtain ⟨j,pv,nv,cv,L,rfl,rfl,hj,hL,hS⟩:=hrel
   have HS:Hid (AgS W W.heap.size L (.slice pv nv cv) wr∧L.map Prod.fst = (l.take j).map (argX m M)):=⟨hS,hL⟩
   clear hS hL
   by_cases hlt:j < ln
   · have hltI:(j:Int) < (ln:Int):=J2
     have hI:=HI.out.ext HS.out.1.e
     obtain ⟨gb,off,x,lv,hpp,hx1,hA1,hgb,hA2,hLx,hce⟩:=hI.at (i:=j) J55
     clear hA1 hA2
     subst hpp
     obtain ⟨pp',cl',hlv,hcl⟩:=hLx.form
     obtain ⟨ln',hln'⟩:∃ ln',x.l.length = ln':=⟨_,rfl⟩
     rw [hln'] at hlv
     subst hlv
     have HX1:Hid (l[j]? = some x∧IsL wr (fun _=>True) (.slice pp' ln' cl') x.l):=⟨hx1,hLx⟩
     have e0:wr.cell? ⟨gb,off+j * 13,none⟩ = some (.int .i64 x.k):=hce 0 _ rfl
     have e1:wr.cell? ⟨gb,off+j * 13+1,none⟩ = some (.int .i64 x.n):=hce 1 _ rfl
     have e2:wr.cell? ⟨gb,off+j * 13+2,none⟩ = some (.string (bs x.s)):=hce 2 _ rfl
     have e3:wr.cell? ⟨gb,off+j * 13+3,none⟩ = some (.int .i64 x.e):=hce 3 _ rfl
     have e4:wr.cell? ⟨gb,off+j * 13+4,none⟩ = some (.int .i64 x.r.1):=hce 4 _ rfl
     have e5:wr.cell? ⟨gb,off+j * 13+5,none⟩ = some (.int .i64 x.r.2.1):=hce 5 _ rfl
     have e6:wr.cell? ⟨gb,off+j * 13+6,none⟩ = some (.bool x.r.2.2.1):=hce 6 _ rfl
     have e7:wr.cell? ⟨gb,off+j * 13+7,none⟩ = some (.bool x.r.2.2.2):=hce 7 _ rfl
     have e8:wr.cell? ⟨gb,off+j * 13+8,none⟩ = some (.int .i64 x.q.1):=hce 8 _ rfl
     have e9:wr.cell? ⟨gb,off+j * 13+9,none⟩ = some (.int .i64 x.q.2.1):=hce 9 _ rfl
     have e10:wr.cell? ⟨gb,off+j * 13+10,none⟩ = some (.bool x.q.2.2.1):=hce 10 _ rfl
     have e11:wr.cell? ⟨gb,off+j * 13+11,none⟩ = some (.bool x.q.2.2.2):=hce 11 _ rfl
     have e12:wr.cell? ⟨gb,off+j * 13+12,none⟩ = some (.slice pp' ln' cl'):=hce 12 _ rfl
     have WJ:Hid (wrap64 ((j:Int)+1) = ((j+1:Nat):Int)):=wrap_1 j J2
     have HJ:Hid (j < ln):=hlt
     obtain ⟨N6,hN6⟩:∃ N6,L.length = N6:=⟨_,rfl⟩
     have HN6:Hid (L.length = N6∧L.length≤100000):=by
       refine ⟨hN6,?_⟩
       have h1:(L.map Prod.fst).length = ((l.take j).map (argX m M)).length:=by rw [HS.out.2]
       simp at h1
       omega
     have HT:Hid ((l.take (j+1)).map (argX m M) = (l.take j).map (argX m M) ++ [argX m M x]):=by
       show _ = _
       rw [List.take_add_one,HX1.out.1]
       simp
     clear hI hx1 hLx hce hcl hln' hN6 hlt hj
     by_cases hk:x.k = 5
     · have k5:(x.k == 5) = true:=J96
       have cA:=fun W' (e:Ext W W')=>earea_any W' b n g M (HE.out.b.ext e) x.r.1 x.r.2.1 x.q.1 x.q.2.1 x.r.2.2.1 x.r.2.2.2 x.q.2.2.1 x.q.2.2.2 (HR.out x (List.mem_of_getElem? HX1.out.1) hk).1 (HR.out x (List.mem_of_getElem? HX1.out.1) hk).2
       have HY:Hid (argX m M x = argR M (x.r.1,x.r.2.1,x.r.2.2.1,x.r.2.2.2) (x.q.1,x.q.2.1,x.q.2.2.1,x.q.2.2.2)):=by
         show _ = _
         unfold argX
         rw [if_pos hk]
       have HA:Hid ((argR M (x.r.1,x.r.2.1,x.r.2.2.1,x.r.2.2.2) (x.q.1,x.q.2.1,x.q.2.2.1,x.q.2.2.2)).g.area = true):=rfl
       generalize argR M (x.r.1,x.r.2.1,x.r.2.2.1,x.r.2.2.2) (x.q.1,x.q.2.1,x.q.2.2.1,x.q.2.2.2) = bg at *
       obtain ⟨yr,yc,hy1,hy2⟩:∃ yr yc,bg.rows = yr∧bg.cols = yc:=⟨_,_,rfl,rfl⟩
       have HYY:Hid (bg.rows = yr∧bg.cols = yc):=⟨hy1,hy2⟩
       simp only [hy1,hy2] at cA
       clear hk hy1 hy2
       go_wp2_with fail
       refine (cA _ (HS.out.1.e.alloc _)).mono ?_
       rintro e w5 ⟨lv,rfl,hv5,ho5,E5⟩
       have X5:Hid (Ext wr w5∧RdV w5.heap.size w5 lv bg.g.l∧(∀ k,lv.ownBlock = some k→wr.heap.size≤k∧k < w5.heap.size)):=⟨(xr.alloc _).trans E5,hv5,fun k hk=>by have:=ho5 k hk;simp at this;omega⟩
       clear E5 hv5 ho5 cA e0 e1 e2 e3 e4 e5 e6 e7 e8 e9 e10 e11 e12 k5
       go_wp2_with (at_builtin;refine ags_app W wr _ W.heap.size _ _ _ L bg lv w5.heap.size rfl rfl J26 J26 (by rw [HA.out,HYY.out.1,HYY.out.2];exact blk_top rfl xr) (X5.out.2.1.ext' (xr.alloc _)) (fun k hk=>⟨(X5.out.2.2 k hk).1,by have:=(X5.out.2.2 k hk).2;simp;omega⟩) HS.out.1 (X5.out.1.alloc _) HN6.out.2 N6 HN6.out.1 ?_;intro pv6 c6 w6 h6;have H6:Hid (AgS W W.heap.size (L ++ [(bg,lv)]) (.slice pv6 (N6+1) c6) w6):=h6;clear h6)
       exact K87
     · have k5:(x.k == 5) = false:=J96
       have cA:=fun W' (e:Ext wr W')=>HX.out x (List.mem_of_getElem? HX1.out.1) hk W' pp' ln' cl' (HE.out.ext (HS.out.1.e.trans e)) (HX1.out.2.ext e)
       have HY:Hid (argX m M x = argV (evT m M x)):=by
         show _ = _
         unfold argX
         rw [if_neg hk]
       generalize evT m M x = vv at *
       obtain ⟨vk,vn,vs,ve,hvv⟩:∃ vk vn vs ve,vv.k = vk∧vv.n = vn∧vv.s = vs∧vv.e = ve:=⟨_,_,_,_,rfl,rfl,rfl,rfl⟩
       have HV:Hid (vv.k = vk∧vv.n = vn∧vv.s = vs∧vv.e = ve):=hvv
       obtain ⟨q1,q2,q3,q4⟩:=hvv
       rw [q1,q2,q3,q4] at cA
       clear q1 q2 q3 q4 hk
       go_wp2_with fail
       refine (cA _ (xr.alloc _)).mono ?_
       rintro e w5 ⟨rfl,E5⟩
       have X5:Hid (Ext wr w5):=(xr.alloc _).trans E5
       clear E5 cA e0 e1 e2 e3 e4 e5 e6 e7 e8 e9 e10 e11 e12 k5
       go_wp2_with (at_builtin;refine ags_app W wr _ W.heap.size _ _ _ L (argV vv) (.slice (some ⟨w5.heap.size,0,none⟩) 1 1) (w5.heap.size+1) rfl rfl J26 J26 (blk_top J65 xr) (by have B:=(blk_top (b:=w5.heap.size) rfl (Ext.refl (w5.alloc (.cells #[.int .i64 vk,.int .i64 vn,.string vs,.int .i64 ve] 33)))).al (.cells #[.bool false,.int .i64 0,.int .i64 0,.slice (some ⟨w5.heap.size,0,none⟩) 1 1] 113);obtain ⟨q1,q2,q3,q4⟩:=HV.out;have B2:=RdV.one (r:=⟨vk,vn,vs,ve⟩) B;show RdV _ _ _ [vv.rw];unfold V.rw;rw [q1,q2,q3,q4];exact B2) (fun k hk=>by cases hk;exact ⟨X5.out.size,by show w5.heap.size < ((w5.alloc _).alloc _).heap.size;simp;omega⟩) HS.out.1 ((X5.out.alloc _).alloc _) HN6.out.2 N6 HN6.out.1 ?_;intro pv6 c6 w6 h6;have H6:Hid (AgS W W.heap.size (L ++ [(argV vv,.slice (some ⟨w5.heap.size,0,none⟩) 1 1)]) (.slice pv6 (N6+1) c6) w6):=h6;clear h6)
       exact K87
   · have hltI:¬ (j:Int) < (ln:Int):=J2
     have HJ:Hid (j = l.length):=by show _ = _;have:=HLN.out;omega
     clear hlt hj
     go_wp2_with fail
     go_ret
     refine ⟨_,rfl,?_,HS.out.1.e⟩
     have h1:=own_rdBg HS.out.1.o (fun q hq=>(HS.out.1.v q hq).1)
     rw [HS.out.2,HJ.out,List.take_length] at h1
     exact h1
def TE (v:V):Prop:=(∃ s,v = .text s∧s.size≤300)∨(∃ e,v = .err e∧1≤e∧e≤5)
theorem jo_ea {a:V} (h:TE a) (k:a.k = 4) (b:V):join2 a b = a:=by
 exact K175
theorem jo_eb {a b:V} (h:TE a) (g:TE b) (k:a.k≠4) (l:b.k = 4):join2 a b = b:=by
 exact K120
theorem jo_n {a b:V} (h:TE a) (g:TE b) (k:a.k≠4) (l:b.k≠4):join2 a b = mkText (a.s ++ b.s)∧a.s.size≤300∧b.s.size≤300:=by
 rcases h with ⟨n,rfl,i⟩ | ⟨e,rfl,_⟩
 · rcases g with ⟨m,rfl,j⟩ | ⟨e,rfl,_⟩
   · exact ⟨rfl,i,j⟩
   · simp [V.k] at l
 · simp [V.k] at k
theorem vjoin_any (ka na:Int) (sa:ByteArray) (ea kb nb:Int) (sb:ByteArray) (eb:Int) (w:World) (hna:I64 na) (hnb:I64 nb) (hN:Nm w) (hT:Tab w) :
   Calls Tryz.prog 98 #[.agg #[.int .i64 ka,.int .i64 na,.string sa,.int .i64 ea],.agg #[.int .i64 kb,.int .i64 nb,.string sb,.int .i64 eb]] w fun r w'=>r = .returned (join (nm ka na sa ea) (nm kb nb sb eb)).dat∧Ext w w':=by
 have c1:=fun W h t=>vtotext_any ka na sa ea W hna t h
 have c2:=fun W h t=>vtotext_any kb nb sb eb W hnb t h
 have n1:TE _:=toText_cases (nm ka na sa ea) (nm_ok _ _ _ _ hna)
 have n2:TE _:=toText_cases (nm kb nb sb eb) (nm_ok _ _ _ _ hnb)
 unfold join
 generalize (nm ka na sa ea).toText = a at c1 n1 ⊢
 generalize (nm kb nb sb eb).toText = b at c2 n2 ⊢
 rw [dat_eq] at c1 c2
 have H1:Hid (a.k = 4→(join2 a b).dat = .agg #[.int .i64 4,.int .i64 a.n,.string a.s,.int .i64 a.e]):=fun h=>by rw [jo_ea n1 h b,dat_eq,h]
 have H2:Hid (a.k≠4→b.k = 4→(join2 a b).dat = .agg #[.int .i64 4,.int .i64 b.n,.string b.s,.int .i64 b.e]):=fun h g=>by rw [jo_eb n1 n2 h g,dat_eq,g]
 have H3:Hid (a.k≠4→b.k≠4→join2 a b = mkText (a.s ++ b.s)∧a.s.size≤300∧b.s.size≤300):=fun h g=>jo_n n1 n2 h g
 clear n1 n2 hna hnb
 generalize a.k = pk at *
 generalize a.n = pn at *
 generalize a.s = ps at *
 generalize a.e = pe at *
 generalize b.k = qk at *
 generalize b.n = qn at *
 generalize b.s = qs at *
 generalize b.e = qe at *
 generalize join2 a b = J at *
 clear a b
 go_enter func98,ntmps98
 go_upto_region 1 with fail
 obtain ⟨W0,hW0⟩:∃ W0,W0 = ((w.alloc (.cells #[.int .i64 ka,.int .i64 na,.string sa,.int .i64 ea] 33)).alloc (.cells #[.int .i64 kb,.int .i64 nb,.string sb,.int .i64 eb] 33)).alloc (.cells #[.int .i64 0,.int .i64 0,.string ⟨#[]⟩,.int .i64 0] 33):=⟨_,rfl⟩
 rw [← hW0]
 have XW:Ext w W0:=by rw [hW0];exact ((xr.alloc _).alloc _).alloc _
 have hK:Hid (∀ W,Ext W0 W→Blk W (w.heap.size) (.int .i64 ka) (.int .i64 na) (.string sa) (.int .i64 ea)∧Blk W (w.heap.size+1) (.int .i64 kb) (.int .i64 nb) (.string sb) (.int .i64 eb)∧Blk W (w.heap.size+1+1) (.int .i64 0) (.int .i64 0) (.string ⟨#[]⟩) (.int .i64 0)):=by
   exact K121
 clear hW0
 go_cut [] (fun wx=>Ext w wx∧Blk wx (w.heap.size) (.int .i64 pk) (.int .i64 pn) (.string ps) (.int .i64 pe)∧Blk wx (w.heap.size+1) (.int .i64 qk) (.int .i64 qn) (.string qs) (.int .i64 qe)∧Blk wx (w.heap.size+1+1) (.int .i64 0) (.int .i64 0) (.string ⟨#[]⟩) (.int .i64 0))
 case first =>
   obtain ⟨⟨az,⟨a0,a1,a2,a3⟩,af0,af1,af2,af3⟩,⟨bz,⟨b0,b1,b2,b3⟩,bf0,bf1,bf2,bf3⟩,_⟩:=hK.out W0 xr
   have d1:=fun W (h:Ext W0 W)=>c1 W (hN.ext (XW.trans h)) (hT.ext (XW.trans h))
   have d2:=fun W (h:Ext W0 W)=>c2 W (hN.ext (XW.trans h)) (hT.ext (XW.trans h))
   clear c1 c2 H1 H2 H3
   go_region_with (first | (go_at_call 131;have q1:=E5;refine Calls.mono (d2 _ ?hh) ?_;(case hh=>(with_reducible repeat (first | assumption | exact xr | apply Ext.drew | apply Ext.drewN)));rintro e w6 ⟨rfl,E6⟩;have X6:Ext W0 w6:=Ext.trans J22 E6;obtain ⟨⟨az,⟨a0,a1,a2,a3⟩,af0,af1,af2,af3⟩,⟨bz,⟨b0,b1,b2,b3⟩,bf0,bf1,bf2,bf3⟩,_⟩:=hK.out  w6 X6) | (go_at_call 131;refine Calls.mono (d1 _ ?hh) ?_;(case hh=>(with_reducible repeat (first | assumption | exact xr | apply Ext.drew | apply Ext.drewN)));rintro e w5 ⟨rfl,E5⟩;have X5:Ext W0 w5:=Ext.trans J22 E5;obtain ⟨⟨az,⟨a0,a1,a2,a3⟩,af0,af1,af2,af3⟩,⟨bz,⟨b0,b1,b2,b3⟩,bf0,bf1,bf2,bf3⟩,_⟩:=hK.out  w5 X5))
   all_goals
     obtain ⟨A6,B6,R6⟩:=hK.out w6 X6
     have X7:Ext w w6:=XW.trans X6
     exact K20
 case rest =>
   obtain ⟨X,A,B,R⟩:=hcut
   have A':=A
   have B':=B
   have R':=R
   obtain ⟨az,⟨a0,a1,a2,a3⟩,af0,af1,af2,af3⟩:=A'
   obtain ⟨bz,⟨b0,b1,b2,b3⟩,bf0,bf1,bf2,bf3⟩:=B'
   obtain ⟨rz,⟨r0,r1,r2,r3⟩,rf0,rf1,rf2,rf3⟩:=R'
   clear c1 c2 hK XW
   by_cases ha:pk = 4
   · have H:Hid (J.dat = _):=H1.out ha
     subst ha
     have c:=fun W h=>firsterr_a 4 pn ps pe qk qn qs qe wc.heap.size W h J9
     clear H1 H2 H3 hN hT
     exact K190
   · by_cases hb:qk = 4
     · have H:Hid (J.dat = _):=H2.out ha hb
       subst hb
       have c:=fun W h=>firsterr_b pk pn ps pe 4 qn qs qe wc.heap.size W h J49 J9
       clear H1 H2 H3 ha hN hT
       exact K190
     · obtain ⟨rfl,i1,i2⟩:=H3.out ha hb
       have c:=fun W h=>firsterr_n pk pn ps pe qk qn qs qe wc.heap.size W h J49 (by simpa using hb)
       have ct:=fun W h=>vtext_any (ps ++ qs) W h
       obtain ⟨u0,u1,u2,u3,hu⟩:=dat4 (mkText (ps ++ qs))
       rw [hu] at ct
       have H:Hid ((mkText (ps ++ qs)).dat = _):=hu
       clear hu
       clear H1 H2 H3 ha hb hT
       go_wp2_with fail
       refine (c _ two_alloc).mono ?_
       rintro r w2 ⟨rfl,E2⟩
       have A2:=(A.ext (xr.alloc _)).ext E2
       have B2:=(B.ext (xr.alloc _)).ext E2
       have X2:Ext w w2:=Ext.trans J0 E2
       have R2:=(R.ext (xr.alloc _)).ext E2
       clear A B R E2 X c az a0 a1 a2 a3 af0 af1 af2 af3 bz b0 b1 b2 b3 bf0 bf1 bf2 bf3 rz r0 r1 r2 r3 rf0 rf1 rf2 rf3
       obtain ⟨az,⟨a0,a1,a2,a3⟩,af0,af1,af2,af3⟩:=A2
       obtain ⟨bz,⟨b0,b1,b2,b3⟩,bf0,bf1,bf2,bf3⟩:=B2
       go_wp2_with fail
       refine (ct _ ?hn).mono ?_
       case hn=>exact hN.ext J4
       rintro r w3 ⟨rfl,E3⟩
       have X3:Ext w w3:=Ext.trans J4 E3
       have R3:=(R2.ext (xr.alloc _)).ext E3
       have R4:=R3
       obtain ⟨rz,⟨r0,r1,r2,r3⟩,rf0,rf1,rf2,rf3⟩:=R4
       clear ct X2 E3 az a0 a1 a2 a3 af0 af1 af2 af3 bz b0 b1 b2 b3 bf0 bf1 bf2 bf3
       exact K25
end Go.Proofs.YtcfgbiaahangmaaGreatDoor

import Derived.Test.YtcfgbiaahangmaaGreatDoorT32
set_option maxHeartbeats 1000000
set_option maxRecDepth 100000
namespace Go.Proofs.YtcfgbiaahangmaaGreatDoor
open Go.Proofs.Tryz
open Go.RowKit
theorem ok_n {v : V} (h : v.ok) : I64 v.n:=(nm_of v h).2
theorem neg_ok {v : V} (h : v.ok) : v.neg.ok:=by
 unfold V.neg
 rcases toNum_cases v h with ⟨m,e,⟨i1,i2⟩,cm⟩ | ⟨x,e,hx⟩
 · rw [e]
   have i3 : m ≠ -9223372036854775808:=by simpa [canB] using cm
   exact ⟨⟨by omega,by omega⟩,by simp [canB];omega⟩
 · rw [e];exact hx
theorem reckon_ok (op x y : Int) : (reckon op x y).ok:=by
 unfold reckon
 split
 · refine toldR_ok _ _ ?_
   unfold addV
   split
   · rename_i h;unfold addB fitB at h;simp at h;exact ⟨by omega,by omega⟩
   · exact I64.z
 · split
   · refine toldR_ok _ _ ?_
     unfold subV
     split
     · rename_i h;unfold subB fitB at h;simp at h;exact ⟨by omega,by omega⟩
     · exact I64.z
   · split
     · refine toldR_ok _ _ ?_
       unfold mulV
       split
       · exact sgnV_i _ _
       · exact I64.z
     · split
       · exact K79
       · refine toldR_ok _ _ ?_
         unfold divV
         split
         · exact sgnV_i _ _
         · exact I64.z
theorem arith_ok (op : Int) {a b : V} (ha : a.ok) (hb : b.ok) : (arith op a b).ok:=by
 unfold arith
 split
 · rcases toNum_cases a ha with ⟨m,e,_⟩ | ⟨x,e,hx⟩
   · rcases toNum_cases b hb with ⟨m',e',_⟩ | ⟨x',e',hx'⟩
     · rw [e,e'];exact reckon_ok op m m'
     · rw [e,e'];exact hx'
   · rw [e];exact hx
 · exact K79
theorem join_ok {a b : V} (ha : a.ok) (hb : b.ok) : (join a b).ok:=by
 have h1:=toText_ok a ha
 have h2:=toText_ok b hb
 unfold join
 generalize a.toText = x at *
 generalize b.toText = y at *
 cases x <;> cases y <;> first | exact mkText_ok _ | exact h1 | exact h2 | trivial
theorem cmpE_ok {a b : V} (ha : a.ok) (hb : b.ok) : (cmpE a b).ok:=by cases a <;> cases b <;> first | exact ha | exact hb | trivial
theorem bin_ok (s : List UInt8) {a b : V} (ha : a.ok) (hb : b.ok) : (binV s a b).ok:=by
 unfold binV
 split
 · exact arith_ok _ ha hb
 · split
   · exact join_ok ha hb
   · unfold cmpS
     split
     · exact cmpE_ok ha hb
     · trivial
theorem fits_ok {gs : List Ag} (hi : AgI gs) (h : (seen gs).length ≤ 10000000000) : (fSum gs).ok ∧ (fCount gs).ok ∧ (∀ p,(fBest p gs).ok) ∧ (fMean gs).ok ∧ (∀ b,(fTruth b gs).ok) ∧ (fCat gs).ok:=by
 have hs:=seen_ok gs hi
 have hb:=bad_ok numF_okk hs
 have hj:=(got_nums _ hs).i
 have hl : (got numF (seen gs)).length ≤ 10000000000:=Nat.le_trans (got_len _ _) h
 refine ⟨orBad_ok hb (toldR_ok _ _ (toldV_i _)),mkNum_ok _ ⟨by omega,by omega⟩,fun p=>orBad_ok hb (mkNum_ok _ (bestN_i p _ hj)),orBad_ok hb ?_,fun b=>orBad_ok (bad_ok truF_okk hs) ?_,orBad_ok (bad_ok texF_okk hs) (mkText_ok _)⟩
 · split
   · exact K79
   · exact toldR_ok _ _ (meanV_i _ _)
 · split
   · exact K79
   · trivial
theorem sg_ok {l : List Bg} (hi : AgI (gsOf l)) (i : Nat) : (sg l i).ok:=by
 unfold sg
 cases hx : l[i]? with
 | none=>exact ⟨by decide,by decide⟩
 | some a =>
   show (sgl a).ok
   unfold sgl
   split
   · exact K79
   · have:=hi a.g (by unfold gsOf;exact List.mem_map.2 ⟨a,List.mem_of_getElem? hx,rfl⟩)
     exact K163
theorem rw_n {v : V} (h : v.ok) : I64 v.rw.n:=ok_n h
theorem nuR_i {v : V} (h : v.ok) {n : Int} (e : nuR v = .ok n) : I64 n ∧ canB n = true:=by
 unfold nuR at e
 rcases toNum_cases v h with ⟨m,e',h1,h2⟩ | ⟨x,e',hx⟩
 · rw [e'] at e
   cases e
   exact ⟨h1,h2⟩
 · rw [e'] at e;cases e
theorem tolR_n {b : Bool} {n : Int} (h : I64 n) {r : Rw} (e : (tolR b n).map V.rw = .ok r) : I64 r.n:=by
 cases b with
 | true=>cases e;exact rw_n (mkNum_ok n h)
 | false=>cases e
theorem xcall_n {s : List UInt8} {l : List Bg} (hi : AgI (gsOf l)) (h : (seen (gsOf l)).length ≤ 10000000000) {r : Rw} (e : xCall s l = .ok r) : I64 r.n:=by
 obtain ⟨f1,f2,f3,f4,f5,f6⟩:=fits_ok hi h
 unfold xCall at e
 by_cases h0 : s = [83,85,77]
 · rw [if_pos h0] at e
   cases e;exact rw_n f1
 rw [if_neg h0] at e
 by_cases h1 : s = [67,79,85,78,84]
 · rw [if_pos h1] at e
   cases e;exact rw_n f2
 rw [if_neg h1] at e
 by_cases h2 : s = [77,73,78]
 · rw [if_pos h2] at e
   cases e;exact rw_n (f3 _)
 rw [if_neg h2] at e
 by_cases h3 : s = [77,65,88]
 · rw [if_pos h3] at e
   cases e;exact rw_n (f3 _)
 rw [if_neg h3] at e
 by_cases h4 : s = [65,86,69,82,65,71,69]
 · rw [if_pos h4] at e
   cases e;exact rw_n f4
 rw [if_neg h4] at e
 by_cases h5 : s = [65,78,68]
 · rw [if_pos h5] at e
   cases e;exact rw_n (f5 _)
 rw [if_neg h5] at e
 by_cases h6 : s = [79,82]
 · rw [if_pos h6] at e
   cases e;exact rw_n (f5 _)
 rw [if_neg h6] at e
 by_cases h7 : s = [67,79,78,67,65,84]
 · rw [if_pos h7] at e
   cases e;exact rw_n f6
 rw [if_neg h7] at e
 by_cases h8 : s = [73,70]
 · rw [if_pos h8] at e
   unfold xIf at e
   split at e
   · cases e
   · split at e
     · cases e;exact rw_n (sg_ok hi 1)
     · split at e
       · cases e;exact rw_n (v:=.tf false) trivial
       · cases e;exact rw_n (sg_ok hi 2)
 rw [if_neg h8] at e
 by_cases h9 : s = [78,79,84]
 · rw [if_pos h9] at e
   unfold xNot at e
   split at e
   · cases e
   · cases e;exact rw_n (v:=.tf _) trivial
 rw [if_neg h9] at e
 by_cases h10 : s = [65,66,83]
 · rw [if_pos h10] at e
   unfold xAbs at e
   split at e
   · cases e
   · rename_i n hn
     obtain ⟨⟨i1,i2⟩,c⟩:=nuR_i (sg_ok hi 0) hn
     cases e
     have h3 : n ≠ -9223372036854775808:=by simpa [canB] using c
     exact rw_n (mkNum_ok _ (by unfold szN;split <;> exact ⟨by omega,by omega⟩))
 rw [if_neg h10] at e
 by_cases h11 : s = [82,79,85,78,68]
 · rw [if_pos h11] at e
   unfold xRound at e
   split at e
   · cases e
   · rename_i a ha
     split at e
     · cases e
     · exact tolR_n (rndV_i _ _ (nuR_i (sg_ok hi 0) ha).1) e
 rw [if_neg h11] at e
 by_cases h12 : s = [77,79,68]
 · rw [if_pos h12] at e
   unfold xMod at e
   split at e
   · cases e
   · rename_i a ha
     split at e
     · cases e
     · rename_i b hb
       split at e
       · cases e
       · exact tolR_n (modV_i _ _ (nuR_i (sg_ok hi 0) ha).1 (nuR_i (sg_ok hi 1) hb).1) e
 rw [if_neg h12] at e
 by_cases h13 : s = [70,76,79,79,82]
 · rw [if_pos h13] at e
   unfold xFloor at e
   split at e
   · cases e
   · rename_i a ha
     exact tolR_n (floorV_i _ (nuR_i (sg_ok hi 0) ha).1) e
 rw [if_neg h13] at e
 by_cases h14 : s = [83,81,82,84]
 · rw [if_pos h14] at e
   unfold xSqrt at e
   split at e
   · cases e
   · rename_i a ha
     exact tolR_n (rootV_i _ (nuR_i (sg_ok hi 0) ha).1) e
 rw [if_neg h14] at e
 by_cases h15 : s = [76,69,78]
 · rw [if_pos h15] at e
   unfold xLen at e
   split at e
   · cases e
   · rename_i t ht
     cases e
     have hz : t.size ≤ 300:=by
       have:=toText_ok _ (sg_ok hi 0)
       unfold teR at ht
       generalize (sg l 0).toText = u at *
       cases u <;> simp at ht
       all_goals subst ht
       all_goals first | exact this | (show (⟨#[]⟩ : ByteArray).size ≤ 300;decide)
     exact rw_n (mkNum_ok _ ⟨by omega,by omega⟩)
 rw [if_neg h15] at e
 by_cases h16 : s = [76,69,70,84]
 · rw [if_pos h16] at e
   unfold xLeft at e
   split at e
   · cases e
   · split at e
     · cases e
     · split at e
       · cases e
       · cases e;exact rw_n (mkText_ok _)
 rw [if_neg h16] at e
 by_cases h17 : s = [73,78,68,69,88]
 · rw [if_pos h17] at e
   unfold xIndex at e
   split at e
   · cases e
   · split at e
     · cases e
     · split at e
       · rename_i b hb
         unfold pkR at e
         split at e
         · cases e
         · split at e
           · cases e
           · split at e
             · rename_i r' hr'
               cases e
               have hm:=List.mem_of_getElem? hr'
               unfold arOf at hm
               split at hm
               · exact hi b.g (by unfold gsOf;exact List.mem_map.2 ⟨b,List.mem_of_getElem? hb,rfl⟩) _ hm
               · simp at hm
                 rw [hm]
                 have:=sg_ok hi 0
                 unfold sg at this
                 rw [hb] at this
                 exact rw_n this
             · cases e
       · cases e
 rw [if_neg h17] at e
 by_cases h18 : s = [73,83,69,82,82,79,82]
 · rw [if_pos h18] at e
   cases e;exact rw_n (v:=.tf _) trivial
 rw [if_neg h18] at e
 by_cases h19 : s = [73,70,69,82,82,79,82]
 · rw [if_pos h19] at e
   unfold xIfErr at e
   split at e
   · cases e;exact rw_n (sg_ok hi 1)
   · cases e;exact rw_n (sg_ok hi 0)
 rw [if_neg h19] at e
 cases e
theorem fn_ok (s : List UInt8) {l : List Bg} (hi : AgI (gsOf l)) (h : (seen (gsOf l)).length ≤ 10000000000) : (fnV s l).ok:=by
 unfold fnV
 split
 · cases e : xCall s l with
   | error x=>exact mkErr_ok x
   | ok r=>exact nm_ok _ _ _ _ (xcall_n hi h e)
 · exact K79
theorem knB_20 (s : List UInt8) : knB s ≤ 20:=by
 have : ∀ p,kno s = some p → p.2 ≤ 20:=by
   intro p hk
   unfold kno at hk
   by_cases h1 : s ∈ kn1
   · rw [if_pos h1] at hk;cases hk;decide
   rw [if_neg h1] at hk
   by_cases h2 : s ∈ kn2
   · rw [if_pos h2] at hk;cases hk;decide
   rw [if_neg h2] at hk
   by_cases h3 : s ∈ kn3
   · rw [if_pos h3] at hk;cases hk;decide
   rw [if_neg h3] at hk
   by_cases h4 : s ∈ kn4
   · rw [if_pos h4] at hk;cases hk;decide
   rw [if_neg h4] at hk
   by_cases h5 : s ∈ kn5
   · rw [if_pos h5] at hk;cases hk;decide
   rw [if_neg h5] at hk
   cases hk
 unfold knB
 cases hk : kno s with
 | none=>decide
 | some p =>
   have:=this p hk
   show (p.2 : Int) ≤ 20
   omega
theorem rect_le {r q : Rf} (h : inB r.1 r.2.1 = true) (g : inB q.1 q.2.1 = true) :
   1 ≤ mnI r.1 q.1 ∧ mnI r.1 q.1 ≤ mxI r.1 q.1 ∧ mxI r.1 q.1 ≤ 1000 ∧ 1 ≤ mnI r.2.1 q.2.1 ∧ mnI r.2.1 q.2.1 ≤ mxI r.2.1 q.2.1 ∧ mxI r.2.1 q.2.1 ≤ 52:=by
 simp [inB] at h g
 unfold mnI mxI
 split <;> split <;> split <;> split <;> omega
theorem argA_len (M : Bov) (p q u v : Int) (h : p ≤ u ∧ q ≤ v) : ((argA M p q u v).g.l.length : Int) = (u - p + 1) * (v - q + 1):=by
 show ((areA M p q (v - q + 1).toNat (u - p + 1).toNat).length : Int) = _
 rw [areA_len,Int.natCast_mul,Int.toNat_of_nonneg J2,Int.toNat_of_nonneg J2]
theorem argR_len (M : Bov) {r q : Rf} (h : inB r.1 r.2.1 = true) (g : inB q.1 q.2.1 = true) : (argR M r q).g.l.length ≤ 52000:=by
 obtain ⟨h1,h2,h3,h4,h5,h6⟩:=rect_le h g
 have:=argA_len M (mnI r.1 q.1) (mnI r.2.1 q.2.1) (mxI r.1 q.1) (mxI r.2.1 q.2.1) ⟨h2,h5⟩
 have hm : (mxI r.1 q.1 - mnI r.1 q.1 + 1) * (mxI r.2.1 q.2.1 - mnI r.2.1 q.2.1 + 1) ≤ 1000 * 52:=Int.mul_le_mul J2 J2 J2 J2
 unfold argR
 omega
def argOk (n : Nat) (M : Bov) (x : T) : Prop:=AgI [(argX n M x).g] ∧ (argX n M x).g.l.length ≤ 52000 ∧ I64 (argX n M x).rows ∧ I64 (argX n M x).cols
theorem args_seen {l : List Bg} (h : ∀ b ∈ l,b.g.l.length ≤ 52000) (hl : l.length ≤ 20) : (seen (gsOf l)).length ≤ 10000000000:=by
 have : ∀ l : List Bg,(∀ b ∈ l,b.g.l.length ≤ 52000) → (seen (gsOf l)).length ≤ l.length * 52001:=by
   intro l
   induction l with
   | nil=>intro _;exact Nat.le_refl _
   | cons b l ih =>
     intro h
     have h1:=ih (fun x hx=>h x (by simp [hx]))
     have h2:=h b J60
     have e : seen (gsOf (b :: l)) = seen1 b.g ++ seen (gsOf l):=by simp [seen,gsOf]
     have h3 : (seen1 b.g).length ≤ 52000:=by unfold seen1;split <;> simp;omega
     rw [e,List.length_append,List.length_cons,Nat.succ_mul]
     omega
 have:=this l h
 have : l.length * 52001 ≤ 20 * 52001:=Nat.mul_le_mul hl nrf
 omega
theorem argX_ok {n : Nat} {M : Bov} (hM : BdOk M) {x : T} (hw : x.k = 5 → inB x.r.1 x.r.2.1 = true ∧ inB x.q.1 x.q.2.1 = true) (hv : x.k ≠ 5 → (evT n M x).ok) : argOk n M x:=by
 unfold argOk argX
 split
 · rename_i hk
   obtain ⟨h1,h2⟩:=hw hk
   obtain ⟨r1,r2,r3,r4,r5,r6⟩:=rect_le h1 h2
   refine ⟨fun g hg=>?_,argR_len M h1 h2,?_,?_⟩
   · simp at hg
     subst hg
     intro r hr
     obtain ⟨r',c',e⟩:=areA_mem _ _ _ _ _ _ hr
     rw [e]
     exact rw_n (hM.v _ _)
   · show I64 (mxI x.r.1 x.q.1 - mnI x.r.1 x.q.1 + 1);exact ⟨by omega,by omega⟩
   · show I64 (mxI x.r.2.1 x.q.2.1 - mnI x.r.2.1 x.q.2.1 + 1);exact ⟨by omega,by omega⟩
 · rename_i hk
   refine ⟨fun g hg=>?_,(by show 1 ≤ 52000;decide),I64.z,I64.z⟩
   simp at hg
   subst hg
   intro r hr
   simp [argV] at hr
   subst hr
   exact rw_n (hv hk)
theorem evT_ok {M : Bov} (hM : BdOk M) (n : Nat) : ∀ t,Wf t → wellT n t = true → (evT n M t).ok:=by
 induction n with
 | zero=>intro t _ h;cases h
 | succ n ih =>
   intro t hW hw
   have hx : ∀ x ∈ t.l,Wf x:=by cases hW;assumption
   have hn : I64 t.n:=by cases hW;assumption
   unfold wellT at hw
   unfold evT
   by_cases h0 : t.k = 0
   · rw [if_pos h0];exact mkNum_ok _ hn
   rw [if_neg h0] at hw ⊢
   by_cases h1 : t.k = 1
   · rw [if_pos h1];exact mkText_ok _
   rw [if_neg h1] at hw ⊢
   by_cases h2 : t.k = 2
   · rw [if_pos h2];trivial
   rw [if_neg h2] at hw ⊢
   by_cases h3 : t.k = 3
   · rw [if_pos h3];exact mkErr_ok _
   rw [if_neg h3] at hw ⊢
   by_cases h4 : t.k = 4
   · rw [if_pos h4];exact hM.v _ _
   rw [if_neg h4] at hw ⊢
   by_cases h6 : t.k = 6
   · rw [if_pos h6] at hw ⊢
     simp at hw
     split
     · rename_i x l e
       exact neg_ok (ih x (hx x J53) (hw.2 x J53))
     · trivial
   rw [if_neg h6] at hw ⊢
   by_cases h7 : t.k = 7
   · rw [if_pos h7] at hw ⊢
     simp at hw
     split
     · rename_i x y l e
       exact bin_ok _ (ih x (hx x J53) (hw.2 x J53)) (ih y (hx y J53) (hw.2 y J53))
     · trivial
   rw [if_neg h7] at hw ⊢
   by_cases h8 : t.k = 8
   · rw [if_pos h8] at hw
     simp at hw
     obtain ⟨⟨⟨_,_⟩,hB⟩,hall⟩:=hw
     have hB':=knB_20 t.s
     have hA : ∀ x ∈ t.l,argOk n M x:=fun x hm=>argX_ok hM
       (fun hk=>by have:=hall x hm;rw [if_pos hk] at this;simpa using this)
       (fun hk=>by have:=hall x hm;rw [if_neg hk] at this;exact ih x (hx x hm) this)
     refine fn_ok _ (fun g hg=>?_) (args_seen (fun b hb=>?_) J8)
     · unfold gsOf at hg
       simp at hg
       obtain ⟨x,hm,e⟩:=hg
       exact (hA x hm).1 g (by rw [← e];simp [argX])
     · simp at hb
       obtain ⟨x,hm,e⟩:=hb
       rw [← e]
       exact (hA x hm).2.1
   rw [if_neg h8] at hw
   cases hw
structure DBr (W : World) (d : Nat) (p : Option Addr) (c : Nat) (L : List Kn) : Prop where
 lt : d < W.heap.size
 cell : W.cell? ⟨d,0,none⟩ = some (.slice p L.length c)
 fz : W.frozen? ⟨d,0,none⟩ = false
 rd : RdKn W (.slice p L.length c) L
 far : ∀ a,p = some a → a.block < W.heap.size ∧ a.block ≠ d
theorem DBr.ext {W W' : World} {d c : Nat} {p : Option Addr} {L : List Kn} (h : DBr W d p c L) (e : Ext W W') : DBr W' d p c L :=
 ⟨llL h.lt e.size,(e.cell.1 d 0 h.lt).trans h.cell,(e.cell.2 d 0 h.lt).trans h.fz,h.rd.ext e,fun a ha=>⟨llL (h.far a ha).1 e.size,(h.far a ha).2⟩⟩
theorem DBr.keep {W W' : World} {d c : Nat} {p : Option Addr} {L : List Kn} (h : DBr W d p c L) {S : Nat → Prop} (e : ExtS S W W') (hd : ¬ S d) (hp : ∀ a,p = some a → L ≠ [] → ¬ S a.block) : DBr W' d p c L:=by
 have k:=cell_of_heap (e.block d h.lt hd) 0
 exact ⟨llL h.lt e.size,k.1.trans h.cell,k.2.trans h.fz,h.rd.keep e.size (fun a ha hL=>e.block _ (h.far a ha).1 (hp a ha hL)),fun a ha=>⟨llL (h.far a ha).1 e.size,(h.far a ha).2⟩⟩
theorem at_step {r c : Int} {x : Kn} {l : List Kn} (h1 : isAt x r c = false) (h2 : aft x r c = false) : atI r c (x :: l) = atI r c l + 1 ∧ atB r c (x :: l) = atB r c l:=by
 constructor
 · rw [atI,h1,h2];rfl
 · rw [atB,h1,h2];rfl
theorem at_here {r c : Int} {x : Kn} {l : List Kn} (h1 : isAt x r c = true) : atI r c (x :: l) = 0 ∧ atB r c (x :: l) = true:=by
 constructor
 · rw [atI,h1];rfl
 · rw [atB,h1];rfl
theorem at_past {r c : Int} {x : Kn} {l : List Kn} (h1 : isAt x r c = false) (h2 : aft x r c = true) : atI r c (x :: l) = 0 ∧ atB r c (x :: l) = false:=by
 constructor
 · rw [atI,h1,h2];rfl
 · rw [atB,h1,h2];rfl
theorem drop_at {L : List Kn} {i : Nat} {x : Kn} (h : L[i]? = some x) : L.drop i = x :: L.drop (i + 1):=by
 obtain ⟨hi,rfl⟩:=List.getElem?_eq_some_iff.1 h
 exact List.drop_eq_getElem_cons hi
theorem at_any (W : World) (d cp : Nat) (p : Option Addr) (L : List Kn) (h : DBr W d p cp L) (hl : L.length ≤ 100000) (r c : Int) :
   Calls Tryz.prog 32 #[.pointer (some ⟨d,0,none⟩),.int .i64 r,.int .i64 c] W fun e w'=>e = .returned (.tuple #[.int .i64 (atI r c L),.bool (atB r c L)]) ∧ Ext W w':=by
 obtain ⟨n,hn⟩ : ∃ n,L.length = n:=⟨_,rfl⟩
 have HD : Hid (DBr W d p cp L ∧ L.length = n):=⟨h,hn⟩
 have hn2 : n ≤ 100000:=J2
 have dc:=h.cell
 rw [hn] at dc
 clear h hl hn
 go_enter func32,ntmps32
 go_wp2_with fail
 go_loopw [8] (fun iv wr=>∃ i : Nat,iv = .int .i64 (i : Int) ∧ i ≤ n ∧ atI r c L = i + atI r c (L.drop i) ∧ atB r c L = atB r c (L.drop i) ∧ Ext W wr) (fun iv _=>n - (intOf iv).toNat)
 case atStart=>exact ⟨0,rfl,Nat.zero_le _,by simp,rfl,Ext.refl _⟩
 case round =>
   obtain ⟨i,rfl,hi,h1,h2,hE⟩:=hrel
   have HA : Hid (atI r c L = i + atI r c (L.drop i) ∧ atB r c L = atB r c (L.drop i) ∧ Ext W wr):=⟨h1,h2,hE⟩
   have dc:=(hE.cell.1 d 0 HD.out.1.lt).trans dc
   clear h1 h2 hE
   by_cases hlt : i < n
   · have hltI : (i : Int) < (n : Int):=J2
     obtain ⟨x,hx⟩ : ∃ x,L[i]? = some x:=⟨_,gEq (by rw [HD.out.2];exact hlt)⟩
     have hrd:=HD.out.1.rd.ext HA.out.2.2
     rw [HD.out.2] at hrd
     obtain ⟨gb,off,rfl,hgb,c0,c1,c2,c3,c4,c5⟩:=hrd.at hx
     have HX : Hid (L.drop i = x :: L.drop (i + 1)):=drop_at hx
     have HI : Hid (i < n):=hlt
     have WI : Hid (wrap64 ((i : Int) + 1) = ((i + 1 : Nat) : Int)):=by show _ = _;unfold wrap64;omega
     clear hrd hx hlt
     by_cases hr : x.r = r
     · have t1 : (x.r == r) = true:=by simpa using hr
       have g1 : decide (x.r > r) = false:=J8
       by_cases hc : x.c = c
       · have t2 : (x.c == c) = true:=J64
         have HL : Hid (isAt x r c = true):=(isAt_iff _ _ _).2 ⟨hr,hc⟩
         clear hr hc g1
         go_wp2_with fail
         go_ret2
         refine ⟨?_,HA.out.2.2.alloc _⟩
         rw [HA.out.1,HA.out.2.1,HX.out,(at_here HL.out).1,(at_here HL.out).2]
         rfl
       · have t2 : (x.c == c) = false:=J64
         have HL : Hid (isAt x r c = false):=(isAt_no _ _ _).2 (fun h=>hc h.2)
         by_cases hg : x.c > c
         · have g2 : decide (x.c > c) = true:=by simpa using hg
           have HM : Hid (aft x r c = true):=(aft_iff _ _ _).2 (.inr ⟨hr,hg⟩)
           have hg3 : x.c > c:=hg
           have hr3 : ¬ x.r > r:=J2
           clear hr hc hg
           exact K105
         · have g2 : decide (x.c > c) = false:=by simpa using hg
           have HM : Hid (aft x r c = false):=(aft_no _ _ _).2 J2
           have hr3 : ¬ x.r > r:=J2
           have hg3 : ¬ x.c > c:=hg
           clear hr hc hg
           exact K68
     · have t1 : (x.r == r) = false:=by simpa using hr
       have HL : Hid (isAt x r c = false):=(isAt_no _ _ _).2 (fun h=>hr h.1)
       by_cases hg : x.r > r
       · have g1 : decide (x.r > r) = true:=by simpa using hg
         have HM : Hid (aft x r c = true):=(aft_iff _ _ _).2 (.inl hg)
         clear hr
         exact K105
       · have g1 : decide (x.r > r) = false:=by simpa using hg
         have HM : Hid (aft x r c = false):=(aft_no _ _ _).2 J2
         clear hr
         exact K68
   · have hltI : ¬ (i : Int) < (n : Int):=J2
     have HJ : Hid (i = n):=by show _ = _;omega
     clear hlt
     go_wp2_with fail
     go_ret2
     refine ⟨?_,HA.out.2.2⟩
     have h0 : L.drop i = []:=List.drop_eq_nil_of_le (by rw [HD.out.2,HJ.out];exact Nat.le_refl _)
     rw [HA.out.1,HA.out.2.1,h0,HJ.out]
     rfl
theorem wpList_sl {P : Program} (w : World) {ops : Array Oper} {rest : List Oper} {o : Oper} {a : Act} {Q : Exit → Act → World → Prop} (hg : o.guard = none) (x : Operand) (t : TypeId) (lo hi : Option Operand) (hop : o.op = Op.slice t x lo hi none)
   (xv v : Value) (lv hv : Option Value) (hx : a.eval x = xv) (hl : lo.map a.eval = lv) (hh : hi.map a.eval = hv) (hrun : (Instr.sliceAt t xv lv hv none).run P w = .ok v w) (hK : wpList P ops Q rest (a.put o.dst v) w) : wpList P ops Q (o :: rest) a w:=by
 refine wpList_plain hg fun K' hK'=>?_
 unfold Oper.wp
 simp [execOp,hop,hx,hl,hh,hrun,Result.andThen]
 exact hK' _ _ hK
theorem elemK : Tryz.prog.elem 22 = 35:=J3
theorem sizeK (w : World) : (sizeOf 35).run Tryz.prog w = .ok 6 w:=J3
theorem RdKn.sub {W : World} {p : Option Addr} {n c : Nat} {l : List Kn} (h : RdKn W (.slice p n c) l) (i j : Nat) (hij : i ≤ j) (hj : j ≤ l.length) : RdKn W (.slice (if c = i then p else p.map (·.add (i * 6))) (j - i) (c - i)) ((l.take j).drop i):=by
 have hl : ((l.take j).drop i).length = j - i:=J8
 have hnc : n ≤ c:=by obtain ⟨p',c',h1,h2,_⟩:=h;cases h1;exact h2
 have hn:=h.len
 by_cases hc : c = i
 · have h0 : (l.take j).drop i = []:=List.eq_nil_of_length_eq_zero (by rw [hl];omega)
   rw [if_pos hc]
   exact ⟨p,c - i,by rw [hl],by rw [hl];omega,.inl h0⟩
 · rw [if_neg hc]
   cases p with
   | none =>
     obtain ⟨p',c',h1,h2,h3⟩:=h
     cases h1
     rcases h3 with h3 | ⟨b,off,h4,_⟩
     · exact ⟨none,c - i,by rw [hl];rfl,by rw [hl];omega,.inl (by rw [h3];simp)⟩
     · cases h4
   | some a =>
     obtain ⟨p',c',h1,h2,h3⟩:=h
     cases h1
     rcases h3 with h3 | ⟨b,off,h4,h5,h6⟩
     · exact ⟨_,c - i,by rw [hl],by rw [hl];omega,.inl (by rw [h3];simp)⟩
     · cases h4
       have:=RdKn.part (W:=W) (b:=b) (off:=off) (n:=l.length) (c:=c) (l:=l) ⟨_,c,rfl,h2,.inr ⟨b,off,rfl,h5,h6⟩⟩ i j hij hj
       simp only [Option.map_some,Addr.add_lit]
       exact this
theorem sl_lo (p : Option Addr) (n c i : Nat) (h : i ≤ n) : ∃ p',(∀ w,(Instr.sliceAt 22 (.slice p n c) (some (.int .i64 (i : Int))) none none).run Tryz.prog w = .ok (.slice p' (n - i) (c - i)) w) ∧ (∀ W l,RdKn W (.slice p n c) l → RdKn W (.slice p' (n - i) (c - i)) (l.drop i)):=by
 refine ⟨if c = i then p else p.map (·.add (i * 6)),fun w=>?_,fun W l hr=>?_⟩
 · have hu : Tryz.prog.underlying 22 = some (.slice (Tryz.prog.elem 22)):=by rw [elemK];exact Tryz.underlying22
   rw [run_sliceAt_slice _ _ _ _ _ _ hu,run_slice_l _ _ _ _ _ hu .i64 (i : Int) J2 J2,elemK,sizeK]
   simp [Result.andThen,sliced]
 · have hn:=hr.len
   have:=hr.sub i l.length J2 nrf
   rw [List.take_length,← hn] at this
   exact this
theorem sl_hi (p : Option Addr) (n c i : Nat) (h : i ≤ n) (hc : n ≤ c) : ∃ p',(∀ w,(Instr.sliceAt 22 (.slice p n c) none (some (.int .i64 (i : Int))) none).run Tryz.prog w = .ok (.slice p' i c) w) ∧ (∀ W l,RdKn W (.slice p n c) l → RdKn W (.slice p' i c) (l.take i)):=by
 refine ⟨if c = 0 then p else p.map (·.add (0 * 6)),fun w=>?_,fun W l hr=>?_⟩
 · have hu : Tryz.prog.underlying 22 = some (.slice (Tryz.prog.elem 22)):=by rw [elemK];exact Tryz.underlying22
   rw [run_sliceAt_slice _ _ _ _ _ _ hu,run_slice_h _ _ _ _ _ hu .i64 (i : Int) J2 J2,elemK,sizeK]
   simp [Result.andThen,sliced]
 · have hn:=hr.len
   have:=hr.sub 0 i J2 J2
   simpa using this
def DPut (W : World) (d : Nat) (L : List Kn) (e : Ending) (w' : World) : Prop :=
 e = .returned (.tuple #[]) ∧ ∃ p c,DBr w' d p c L ∧ (∀ a,p = some a → W.heap.size ≤ a.block) ∧ ExtB d W w'
theorem top6 {W : World} {x : Kn} {T : TypeId} : ∀ j u,(cK x)[j]? = some u → (W.alloc (.cells #[.int .i64 x.r,.int .i64 x.c,.int .i64 x.v.k,.int .i64 x.v.n,.string x.v.s,.int .i64 x.v.e] T)).cell? ⟨W.heap.size,j,none⟩ = some u:=by
 intro j u hu
 match j,hu with
 | 0,hu=>simp [cK] at hu;subst hu;simp [go_sem]
 | 1,hu=>simp [cK] at hu;subst hu;simp [go_sem]
 | 2,hu=>simp [cK] at hu;subst hu;simp [go_sem]
 | 3,hu=>simp [cK] at hu;subst hu;simp [go_sem]
 | 4,hu=>simp [cK] at hu;subst hu;simp [go_sem]
 | 5,hu=>simp [cK] at hu;subst hu;simp [go_sem]
 | j + 6,hu=>simp [cK] at hu
theorem Ext.Bd {d : Nat} {W w : World} (h : Ext W w) (u : Value) : ExtB d W (w.setCell ⟨d,0,none⟩ u):=by
 refine (h.toB d).trans ⟨rfl,rfl,rfl,by simp [World.setCell],fun k _ hk=>?_⟩
 exact Below.heap_setCell _ _ _ _ hk
theorem dput_end {W w : World} {d cp base n : Nat} {p : Option Addr} {L L' : List Kn} {v : Value} (hD : DBr W d p cp L) (e : Ext W w) (o : w.ownsRow base 35 6 v n (L'.flatMap cK)) (hn : n = L'.length) (hb : W.heap.size ≤ base) :
   DPut W d L' (.returned (.tuple #[])) (w.setCell ⟨d,0,none⟩ v):=by
 subst hn
 have hD':=hD.ext e
 obtain ⟨p',c',rfl,hc⟩:=own_form o
 have hfar : ∀ a,p' = some a → base ≤ a.block ∧ a.block < w.heap.size:=fun a ha=>by
   subst ha
   exact o.lt a.block rfl
 have hne : ∀ a,p' = some a → a.block ≠ d:=fun a ha h=>by have:=(hfar a ha).1;have:=hD.lt;omega
 refine ⟨rfl,p',c',⟨by simpa [World.setCell] using hD'.lt,wSa _ ⟨d,0,none⟩ _ (by rw [hD'.cell]),by rw [wFz];exact hD'.fz,?_,fun a ha=>⟨by simpa [World.setCell] using (hfar a ha).2,hne a ha⟩⟩,fun a ha=>Nat.le_trans hb (hfar a ha).1,e.Bd _⟩
 exact (own_rdK o rfl).keep (by simp [World.setCell]) (fun a ha _=>Below.heap_setCell _ _ _ _ (hne a ha))
theorem own_newK {T : TypeId} {k b : Nat} (w W : World) (hb : b = W.heap.size) (h : w.heap.size ≤ W.heap.size) : (W.alloc (.cells #[] T)).ownsRow w.heap.size T k (.slice (some ⟨b,0,none⟩) 0 0) 0 []:=by subst hb;exact own_new w W h
theorem kn_app {ops : Array Oper} {rest : List Oper} {o : Oper} {a : Act} {Q : Exit → Act → World → Prop} (W WA : World) (s x : Operand) (ov va : Value) (l m : List Kn) (N K base : Nat) (hgd : o.guard = none)
   (ho : o.op = .call { callee:=.builtin .append,args:=#[s,x],argTypes:=#[22,22] }) (hs : a.eval s = ov) (hx : a.eval x = va) (hN : l.length = N) (hK : m.length = K)
   (hB : WA.ownsRow base 35 6 ov N (l.flatMap cK)) (hR : RdKn WA va m) (e : Ext W WA) (hb : W.heap.size ≤ base) (hb2 : base ≤ WA.heap.size) (hl : N + K ≤ 10000)
   (h : ∀ pv c W',W'.ownsRow base 35 6 (.slice pv (N + K) c) (N + K) ((l ++ m).flatMap cK) → Ext W W' → WA.grownBy W' ov.ownBlock → wpList Tryz.prog ops Q rest (a.put o.dst (.slice pv (N + K) c)) W') :
   wpList Tryz.prog ops Q (o :: rest) a WA:=by
 subst hN hK
 refine own_app eltK WA W s x ov va l.length m.length (l.flatMap cK) (m.flatMap cK) base hgd ho hs hx hB hR.row (cK_one m) J30 J2 e hb hb2 ?_
 intro v' W' k1 k2 k3
 obtain ⟨pv,c,rfl,_⟩:=own_form k1
 refine h pv c W' ?_ k2 k3
 rw [List.flatMap_append]
 exact k1
theorem RdKn.one {W : World} {g : Nat} {x : Kn} (hg : g < W.heap.size) (h : ∀ j u,(cK x)[j]? = some u → W.cell? ⟨g,j,none⟩ = some u) : RdKn W (.slice (some ⟨g,0,none⟩) 1 1) [x]:=by
 refine ⟨_,1,rfl,Nat.le_refl _,.inr ⟨g,0,rfl,hg,fun i y j u hi hj=>?_⟩⟩
 cases i with
 | zero=>simp at hi;subst hi;simpa using h j u hj
 | succ i=>simp at hi
theorem dput_out (W : World) (d cp : Nat) (p : Option Addr) (L : List Kn) (h : DBr W d p cp L) (r c k nn : Int) (s : ByteArray) (e : Int) (hi : inB r c = false) :
   Calls Tryz.prog 27 #[.pointer (some ⟨d,0,none⟩),.int .i64 r,.int .i64 c,.agg #[.int .i64 k,.int .i64 nn,.string s,.int .i64 e]] W fun e w'=>e = .returned (.tuple #[]) ∧ DBr w' d p cp L ∧ Ext W w':=by
 have c1:=fun W=>rin_any r c W
 rw [hi] at c1
 have HD : Hid (DBr W d p cp L):=h
 clear h hi
 go_enter func27,ntmps27
 go_wp2_with fail
 refine (c1 _).mono ?_
 rintro e w1 ⟨rfl,rfl⟩
 go_wp2_with fail
 refine bodyPost_ret (v:=.tuple #[]) J41 rfl ?_
 exact ⟨rfl,HD.out.ext (xr.alloc _),xr.alloc _⟩
theorem dput_sb (W : World) (d cp : Nat) (p : Option Addr) (L : List Kn) (h : DBr W d p cp L) (hl : L.length ≤ 1000) (r c k nn : Int) (s : ByteArray) (e : Int) (hi : inB r c = true) (v : V) (hv : nm k nn s e = v) (hs : atB r c L = true) (hk : v.k = 0) :
   Calls Tryz.prog 27 #[.pointer (some ⟨d,0,none⟩),.int .i64 r,.int .i64 c,.agg #[.int .i64 k,.int .i64 nn,.string s,.int .i64 e]] W (DPut W d (putL L r c v)):=by
 have c1:=fun W=>rin_any r c W
 have hput : putL L r c v = L.take (atI r c L) ++ [] ++ (L.drop (atI r c L)).drop 1:=by
   unfold putL newL
   rw [if_pos hi,hs,if_pos hk]
   simp
 rw [hi] at c1
 have c2:=fun W'=>rnormal_any k nn s e W'
 rw [hv,dat_eq] at c2
 have c3:=fun W' (e : Ext W W')=>at_any W' d cp p L (h.ext e) J2 r c
 obtain ⟨n,hn⟩ : ∃ n,L.length = n:=⟨_,rfl⟩
 have hin : atI r c L ≤ n:=J104
 have hlt : atI r c L < n:=by rw [← hn];exact atB_lt hs
 rw [hput]
 generalize atI r c L = i at *
 rw [hs] at c3
 have hD:=h
 have hcp : n ≤ cp:=by obtain ⟨_,_,h1,h2,_⟩:=h.rd;cases h1;omega
 obtain ⟨p1,hr1,hp1⟩:=sl_lo p n cp i hin
 obtain ⟨p3,hr3,hp3⟩:=sl_hi p n cp i hin hcp
 obtain ⟨p2,hr2,hp2⟩:=sl_lo p1 (n - i) (cp - i) 1 J2
 have HD : Hid (DBr W d p cp L ∧ L.length = n):=⟨h,hn⟩
 have HP : Hid ((∀ W l,RdKn W (.slice p n cp) l → RdKn W (.slice p2 (n - i - 1) (cp - i - 1)) ((l.drop i).drop 1)) ∧ (∀ W l,RdKn W (.slice p n cp) l → RdKn W (.slice p3 i cp) (l.take i))):=⟨(fun W l h=>hp2 W _ (hp1 W l h)),hp3⟩
 have HR1 : Hid _:=hr1
 have HR3 : Hid _:=hr3
 have HR2 : Hid _:=hr2
 have HN : Hid (i ≤ n ∧ n ≤ 1000 ∧ n ≤ cp ∧ i < n):=⟨hin,by omega,hcp,hlt⟩
 obtain ⟨vk,vn,vs,ve,q1,q2,q3,q4⟩ : ∃ vk vn vs ve,v.k = vk ∧ v.n = vn ∧ v.s = vs ∧ v.e = ve:=⟨_,_,_,_,rfl,rfl,rfl,rfl⟩
 have HVV : Hid (v.k = vk ∧ v.n = vn ∧ v.s = vs ∧ v.e = ve):=⟨q1,q2,q3,q4⟩
 rw [q1,q2,q3,q4] at c2
 rw [q1] at hk
 have k0 : (vk != 0) = false:=J105
 clear h hi hv hk hs hD hp1 hp3 hr1 hr3 hin hcp hn hl hput q1 q2 q3 q4 hp2 hr2 hlt
 go_enter func27,ntmps27
 go_wp2_with fail
 refine (c1 _).mono ?_
 rintro e w1 ⟨rfl,rfl⟩
 go_wp2_with fail
 refine (c2 _).mono ?_
 rintro e w1 ⟨rfl,E1⟩
 have B1:=blk_top (b:=W.heap.size) J60 E1
 have X1 : Hid (Ext W w1):=(xr.alloc _).trans E1
 have D0:=B1
 obtain ⟨b0z,⟨b0_0,b0_1,b0_2,b0_3⟩,b0f0,b0f1,b0f2,b0f3⟩:=D0
 clear c1 c2 E1
 go_wp2_with fail
 refine (c3 _ (by exact (((X1.out.setCell J60 _).setCell J60 _).setCell J60 _).setCell J60 _)).mono ?_
 rintro e w2 ⟨rfl,E2⟩
 have X2 : Hid (Ext W w2):=((((X1.out.setCell J60 _).setCell J60 _).setCell J60 _).setCell J60 _).trans E2
 have B2:=(B1.set _ _ _ _).ext E2
 have dc:=(HD.out.1.ext X2.out).cell
 rw [HD.out.2] at dc
 have df:=(HD.out.1.ext X2.out).fz
 have dl:=(HD.out.1.ext X2.out).lt
 have D2:=B2
 obtain ⟨zV,⟨v0,v1,v2,v3⟩,g0,g1,g2,g3⟩:=D2
 clear E2 b0z b0_0 b0_1 b0_2 b0_3 b0f0 b0f1 b0f2 b0f3 B1 X1 c3
 have HX3 : Hid (Ext W (w2.alloc (.cells #[] 35))):=X2.out.alloc _
 have HO3 : Hid ((w2.alloc (.cells #[] 35)).ownsRow w2.heap.size 35 6 (.slice (some ⟨w2.heap.size,0,none⟩) 0 0) 0 (([] : List Kn).flatMap cK)):=own_newK w2 w2 rfl nrf
 have HRD : Hid (∀ W',Ext W W' → RdKn W' (.slice p n cp) L):=fun W' e=>by
   exact K104
 have HK3 : Hid (RdKn (w2.alloc (.cells #[] 35)) (.slice p3 i cp) (L.take i)):=HP.out.2 _ L (HRD.out _ HX3.out)
 have HL3 : Hid ((L.take i).length = i):=by
   exact K97
 have HS3 : Hid (w2.heap.size ≤ (w2.alloc (.cells #[] 35)).heap.size ∧ W.heap.size ≤ w2.heap.size):=⟨by simp,X2.out.size⟩
 go_upto_region 8 with (first
   | (refine wpList_sl _ rfl _ _ _ _ rfl (.slice p n cp) _ (some (.int .i64 (i : Int))) none J26 J26 J26 (HR1.out _) ?_)
   | (refine wpList_sl _ rfl _ _ _ _ rfl (.slice p n cp) _ none (some (.int .i64 (i : Int))) J26 J26 J26 (HR3.out _) ?_)
   | (refine wpList_sl _ rfl _ _ _ _ rfl (.slice p1 (n - i) (cp - i)) _ (some (.int .i64 ((1 : Nat) : Int))) none J26 J26 J26 (HR2.out _) ?_)
   | (at_builtin;refine kn_app W _ _ _ _ _ [] (L.take i) 0 i w2.heap.size rfl rfl J26 J26 rfl HL3.out HO3.out HK3.out HX3.out HS3.out.2 HS3.out.1 (by have:=HN.out;omega) ?_;intro pv4 c4 w4 o4 e4 g4;have H4 : Hid (w4.ownsRow w2.heap.size 35 6 (.slice pv4 i c4) i ((L.take i).flatMap cK) ∧ Ext W w4 ∧ w2.heap.size ≤ w4.heap.size):=⟨(by simpa using o4),e4,Nat.le_trans J60 g4.size⟩;have B4:=(B2.al (.cells #[] 35)).grown g4 (by intro q;simp [Value.ownBlock] at q;omega);have dc4:=(HD.out.1.ext e4).cell;rw [HD.out.2] at dc4;have df4:=(HD.out.1.ext e4).fz;clear o4 e4 g4))
 clear dc df dl zV v0 v1 v2 v3 g0 g1 g2 g3 B2 HO3 HK3 HX3 HR1 HR3 HR2
 obtain ⟨zV,⟨v0,v1,v2,v3⟩,g0,g1,g2,g3⟩:=B4
 have HLB : Hid (((L.drop i).drop 1).length = (n - i - 1)):=by
   exact K129
 go_wp2_with (at_builtin;refine kn_app W _ _ _ _ _ (L.take i) ((L.drop i).drop 1) i (n - i - 1) w2.heap.size rfl rfl J26 J26 HL3.out HLB.out H4.out.1 (HP.out.1 _ L (HRD.out _ H4.out.2.1)) H4.out.2.1 HS3.out.2 H4.out.2.2 (by have:=HN.out;omega) ?_;intro pv6 c6 w6 o6 e6 g6;have H6 : Hid (w6.ownsRow w2.heap.size 35 6 (.slice pv6 (i + (n - i - 1)) c6) (i + (n - i - 1)) ((L.take i ++ ((L.drop i).drop 1)).flatMap cK) ∧ Ext W w6):=⟨o6,e6⟩;have dc6:=(HD.out.1.ext e6).cell;rw [HD.out.2] at dc6;have df6:=(HD.out.1.ext e6).fz;clear o6 e6 g6)
 exact K101
theorem dput_sv (W : World) (d cp : Nat) (p : Option Addr) (L : List Kn) (h : DBr W d p cp L) (hl : L.length ≤ 1000) (r c k nn : Int) (s : ByteArray) (e : Int) (hi : inB r c = true) (v : V) (hv : nm k nn s e = v) (hs : atB r c L = true) (hk : v.k ≠ 0) :
   Calls Tryz.prog 27 #[.pointer (some ⟨d,0,none⟩),.int .i64 r,.int .i64 c,.agg #[.int .i64 k,.int .i64 nn,.string s,.int .i64 e]] W (DPut W d (putL L r c v)):=by
 have c1:=fun W=>rin_any r c W
 have hput : putL L r c v = L.take (atI r c L) ++ [⟨r,c,v.rw⟩] ++ (L.drop (atI r c L)).drop 1:=by
   unfold putL newL
   rw [if_pos hi,hs,if_neg hk]
   simp
 rw [hi] at c1
 have c2:=fun W'=>rnormal_any k nn s e W'
 rw [hv,dat_eq] at c2
 have c3:=fun W' (e : Ext W W')=>at_any W' d cp p L (h.ext e) J2 r c
 obtain ⟨n,hn⟩ : ∃ n,L.length = n:=⟨_,rfl⟩
 have hin : atI r c L ≤ n:=J104
 have hlt : atI r c L < n:=by rw [← hn];exact atB_lt hs
 rw [hput]
 generalize atI r c L = i at *
 rw [hs] at c3
 have hD:=h
 have hcp : n ≤ cp:=by obtain ⟨_,_,h1,h2,_⟩:=h.rd;cases h1;omega
 obtain ⟨p1,hr1,hp1⟩:=sl_lo p n cp i hin
 obtain ⟨p3,hr3,hp3⟩:=sl_hi p n cp i hin hcp
 obtain ⟨p2,hr2,hp2⟩:=sl_lo p1 (n - i) (cp - i) 1 J2
 have HD : Hid (DBr W d p cp L ∧ L.length = n):=⟨h,hn⟩
 have HP : Hid ((∀ W l,RdKn W (.slice p n cp) l → RdKn W (.slice p2 (n - i - 1) (cp - i - 1)) ((l.drop i).drop 1)) ∧ (∀ W l,RdKn W (.slice p n cp) l → RdKn W (.slice p3 i cp) (l.take i))):=⟨(fun W l h=>hp2 W _ (hp1 W l h)),hp3⟩
 have HR1 : Hid _:=hr1
 have HR3 : Hid _:=hr3
 have HR2 : Hid _:=hr2
 have HN : Hid (i ≤ n ∧ n ≤ 1000 ∧ n ≤ cp ∧ i < n):=⟨hin,by omega,hcp,hlt⟩
 obtain ⟨vk,vn,vs,ve,q1,q2,q3,q4⟩ : ∃ vk vn vs ve,v.k = vk ∧ v.n = vn ∧ v.s = vs ∧ v.e = ve:=⟨_,_,_,_,rfl,rfl,rfl,rfl⟩
 have HVV : Hid (v.k = vk ∧ v.n = vn ∧ v.s = vs ∧ v.e = ve):=⟨q1,q2,q3,q4⟩
 rw [q1,q2,q3,q4] at c2
 rw [q1] at hk
 have k0 : (vk != 0) = true:=J105
 clear h hi hv hk hs hD hp1 hp3 hr1 hr3 hin hcp hn hl hput q1 q2 q3 q4 hp2 hr2 hlt
 go_enter func27,ntmps27
 go_wp2_with fail
 refine (c1 _).mono ?_
 rintro e w1 ⟨rfl,rfl⟩
 go_wp2_with fail
 refine (c2 _).mono ?_
 rintro e w1 ⟨rfl,E1⟩
 have B1:=blk_top (b:=W.heap.size) J60 E1
 have X1 : Hid (Ext W w1):=(xr.alloc _).trans E1
 have D0:=B1
 obtain ⟨b0z,⟨b0_0,b0_1,b0_2,b0_3⟩,b0f0,b0f1,b0f2,b0f3⟩:=D0
 clear c1 c2 E1
 go_wp2_with fail
 refine (c3 _ (by exact (((X1.out.setCell J60 _).setCell J60 _).setCell J60 _).setCell J60 _)).mono ?_
 rintro e w2 ⟨rfl,E2⟩
 have X2 : Hid (Ext W w2):=((((X1.out.setCell J60 _).setCell J60 _).setCell J60 _).setCell J60 _).trans E2
 have B2:=(B1.set _ _ _ _).ext E2
 have dc:=(HD.out.1.ext X2.out).cell
 rw [HD.out.2] at dc
 have df:=(HD.out.1.ext X2.out).fz
 have dl:=(HD.out.1.ext X2.out).lt
 have D2:=B2
 obtain ⟨zV,⟨v0,v1,v2,v3⟩,g0,g1,g2,g3⟩:=D2
 clear E2 b0z b0_0 b0_1 b0_2 b0_3 b0f0 b0f1 b0f2 b0f3 B1 X1 c3
 have HX3 : Hid (Ext W (w2.alloc (.cells #[] 35))):=X2.out.alloc _
 have HO3 : Hid ((w2.alloc (.cells #[] 35)).ownsRow w2.heap.size 35 6 (.slice (some ⟨w2.heap.size,0,none⟩) 0 0) 0 (([] : List Kn).flatMap cK)):=own_newK w2 w2 rfl nrf
 have HRD : Hid (∀ W',Ext W W' → RdKn W' (.slice p n cp) L):=fun W' e=>by
   exact K104
 have HK3 : Hid (RdKn (w2.alloc (.cells #[] 35)) (.slice p3 i cp) (L.take i)):=HP.out.2 _ L (HRD.out _ HX3.out)
 have HL3 : Hid ((L.take i).length = i):=by
   exact K97
 have HS3 : Hid (w2.heap.size ≤ (w2.alloc (.cells #[] 35)).heap.size ∧ W.heap.size ≤ w2.heap.size):=⟨by simp,X2.out.size⟩
 go_upto_region 8 with (first
   | (refine wpList_sl _ rfl _ _ _ _ rfl (.slice p n cp) _ (some (.int .i64 (i : Int))) none J26 J26 J26 (HR1.out _) ?_)
   | (refine wpList_sl _ rfl _ _ _ _ rfl (.slice p n cp) _ none (some (.int .i64 (i : Int))) J26 J26 J26 (HR3.out _) ?_)
   | (refine wpList_sl _ rfl _ _ _ _ rfl (.slice p1 (n - i) (cp - i)) _ (some (.int .i64 ((1 : Nat) : Int))) none J26 J26 J26 (HR2.out _) ?_)
   | (at_builtin;refine kn_app W _ _ _ _ _ [] (L.take i) 0 i w2.heap.size rfl rfl J26 J26 rfl HL3.out HO3.out HK3.out HX3.out HS3.out.2 HS3.out.1 (by have:=HN.out;omega) ?_;intro pv4 c4 w4 o4 e4 g4;have H4 : Hid (w4.ownsRow w2.heap.size 35 6 (.slice pv4 i c4) i ((L.take i).flatMap cK) ∧ Ext W w4 ∧ w2.heap.size ≤ w4.heap.size):=⟨(by simpa using o4),e4,Nat.le_trans J60 g4.size⟩;have B4:=(B2.al (.cells #[] 35)).grown g4 (by intro q;simp [Value.ownBlock] at q;omega);have dc4:=(HD.out.1.ext e4).cell;rw [HD.out.2] at dc4;have df4:=(HD.out.1.ext e4).fz;clear o4 e4 g4))
 clear dc df dl zV v0 v1 v2 v3 g0 g1 g2 g3 B2 HO3 HK3 HX3 HR1 HR3 HR2
 obtain ⟨zV,⟨v0,v1,v2,v3⟩,g0,g1,g2,g3⟩:=B4
 have HLB : Hid (((L.drop i).drop 1).length = (n - i - 1)):=by
   exact K129
 have HO4 : Hid ((w4.alloc (.cells #[.int .i64 r,.int .i64 c,.int .i64 vk,.int .i64 vn,.string vs,.int .i64 ve] 35)).ownsRow w2.heap.size 35 6 (.slice pv4 i c4) i ((L.take i).flatMap cK)):=ownsRow_ext H4.out.1 (xr.alloc _)
 have HK4 : Hid (RdKn (w4.alloc (.cells #[.int .i64 r,.int .i64 c,.int .i64 vk,.int .i64 vn,.string vs,.int .i64 ve] 35)) (.slice (some ⟨w4.heap.size,0,none⟩) 1 1) [⟨r,c,⟨vk,vn,vs,ve⟩⟩]):=RdKn.one (x:=⟨r,c,⟨vk,vn,vs,ve⟩⟩) J60 (top6 (x:=⟨r,c,⟨vk,vn,vs,ve⟩⟩))
 have HX4 : Hid (Ext W (w4.alloc (.cells #[.int .i64 r,.int .i64 c,.int .i64 vk,.int .i64 vn,.string vs,.int .i64 ve] 35)) ∧ w2.heap.size ≤ (w4.alloc (.cells #[.int .i64 r,.int .i64 c,.int .i64 vk,.int .i64 vn,.string vs,.int .i64 ve] 35)).heap.size):=⟨H4.out.2.1.alloc _,Nat.le_trans H4.out.2.2 J60⟩
 go_wp2_with (first | (at_builtin;refine kn_app W _ _ _ (.slice pv4 i c4) (.slice (some ⟨w4.heap.size,0,none⟩) 1 1) (L.take i) [⟨r,c,⟨vk,vn,vs,ve⟩⟩] i 1 w2.heap.size rfl rfl J26 J26 HL3.out rfl HO4.out HK4.out HX4.out.1 HS3.out.2 HX4.out.2 (by have:=HN.out;omega) ?_;intro pv5 c5 w5 o5 e5 g5;have H5 : Hid (w5.ownsRow w2.heap.size 35 6 (.slice pv5 (i + 1) c5) (i + 1) ((L.take i ++ ([⟨r,c,⟨vk,vn,vs,ve⟩⟩] : List Kn)).flatMap cK) ∧ Ext W w5 ∧ w2.heap.size ≤ w5.heap.size):=⟨o5,e5,Nat.le_trans HX4.out.2 g5.size⟩;have dc5:=(HD.out.1.ext e5).cell;rw [HD.out.2] at dc5;have df5:=(HD.out.1.ext e5).fz;clear o5 e5 g5 zV v0 v1 v2 v3 g0 g1 g2 g3 dc4 df4) | (at_builtin;refine kn_app W _ _ _ (.slice pv5 (i + 1) c5) _ (L.take i ++ ([⟨r,c,⟨vk,vn,vs,ve⟩⟩] : List Kn)) ((L.drop i).drop 1) (i + 1) (n - i - 1) w2.heap.size rfl rfl J26 J26 (by rw [List.length_append,HL3.out];rfl) HLB.out H5.out.1 (HP.out.1 _ L (HRD.out _ H5.out.2.1)) H5.out.2.1 HS3.out.2 H5.out.2.2 (by have:=HN.out;omega) ?_;intro pv6 c6 w6 o6 e6 g6;have H6 : Hid (w6.ownsRow w2.heap.size 35 6 (.slice pv6 (i + 1 + (n - i - 1)) c6) (i + 1 + (n - i - 1)) ((L.take i ++ ([⟨r,c,⟨vk,vn,vs,ve⟩⟩] : List Kn) ++ ((L.drop i).drop 1)).flatMap cK) ∧ Ext W w6):=⟨o6,e6⟩;have dc6:=(HD.out.1.ext e6).cell;rw [HD.out.2] at dc6;have df6:=(HD.out.1.ext e6).fz;clear o6 e6 g6))
 exact K69
theorem dput_nb (W : World) (d cp : Nat) (p : Option Addr) (L : List Kn) (h : DBr W d p cp L) (hl : L.length ≤ 1000) (r c k nn : Int) (s : ByteArray) (e : Int) (hi : inB r c = true) (v : V) (hv : nm k nn s e = v) (hs : atB r c L = false) (hk : v.k = 0) :
   Calls Tryz.prog 27 #[.pointer (some ⟨d,0,none⟩),.int .i64 r,.int .i64 c,.agg #[.int .i64 k,.int .i64 nn,.string s,.int .i64 e]] W (DPut W d (putL L r c v)):=by
 have c1:=fun W=>rin_any r c W
 have hput : putL L r c v = L.take (atI r c L) ++ [] ++ L.drop (atI r c L):=by
   unfold putL newL
   rw [if_pos hi,hs,if_pos hk]
   simp
 rw [hi] at c1
 have c2:=fun W'=>rnormal_any k nn s e W'
 rw [hv,dat_eq] at c2
 have c3:=fun W' (e : Ext W W')=>at_any W' d cp p L (h.ext e) J2 r c
 obtain ⟨n,hn⟩ : ∃ n,L.length = n:=⟨_,rfl⟩
 have hin : atI r c L ≤ n:=J104
 rw [hput]
 generalize atI r c L = i at *
 rw [hs] at c3
 have hD:=h
 have hcp : n ≤ cp:=by obtain ⟨_,_,h1,h2,_⟩:=h.rd;cases h1;omega
 obtain ⟨p1,hr1,hp1⟩:=sl_lo p n cp i hin
 obtain ⟨p3,hr3,hp3⟩:=sl_hi p n cp i hin hcp
 have HD : Hid (DBr W d p cp L ∧ L.length = n):=⟨h,hn⟩
 have HP : Hid ((∀ W l,RdKn W (.slice p n cp) l → RdKn W (.slice p1 (n - i) (cp - i)) (l.drop i)) ∧ (∀ W l,RdKn W (.slice p n cp) l → RdKn W (.slice p3 i cp) (l.take i))):=⟨hp1,hp3⟩
 have HR1 : Hid _:=hr1
 have HR3 : Hid _:=hr3
 have HN : Hid (i ≤ n ∧ n ≤ 1000 ∧ n ≤ cp):=⟨hin,by omega,hcp⟩
 obtain ⟨vk,vn,vs,ve,q1,q2,q3,q4⟩ : ∃ vk vn vs ve,v.k = vk ∧ v.n = vn ∧ v.s = vs ∧ v.e = ve:=⟨_,_,_,_,rfl,rfl,rfl,rfl⟩
 have HVV : Hid (v.k = vk ∧ v.n = vn ∧ v.s = vs ∧ v.e = ve):=⟨q1,q2,q3,q4⟩
 rw [q1,q2,q3,q4] at c2
 rw [q1] at hk
 have k0 : (vk != 0) = false:=J105
 clear h hi hv hk hs hD hp1 hp3 hr1 hr3 hin hcp hn hl hput q1 q2 q3 q4
 go_enter func27,ntmps27
 go_wp2_with fail
 refine (c1 _).mono ?_
 rintro e w1 ⟨rfl,rfl⟩
 go_wp2_with fail
 refine (c2 _).mono ?_
 rintro e w1 ⟨rfl,E1⟩
 have B1:=blk_top (b:=W.heap.size) J60 E1
 have X1 : Hid (Ext W w1):=(xr.alloc _).trans E1
 have D0:=B1
 obtain ⟨b0z,⟨b0_0,b0_1,b0_2,b0_3⟩,b0f0,b0f1,b0f2,b0f3⟩:=D0
 clear c1 c2 E1
 go_wp2_with fail
 refine (c3 _ (by exact (((X1.out.setCell J60 _).setCell J60 _).setCell J60 _).setCell J60 _)).mono ?_
 rintro e w2 ⟨rfl,E2⟩
 have X2 : Hid (Ext W w2):=((((X1.out.setCell J60 _).setCell J60 _).setCell J60 _).setCell J60 _).trans E2
 have B2:=(B1.set _ _ _ _).ext E2
 have dc:=(HD.out.1.ext X2.out).cell
 rw [HD.out.2] at dc
 have df:=(HD.out.1.ext X2.out).fz
 have dl:=(HD.out.1.ext X2.out).lt
 have D2:=B2
 obtain ⟨zV,⟨v0,v1,v2,v3⟩,g0,g1,g2,g3⟩:=D2
 clear E2 b0z b0_0 b0_1 b0_2 b0_3 b0f0 b0f1 b0f2 b0f3 B1 X1 c3
 have HX3 : Hid (Ext W (w2.alloc (.cells #[] 35))):=X2.out.alloc _
 have HO3 : Hid ((w2.alloc (.cells #[] 35)).ownsRow w2.heap.size 35 6 (.slice (some ⟨w2.heap.size,0,none⟩) 0 0) 0 (([] : List Kn).flatMap cK)):=own_newK w2 w2 rfl nrf
 have HRD : Hid (∀ W',Ext W W' → RdKn W' (.slice p n cp) L):=fun W' e=>by
   exact K104
 have HK3 : Hid (RdKn (w2.alloc (.cells #[] 35)) (.slice p3 i cp) (L.take i)):=HP.out.2 _ L (HRD.out _ HX3.out)
 have HL3 : Hid ((L.take i).length = i):=by
   exact K97
 have HS3 : Hid (w2.heap.size ≤ (w2.alloc (.cells #[] 35)).heap.size ∧ W.heap.size ≤ w2.heap.size):=⟨by simp,X2.out.size⟩
 go_upto_region 8 with (first
   | (refine wpList_sl _ rfl _ _ _ _ rfl (.slice p n cp) _ (some (.int .i64 (i : Int))) none J26 J26 J26 (HR1.out _) ?_)
   | (refine wpList_sl _ rfl _ _ _ _ rfl (.slice p n cp) _ none (some (.int .i64 (i : Int))) J26 J26 J26 (HR3.out _) ?_)
   | (at_builtin;refine kn_app W _ _ _ _ _ [] (L.take i) 0 i w2.heap.size rfl rfl J26 J26 rfl HL3.out HO3.out HK3.out HX3.out HS3.out.2 HS3.out.1 (by have:=HN.out;omega) ?_;intro pv4 c4 w4 o4 e4 g4;have H4 : Hid (w4.ownsRow w2.heap.size 35 6 (.slice pv4 i c4) i ((L.take i).flatMap cK) ∧ Ext W w4 ∧ w2.heap.size ≤ w4.heap.size):=⟨(by simpa using o4),e4,Nat.le_trans J60 g4.size⟩;have B4:=(B2.al (.cells #[] 35)).grown g4 (by intro q;simp [Value.ownBlock] at q;omega);have dc4:=(HD.out.1.ext e4).cell;rw [HD.out.2] at dc4;have df4:=(HD.out.1.ext e4).fz;clear o4 e4 g4))
 clear dc df dl zV v0 v1 v2 v3 g0 g1 g2 g3 B2 HO3 HK3 HX3 HR1 HR3
 obtain ⟨zV,⟨v0,v1,v2,v3⟩,g0,g1,g2,g3⟩:=B4
 have HLB : Hid ((L.drop i).length = (n - i)):=by
   exact K129
 go_wp2_with (at_builtin;refine kn_app W _ _ _ _ _ (L.take i) (L.drop i) i (n - i) w2.heap.size rfl rfl J26 J26 HL3.out HLB.out H4.out.1 (HP.out.1 _ L (HRD.out _ H4.out.2.1)) H4.out.2.1 HS3.out.2 H4.out.2.2 (by have:=HN.out;omega) ?_;intro pv6 c6 w6 o6 e6 g6;have H6 : Hid (w6.ownsRow w2.heap.size 35 6 (.slice pv6 (i + (n - i)) c6) (i + (n - i)) ((L.take i ++ (L.drop i)).flatMap cK) ∧ Ext W w6):=⟨o6,e6⟩;have dc6:=(HD.out.1.ext e6).cell;rw [HD.out.2] at dc6;have df6:=(HD.out.1.ext e6).fz;clear o6 e6 g6)
 exact K101
theorem dput_nv (W : World) (d cp : Nat) (p : Option Addr) (L : List Kn) (h : DBr W d p cp L) (hl : L.length ≤ 1000) (r c k nn : Int) (s : ByteArray) (e : Int) (hi : inB r c = true) (v : V) (hv : nm k nn s e = v) (hs : atB r c L = false) (hk : v.k ≠ 0) :
   Calls Tryz.prog 27 #[.pointer (some ⟨d,0,none⟩),.int .i64 r,.int .i64 c,.agg #[.int .i64 k,.int .i64 nn,.string s,.int .i64 e]] W (DPut W d (putL L r c v)):=by
 have c1:=fun W=>rin_any r c W
 have hput : putL L r c v = L.take (atI r c L) ++ [⟨r,c,v.rw⟩] ++ L.drop (atI r c L):=by
   unfold putL newL
   rw [if_pos hi,hs,if_neg hk]
   simp
 rw [hi] at c1
 have c2:=fun W'=>rnormal_any k nn s e W'
 rw [hv,dat_eq] at c2
 have c3:=fun W' (e : Ext W W')=>at_any W' d cp p L (h.ext e) J2 r c
 obtain ⟨n,hn⟩ : ∃ n,L.length = n:=⟨_,rfl⟩
 have hin : atI r c L ≤ n:=J104
 rw [hput]
 generalize atI r c L = i at *
 rw [hs] at c3
 have hD:=h
 have hcp : n ≤ cp:=by obtain ⟨_,_,h1,h2,_⟩:=h.rd;cases h1;omega
 obtain ⟨p1,hr1,hp1⟩:=sl_lo p n cp i hin
 obtain ⟨p3,hr3,hp3⟩:=sl_hi p n cp i hin hcp
 have HD : Hid (DBr W d p cp L ∧ L.length = n):=⟨h,hn⟩
 have HP : Hid ((∀ W l,RdKn W (.slice p n cp) l → RdKn W (.slice p1 (n - i) (cp - i)) (l.drop i)) ∧ (∀ W l,RdKn W (.slice p n cp) l → RdKn W (.slice p3 i cp) (l.take i))):=⟨hp1,hp3⟩
 have HR1 : Hid _:=hr1
 have HR3 : Hid _:=hr3
 have HN : Hid (i ≤ n ∧ n ≤ 1000 ∧ n ≤ cp):=⟨hin,by omega,hcp⟩
 obtain ⟨vk,vn,vs,ve,q1,q2,q3,q4⟩ : ∃ vk vn vs ve,v.k = vk ∧ v.n = vn ∧ v.s = vs ∧ v.e = ve:=⟨_,_,_,_,rfl,rfl,rfl,rfl⟩
 have HVV : Hid (v.k = vk ∧ v.n = vn ∧ v.s = vs ∧ v.e = ve):=⟨q1,q2,q3,q4⟩
 rw [q1,q2,q3,q4] at c2
 rw [q1] at hk
 have k0 : (vk != 0) = true:=J105
 clear h hi hv hk hs hD hp1 hp3 hr1 hr3 hin hcp hn hl hput q1 q2 q3 q4
 go_enter func27,ntmps27
 go_wp2_with fail
 refine (c1 _).mono ?_
 rintro e w1 ⟨rfl,rfl⟩
 go_wp2_with fail
 refine (c2 _).mono ?_
 rintro e w1 ⟨rfl,E1⟩
 have B1:=blk_top (b:=W.heap.size) J60 E1
 have X1 : Hid (Ext W w1):=(xr.alloc _).trans E1
 have D0:=B1
 obtain ⟨b0z,⟨b0_0,b0_1,b0_2,b0_3⟩,b0f0,b0f1,b0f2,b0f3⟩:=D0
 clear c1 c2 E1
 go_wp2_with fail
 refine (c3 _ (by exact (((X1.out.setCell J60 _).setCell J60 _).setCell J60 _).setCell J60 _)).mono ?_
 rintro e w2 ⟨rfl,E2⟩
 have X2 : Hid (Ext W w2):=((((X1.out.setCell J60 _).setCell J60 _).setCell J60 _).setCell J60 _).trans E2
 have B2:=(B1.set _ _ _ _).ext E2
 have dc:=(HD.out.1.ext X2.out).cell
 rw [HD.out.2] at dc
 have df:=(HD.out.1.ext X2.out).fz
 have dl:=(HD.out.1.ext X2.out).lt
 have D2:=B2
 obtain ⟨zV,⟨v0,v1,v2,v3⟩,g0,g1,g2,g3⟩:=D2
 clear E2 b0z b0_0 b0_1 b0_2 b0_3 b0f0 b0f1 b0f2 b0f3 B1 X1 c3
 have HX3 : Hid (Ext W (w2.alloc (.cells #[] 35))):=X2.out.alloc _
 have HO3 : Hid ((w2.alloc (.cells #[] 35)).ownsRow w2.heap.size 35 6 (.slice (some ⟨w2.heap.size,0,none⟩) 0 0) 0 (([] : List Kn).flatMap cK)):=own_newK w2 w2 rfl nrf
 have HRD : Hid (∀ W',Ext W W' → RdKn W' (.slice p n cp) L):=fun W' e=>by
   exact K104
 have HK3 : Hid (RdKn (w2.alloc (.cells #[] 35)) (.slice p3 i cp) (L.take i)):=HP.out.2 _ L (HRD.out _ HX3.out)
 have HL3 : Hid ((L.take i).length = i):=by
   exact K97
 have HS3 : Hid (w2.heap.size ≤ (w2.alloc (.cells #[] 35)).heap.size ∧ W.heap.size ≤ w2.heap.size):=⟨by simp,X2.out.size⟩
 go_upto_region 8 with (first
   | (refine wpList_sl _ rfl _ _ _ _ rfl (.slice p n cp) _ (some (.int .i64 (i : Int))) none J26 J26 J26 (HR1.out _) ?_)
   | (refine wpList_sl _ rfl _ _ _ _ rfl (.slice p n cp) _ none (some (.int .i64 (i : Int))) J26 J26 J26 (HR3.out _) ?_)
   | (at_builtin;refine kn_app W _ _ _ _ _ [] (L.take i) 0 i w2.heap.size rfl rfl J26 J26 rfl HL3.out HO3.out HK3.out HX3.out HS3.out.2 HS3.out.1 (by have:=HN.out;omega) ?_;intro pv4 c4 w4 o4 e4 g4;have H4 : Hid (w4.ownsRow w2.heap.size 35 6 (.slice pv4 i c4) i ((L.take i).flatMap cK) ∧ Ext W w4 ∧ w2.heap.size ≤ w4.heap.size):=⟨(by simpa using o4),e4,Nat.le_trans J60 g4.size⟩;have B4:=(B2.al (.cells #[] 35)).grown g4 (by intro q;simp [Value.ownBlock] at q;omega);have dc4:=(HD.out.1.ext e4).cell;rw [HD.out.2] at dc4;have df4:=(HD.out.1.ext e4).fz;clear o4 e4 g4))
 clear dc df dl zV v0 v1 v2 v3 g0 g1 g2 g3 B2 HO3 HK3 HX3 HR1 HR3
 obtain ⟨zV,⟨v0,v1,v2,v3⟩,g0,g1,g2,g3⟩:=B4
 have HLB : Hid ((L.drop i).length = (n - i)):=by
   exact K129
 have HO4 : Hid ((w4.alloc (.cells #[.int .i64 r,.int .i64 c,.int .i64 vk,.int .i64 vn,.string vs,.int .i64 ve] 35)).ownsRow w2.heap.size 35 6 (.slice pv4 i c4) i ((L.take i).flatMap cK)):=ownsRow_ext H4.out.1 (xr.alloc _)
 have HK4 : Hid (RdKn (w4.alloc (.cells #[.int .i64 r,.int .i64 c,.int .i64 vk,.int .i64 vn,.string vs,.int .i64 ve] 35)) (.slice (some ⟨w4.heap.size,0,none⟩) 1 1) [⟨r,c,⟨vk,vn,vs,ve⟩⟩]):=RdKn.one (x:=⟨r,c,⟨vk,vn,vs,ve⟩⟩) J60 (top6 (x:=⟨r,c,⟨vk,vn,vs,ve⟩⟩))
 have HX4 : Hid (Ext W (w4.alloc (.cells #[.int .i64 r,.int .i64 c,.int .i64 vk,.int .i64 vn,.string vs,.int .i64 ve] 35)) ∧ w2.heap.size ≤ (w4.alloc (.cells #[.int .i64 r,.int .i64 c,.int .i64 vk,.int .i64 vn,.string vs,.int .i64 ve] 35)).heap.size):=⟨H4.out.2.1.alloc _,Nat.le_trans H4.out.2.2 J60⟩
 go_wp2_with (first | (at_builtin;refine kn_app W _ _ _ (.slice pv4 i c4) (.slice (some ⟨w4.heap.size,0,none⟩) 1 1) (L.take i) [⟨r,c,⟨vk,vn,vs,ve⟩⟩] i 1 w2.heap.size rfl rfl J26 J26 HL3.out rfl HO4.out HK4.out HX4.out.1 HS3.out.2 HX4.out.2 (by have:=HN.out;omega) ?_;intro pv5 c5 w5 o5 e5 g5;have H5 : Hid (w5.ownsRow w2.heap.size 35 6 (.slice pv5 (i + 1) c5) (i + 1) ((L.take i ++ ([⟨r,c,⟨vk,vn,vs,ve⟩⟩] : List Kn)).flatMap cK) ∧ Ext W w5 ∧ w2.heap.size ≤ w5.heap.size):=⟨o5,e5,Nat.le_trans HX4.out.2 g5.size⟩;have dc5:=(HD.out.1.ext e5).cell;rw [HD.out.2] at dc5;have df5:=(HD.out.1.ext e5).fz;clear o5 e5 g5 zV v0 v1 v2 v3 g0 g1 g2 g3 dc4 df4) | (at_builtin;refine kn_app W _ _ _ (.slice pv5 (i + 1) c5) _ (L.take i ++ ([⟨r,c,⟨vk,vn,vs,ve⟩⟩] : List Kn)) (L.drop i) (i + 1) (n - i) w2.heap.size rfl rfl J26 J26 (by rw [List.length_append,HL3.out];rfl) HLB.out H5.out.1 (HP.out.1 _ L (HRD.out _ H5.out.2.1)) H5.out.2.1 HS3.out.2 H5.out.2.2 (by have:=HN.out;omega) ?_;intro pv6 c6 w6 o6 e6 g6;have H6 : Hid (w6.ownsRow w2.heap.size 35 6 (.slice pv6 (i + 1 + (n - i)) c6) (i + 1 + (n - i)) ((L.take i ++ ([⟨r,c,⟨vk,vn,vs,ve⟩⟩] : List Kn) ++ (L.drop i)).flatMap cK) ∧ Ext W w6):=⟨o6,e6⟩;have dc6:=(HD.out.1.ext e6).cell;rw [HD.out.2] at dc6;have df6:=(HD.out.1.ext e6).fz;clear o6 e6 g6))
 exact K69
theorem dput_any (W : World) (d cp : Nat) (p : Option Addr) (L : List Kn) (h : DBr W d p cp L) (hl : L.length ≤ 1000) (r c k nn : Int) (s : ByteArray) (e : Int) :
   Calls Tryz.prog 27 #[.pointer (some ⟨d,0,none⟩),.int .i64 r,.int .i64 c,.agg #[.int .i64 k,.int .i64 nn,.string s,.int .i64 e]] W fun e' w'=>e' = .returned (.tuple #[]) ∧ ∃ p' c',DBr w' d p' c' (putL L r c (nm k nn s e)) ∧ (p' = p ∨ ∀ a,p' = some a → W.heap.size ≤ a.block) ∧ ExtB d W w':=by
 cases hi : inB r c with
 | false =>
   have hp : putL L r c (nm k nn s e) = L:=by unfold putL;rw [hi];rfl
   rw [hp]
   refine (dput_out W d cp p L h r c k nn s e hi).mono ?_
   rintro e' w' ⟨h1,h2,h3⟩
   exact ⟨h1,p,cp,h2,.inl rfl,h3.toB d⟩
 | true =>
   have key : Calls Tryz.prog 27 #[.pointer (some ⟨d,0,none⟩),.int .i64 r,.int .i64 c,.agg #[.int .i64 k,.int .i64 nn,.string s,.int .i64 e]] W (DPut W d (putL L r c (nm k nn s e))):=by
     by_cases hk : (nm k nn s e).k = 0
     · cases hs : atB r c L with
       | true=>exact dput_sb W d cp p L h hl r c k nn s e hi _ rfl hs hk
       | false=>exact dput_nb W d cp p L h hl r c k nn s e hi _ rfl hs hk
     · cases hs : atB r c L with
       | true=>exact dput_sv W d cp p L h hl r c k nn s e hi _ rfl hs hk
       | false=>exact dput_nv W d cp p L h hl r c k nn s e hi _ rfl hs hk
   refine key.mono ?_
   rintro e' w' ⟨h1,p',c',h2,h3,h4⟩
   exact ⟨h1,p',c',h2,.inr h3,h4⟩
theorem zeroV (W : World) : (zeroValue 33).run Tryz.prog W = .ok V.blank.dat W:=J3
theorem new_any (W : World) : Calls Tryz.prog 26 #[] W fun e w'=>e = .returned (.pointer (some ⟨W.heap.size,0,none⟩)) ∧ Brd w' W.heap.size none 0 bz ∧ Ext W w':=by
 go_enter func26,ntmps26
 go_wp2_with fail
 go_ret
 refine ⟨rfl,⟨by simp,by simp [go_sem],by simp [go_sem],by simp,bz_ok,rfl⟩,xr.alloc _⟩
theorem wpList_look {P : Program} (w : World) {ops : Array Oper} {rest : List Oper} {o : Oper} {a : Act} {Q : Exit → Act → World → Prop} (hg : o.guard = none) (m x : Operand) (t : TypeId) (hop : o.op = Op.lookup t m x false)
   (mv xv v : Value) (hm : a.eval m = mv) (hx : a.eval x = xv) (hrun : (Instr.lookup t mv xv false).run P w = .ok v w) (hK : wpList P ops Q rest (a.put o.dst v) w) : wpList P ops Q (o :: rest) a w:=by
 refine wpList_plain hg fun K' hK'=>?_
 unfold Oper.wp
 simp [execOp,hop,hm,hx,hrun,Result.andThen]
 exact hK' _ _ hK
theorem Brd.look {W : World} {b n : Nat} {g : Option Nat} {M : Bov} (h : Brd W b g n M) (r c : Int) (hr : I64 r) (hc : I64 c) : (Instr.lookup 64 (.map g) (.agg #[.int .i64 r,.int .i64 c]) false).run Tryz.prog W = .ok (M r c).dat W:=by
 cases g with
 | none =>
   have hm : M = bz:=h.map
   subst hm
   exact Maps.look_nil false kLaw Tryz.underlying64 (zeroV W) (key_mk r c hr hc)
 | some g =>
   obtain ⟨D,h1,h2⟩:=(show MapB W g n M from h.map)
   obtain ⟨v,ps,h3,h4⟩:=h1.lookup kLaw Tryz.underlying64 (zeroV W) (zd:=.held V.blank.dat) (zp:=[]) rfl (key_mk r c hr hc)
   rw [(h2 r c hr hc).1] at h4
   unfold hR at h4
   simp at h4
   rw [← h4.1]
   exact h3
theorem get_any (W : World) (b n : Nat) (g : Option Nat) (M : Bov) (h : Brd W b g n M) (r c : Int) (hr : I64 r) (hc : I64 c) :
   Calls Tryz.prog 10 #[.pointer (some ⟨b,0,none⟩),.int .i64 r,.int .i64 c] W fun e w'=>e = .returned (M r c).dat ∧ Ext W w':=by
 have h1:=fun W' (e : Ext W W')=>(h.ext e).look r c hr hc
 have h2:=fun W' (e : Ext W W')=>(h.ext e).cell
 have hrun:=h1 _ ((Ext.refl W).alloc (.cells #[.int .i64 0,.int .i64 0,.string ⟨#[]⟩,.int .i64 0] 33))
 have hcell:=h2 _ ((Ext.refl W).alloc (.cells #[.int .i64 0,.int .i64 0,.string ⟨#[]⟩,.int .i64 0] 33))
 clear h1 h2
 rw [dat_eq] at hrun ⊢
 generalize M r c = v at *
 clear h hr hc
 have Hrun : Hid _:=hrun
 clear hrun
 go_enter func10,ntmps10
 go_wp2_with (at_lookup;refine wpList_look _ rfl _ _ _ rfl _ _ _ rfl rfl Hrun.out ?_)
 exact finB (blk_top (w:=W) rfl xr) rfl (xr.alloc _) (fun g0 g1 g2 g3=>by simp [results,results10,go_sem]) (fun h=>⟨rfl,h⟩)
theorem MapB.mono {W : World} {g n m : Nat} {M : Bov} (h : MapB W g n M) (e : n ≤ m) : MapB W g m M:=by
 obtain ⟨D,h1,h2⟩:=h
 exact ⟨D,h1.mono e,h2⟩
theorem Brd.mono {W : World} {b n m : Nat} {g : Option Nat} {M : Bov} (h : Brd W b g n M) (e : n ≤ m) : Brd W b g m M:=by
 refine ⟨h.lt,h.cell,h.fz,h.ne,h.ok,?_⟩
 have:=h.map
 cases g with
 | none=>exact this
 | some g=>exact MapB.mono this e
theorem step_delete {P : Program} {ops : Array Oper} {o : Oper} {a : Act} {w : World} {K : Act → World → Prop} {Q : Exit → Act → World → Prop} {E : Prop}
   (hg : o.guard = none) (m x : Operand) (t k : TypeId) (hop : o.op = Op.call { callee:=Callee.builtin Builtin.delete,args:=#[m,x],argTypes:=#[t,k] }) (mv xv : Value) (hm : a.eval m = mv) (hx : a.eval x = xv) (w' : World)
   (hrun : (Builtin.delete_ #[t,k] o.type #[mv,xv]).run P w = .ok (.tuple #[]) w') (hK : K (a.put o.dst (.tuple #[])) w') : if Region.wanted o (yielded ops a.tmps) = true then Oper.wp P o a w K Q else E:=by
 have hw : Region.wanted o (yielded ops a.tmps) = true:=by simp [Region.wanted,hg]
 rw [if_pos hw]
 unfold Oper.wp
 simp [execOp,hop,resolve,invoke,builtin,hm,hx,hrun,Result.andThen]
 exact hK
theorem step_update {P : Program} {ops : Array Oper} {o : Oper} {a : Act} {w : World} {K : Act → World → Prop} {Q : Exit → Act → World → Prop} {E : Prop}
   (hg : o.guard = none) (m x v : Operand) (t : TypeId) (hop : o.op = Op.mapUpdate t m x v) (mv xv vv : Value) (hm : a.eval m = mv) (hx : a.eval x = xv) (hv : a.eval v = vv) (w' : World)
   (hrun : (Instr.mapUpdate t mv xv vv).run P w = .ok () w') (hK : K (a.put o.dst undef) w') : if Region.wanted o (yielded ops a.tmps) = true then Oper.wp P o a w K Q else E:=by
 have hw : Region.wanted o (yielded ops a.tmps) = true:=by simp [Region.wanted,hg]
 rw [if_pos hw]
 unfold Oper.wp
 simp [execOp,hop,hm,hx,hv,hrun,Result.andThen]
 exact hK
theorem grown_extS {W W2 w9 : World} {g : Nat} {S : Nat → Prop} (X : Ext W W2) (h : W2.grownBy w9 (some g)) (hS : S g) : ExtS S W w9 :=
 ⟨h.os.trans X.os,h.tape.trans X.tape,h.output.trans X.output,Nat.le_trans X.size h.size,fun k hk hs=>(h.block k (llL hk X.size) (fun e=>by cases e;exact hs hS)).trans (X.block k hk)⟩
theorem eq_map1 (g : Nat) (W : World) : (binOp .eql 64 (.map (some g)) (.map none)).run Tryz.prog W = .ok (.bool false) W:=by
 have h:=Tryz.underlying64
 exact K60
theorem eq_map0 (W : World) : (binOp .eql 64 (.map none) (.map none)).run Tryz.prog W = .ok (.bool true) W:=by
 have h:=Tryz.underlying64
 exact K60
theorem grown_drew {W2 w9 : World} {row : Option Nat} (h : W2.drew.grownBy w9 row) : W2.grownBy w9 row:=⟨h.os,h.tape,h.output,h.size,h.block⟩
theorem grown_extT {W W2 w9 : World} {g : Nat} {S : Nat → Prop} (X : ExtS S W W2) (h : W2.grownBy w9 (some g)) (hS : S g ∨ W.heap.size ≤ g) : ExtS S W w9 :=
 ⟨h.os.trans X.os,h.tape.trans X.tape,h.output.trans X.output,Nat.le_trans X.size h.size,fun k hk hs=>(h.block k (llL hk X.size) (fun e=>by
   cases e
   rcases hS with hS | hS
   · exact hs hS
   · omega)).trans (X.block k hk hs)⟩
theorem Brd.turn {W2 w9 : World} {b g n n' : Nat} {M M' : Bov} (h : Brd W2 b (some g) n M) (hg : W2.grownBy w9 (some g)) (hm : MapB w9 g n' M') (ok : BdOk M') : Brd w9 b (some g) n' M':=by
 have hne : some b ≠ some g:=fun e=>h.ne e.symm
 have k:=cell_of_heap (hg.block b h.lt hne) 0
 exact ⟨llL h.lt hg.size,k.1.trans h.cell,k.2.trans h.fz,h.ne,ok,hm⟩
theorem bput_ok {M : Bov} (h : BdOk M) {r c : Int} (hi : inB r c = true) {v : V} (hv : v.ok) : BdOk (bput M r c v):=by
 have:=bset_ok h r c v hv
 unfold bset at this
 rwa [if_pos hi] at this
theorem in_i {r c : Int} (h : inB r c = true) : I64 r ∧ I64 c:=by simp [inB] at h;exact ⟨⟨by omega,by omega⟩,⟨by omega,by omega⟩⟩
def PutQ (W : World) (b n : Nat) (g : Option Nat) (M : Bov) (e : Ending) (w' : World) : Prop :=
 e = .returned (.tuple #[]) ∧ ∃ g',Brd w' b g' (n + 1) M ∧ (g' = g ∨ (g = none ∧ ∃ q,g' = some q ∧ W.heap.size ≤ q)) ∧ ExtS (fun k=>k = b ∨ g = some k) W w'
theorem put_out (W : World) (b n : Nat) (g : Option Nat) (M : Bov) (h : Brd W b g n M) (r c k nn : Int) (s : ByteArray) (e : Int) (hi : inB r c = false) :
   Calls Tryz.prog 22 #[.pointer (some ⟨b,0,none⟩),.int .i64 r,.int .i64 c,.agg #[.int .i64 k,.int .i64 nn,.string s,.int .i64 e]] W (PutQ W b n g M):=by
 have c1:=fun W=>in_any r c W
 rw [hi] at c1
 have H : Hid (Brd W b g n M):=h
 clear h hi
 go_enter func22,ntmps22
 go_wp2_with fail
 refine (c1 _).mono ?_
 rintro e w1 ⟨rfl,rfl⟩
 go_wp2_with fail
 refine bodyPost_ret (v:=.tuple #[]) J42 rfl ?_
 exact ⟨rfl,g,(H.out.ext (xr.alloc _)).mono (Nat.le_succ _),.inl rfl,(xr.alloc _).toS _⟩
theorem put_del0 (W : World) (b n : Nat) (M : Bov) (h : Brd W b none n M) (r c k nn : Int) (s : ByteArray) (e : Int) (hi : inB r c = true) (hv : nm k nn s e = .blank) (hN : Nm W) :
   Calls Tryz.prog 22 #[.pointer (some ⟨b,0,none⟩),.int .i64 r,.int .i64 c,.agg #[.int .i64 k,.int .i64 nn,.string s,.int .i64 e]] W (PutQ W b n none (bput M r c .blank)):=by
 have c1:=fun W=>in_any r c W
 rw [hi] at c1
 have HI : Hid (inB r c = true):=hi
 have c2:=fun W' (e1 : Ext W W')=>vnormal_any k nn s e W' (hN.ext e1)
 rw [hv] at c2
 simp only [V.dat] at c2
 have H : Hid (Brd W b none n M):=h
 clear hv
 clear h hi hN
 go_enter func22,ntmps22
 go_wp2_with fail
 refine (c1 _).mono ?_
 rintro e w1 ⟨rfl,rfl⟩
 go_wp2_with fail
 refine (c2 _ (xr.alloc _)).mono ?_
 rintro e w1 ⟨rfl,E1⟩
 have B1:=blk_top (b:=W.heap.size) J60 E1
 have X1 : Hid (Ext W w1):=(xr.alloc _).trans E1
 have D0:=B1
 obtain ⟨b0z,⟨b0_0,b0_1,b0_2,b0_3⟩,b0f0,b0f1,b0f2,b0f3⟩:=D0
 clear c1 c2 E1
 go_wp2_with fail
 obtain ⟨W2,hW2⟩ : ∃ W2,W2 = (((((w1.setCell ⟨W.heap.size,0,none⟩ (.int .i64 0)).setCell ⟨W.heap.size,1,none⟩ (.int .i64 0)).setCell ⟨W.heap.size,2,none⟩ (.string ⟨#[]⟩)).setCell ⟨W.heap.size,3,none⟩ (.int .i64 0)).alloc (.cells #[.int .i64 r,.int .i64 c] 24)):=⟨_,rfl⟩
 have X2 : Ext W W2:=by
   exact K78
 have BV : Blk W2 W.heap.size (.int .i64 0) (.int .i64 0) (.string ⟨#[]⟩) (.int .i64 0):=by
   exact K166
 have BP : W2.cell? ⟨w1.heap.size,0,none⟩ = some (.int .i64 r) ∧ W2.cell? ⟨w1.heap.size,1,none⟩ = some (.int .i64 c) ∧ w1.heap.size < W2.heap.size ∧ W.heap.size ≤ w1.heap.size ∧ W2.heap.size = w1.heap.size + 1:=by
   exact K72
 rw [← hW2]
 clear hW2 b0_0 b0_1 b0_2 b0_3 b0f0 b0f1 b0f2 b0f3 b0z BV B1 X1
 have hB2:=H.out.ext X2
 clear H
 obtain ⟨iR,iC⟩:=in_i HI.out
 obtain ⟨p0,p1,p2,p3,p4⟩:=BP
 have HR : Hid (∀ ty,(Builtin.delete_ #[64,24] ty #[.map none,.agg #[.int .i64 r,.int .i64 c]]).run Tryz.prog W2.drew = .ok (.tuple #[]) W2.drew):=fun ty=>Maps.drop_nil kLaw Tryz.underlying64 (key_mk r c iR iC) ty
 have HQ : Hid (PutQ W b n none (bput M r c .blank) (.returned (.tuple #[])) W2.drew):=by
   refine ⟨rfl,none,?_,.inl rfl,X2.drew.toS _⟩
   have hm : M = bz:=hB2.map
   subst hm
   have e : bput bz r c .blank = bz:=by funext r' c';unfold bput bz;split <;> rfl
   rw [e]
   exact (hB2.ext xr.drew).mono (Nat.le_succ _)
 obtain ⟨w9,hw9⟩ : ∃ w9,w9 = W2.drew:=⟨_,rfl⟩
 have HB : Hid (w9.cell? ⟨b,0,none⟩ = some (.map none) ∧ w9.cell? ⟨w1.heap.size,0,none⟩ = some (.int .i64 r) ∧ w9.cell? ⟨w1.heap.size,1,none⟩ = some (.int .i64 c)):=by rw [hw9];exact ⟨hB2.cell,p0,p1⟩
 rw [← hw9] at HQ
 have HR2 : Hid (∀ ty,(Builtin.delete_ #[64,24] ty #[.map none,.agg #[.int .i64 r,.int .i64 c]]).run Tryz.prog W2.drew = .ok (.tuple #[]) w9):=by rw [hw9];exact HR.out
 clear hw9 HR
 have HA : Hid (W2.drew.cell? ⟨b,0,none⟩ = some (.map none) ∧ W2.drew.cell? ⟨w1.heap.size,0,none⟩ = some (.int .i64 r) ∧ W2.drew.cell? ⟨w1.heap.size,1,none⟩ = some (.int .i64 c)):=⟨hB2.cell,p0,p1⟩
 clear hB2 p0 p1 p3 iR iC HI X2 p4
 generalize w1.heap.size = P2 at *
 refine wp_region_held_drew (S:=(fun W3=>W3.cell? ⟨b,0,none⟩ = some (.map none) ∧ W3.cell? ⟨P2,0,none⟩ = some (.int .i64 r) ∧ W3.cell? ⟨P2,1,none⟩ = some (.int .i64 c))) J3 ?_ (fun hHeld0=>?_)
 · (first | exact HA.out | exact HB.out)
 exact K19
theorem put_del1 (W : World) (b n : Nat) (g : Nat) (M : Bov) (h : Brd W b (some g) n M) (r c k nn : Int) (s : ByteArray) (e : Int) (hi : inB r c = true) (hv : nm k nn s e = .blank) (hN : Nm W) :
   Calls Tryz.prog 22 #[.pointer (some ⟨b,0,none⟩),.int .i64 r,.int .i64 c,.agg #[.int .i64 k,.int .i64 nn,.string s,.int .i64 e]] W (PutQ W b n (some g) (bput M r c .blank)):=by
 have c1:=fun W=>in_any r c W
 rw [hi] at c1
 have HI : Hid (inB r c = true):=hi
 have c2:=fun W' (e1 : Ext W W')=>vnormal_any k nn s e W' (hN.ext e1)
 rw [hv] at c2
 simp only [V.dat] at c2
 have H : Hid (Brd W b (some g) n M):=h
 clear hv
 clear h hi hN
 go_enter func22,ntmps22
 go_wp2_with fail
 refine (c1 _).mono ?_
 rintro e w1 ⟨rfl,rfl⟩
 go_wp2_with fail
 refine (c2 _ (xr.alloc _)).mono ?_
 rintro e w1 ⟨rfl,E1⟩
 have B1:=blk_top (b:=W.heap.size) J60 E1
 have X1 : Hid (Ext W w1):=(xr.alloc _).trans E1
 have D0:=B1
 obtain ⟨b0z,⟨b0_0,b0_1,b0_2,b0_3⟩,b0f0,b0f1,b0f2,b0f3⟩:=D0
 clear c1 c2 E1
 go_wp2_with fail
 obtain ⟨W2,hW2⟩ : ∃ W2,W2 = (((((w1.setCell ⟨W.heap.size,0,none⟩ (.int .i64 0)).setCell ⟨W.heap.size,1,none⟩ (.int .i64 0)).setCell ⟨W.heap.size,2,none⟩ (.string ⟨#[]⟩)).setCell ⟨W.heap.size,3,none⟩ (.int .i64 0)).alloc (.cells #[.int .i64 r,.int .i64 c] 24)):=⟨_,rfl⟩
 have X2 : Ext W W2:=by
   exact K78
 have BV : Blk W2 W.heap.size (.int .i64 0) (.int .i64 0) (.string ⟨#[]⟩) (.int .i64 0):=by
   exact K166
 have BP : W2.cell? ⟨w1.heap.size,0,none⟩ = some (.int .i64 r) ∧ W2.cell? ⟨w1.heap.size,1,none⟩ = some (.int .i64 c) ∧ w1.heap.size < W2.heap.size ∧ W.heap.size ≤ w1.heap.size ∧ W2.heap.size = w1.heap.size + 1:=by
   exact K72
 rw [← hW2]
 clear hW2 b0_0 b0_1 b0_2 b0_3 b0f0 b0f1 b0f2 b0f3 b0z BV B1 X1
 have hB2:=H.out.ext X2
 clear H
 obtain ⟨iR,iC⟩:=in_i HI.out
 obtain ⟨p0,p1,p2,p3,p4⟩:=BP
 obtain ⟨D,own,rel⟩:=(show MapB W2 g n M from hB2.map)
 obtain ⟨w9,hrun,own9,turn⟩ : ∃ w9,(∀ ty,(Builtin.delete_ #[64,24] ty #[.map (some g),.agg #[.int .i64 r,.int .i64 c]]).run Tryz.prog W2.drew = .ok (.tuple #[]) w9) ∧ w9.ownsMap Tryz.prog 24 hR g n (D.del (kl r c)) ∧ W2.drew.mapTurned w9 g:=by
   obtain ⟨w9,h1,h2,h3⟩:=World.ownsMap.drop (w:=W2.drew) own kLaw Tryz.underlying64 (key_mk r c iR iC) 0
   exact ⟨w9,fun _=>h1,h2,h3⟩
 have HR2 : Hid (∀ ty,(Builtin.delete_ #[64,24] ty #[.map (some g),.agg #[.int .i64 r,.int .i64 c]]).run Tryz.prog W2.drew = .ok (.tuple #[]) w9):=hrun
 have tg : W2.grownBy w9 (some g):=grown_drew turn.grown
 have gW : g < W2.heap.size:=own.lt
 have HQ : Hid (PutQ W b n (some g) (bput M r c .blank) (.returned (.tuple #[])) w9) :=
   ⟨rfl,some g,hB2.turn tg (MapB.mono ⟨_,own9,rel_del rel r c iR iC⟩ (Nat.le_succ _)) (bput_ok hB2.ok HI.out trivial),.inl rfl,grown_extS X2 tg (.inr rfl)⟩
 have hpg : w1.heap.size ≠ g:=by
   intro e
   obtain ⟨es,clock,hb,_⟩:=own
   rw [← e] at hb
   unfold World.cell? at p0
   simp only [hb] at p0
   cases p0
 have HB : Hid (w9.cell? ⟨b,0,none⟩ = some (.map (some g)) ∧ w9.cell? ⟨w1.heap.size,0,none⟩ = some (.int .i64 r) ∧ w9.cell? ⟨w1.heap.size,1,none⟩ = some (.int .i64 c)):=by
   have kp:=fun o=>cell_of_heap (tg.block w1.heap.size p2 (fun e=>hpg (Option.some.inj e))) o
   have kb:=cell_of_heap (tg.block b hB2.lt (fun e=>hB2.ne e.symm)) 0
   exact ⟨kb.1.trans hB2.cell,(kp 0).1.trans p0,(kp 1).1.trans p1⟩
 clear hrun own9 turn tg hpg own rel gW
 have HA : Hid (W2.drew.cell? ⟨b,0,none⟩ = some (.map (some g)) ∧ W2.drew.cell? ⟨w1.heap.size,0,none⟩ = some (.int .i64 r) ∧ W2.drew.cell? ⟨w1.heap.size,1,none⟩ = some (.int .i64 c)):=⟨hB2.cell,p0,p1⟩
 clear hB2 p0 p1 p3 iR iC HI X2 p4
 generalize w1.heap.size = P2 at *
 refine wp_region_held_drew (S:=(fun W3=>W3.cell? ⟨b,0,none⟩ = some (.map (some g)) ∧ W3.cell? ⟨P2,0,none⟩ = some (.int .i64 r) ∧ W3.cell? ⟨P2,1,none⟩ = some (.int .i64 c))) J3 ?_ (fun hHeld0=>?_)
 · (first | exact HA.out | exact HB.out)
 exact K19
theorem put_set (W : World) (b n : Nat) (g : Nat) (M : Bov) (h : Brd W b (some g) n M) (hn : n < 1000000) (r c k nn : Int) (s : ByteArray) (e : Int) (hi : inB r c = true) (v : V) (hv : nm k nn s e = v) (hk : v.k ≠ 0) (ok : v.ok) (hN : Nm W) :
   Calls Tryz.prog 22 #[.pointer (some ⟨b,0,none⟩),.int .i64 r,.int .i64 c,.agg #[.int .i64 k,.int .i64 nn,.string s,.int .i64 e]] W (PutQ W b n (some g) (bput M r c v)):=by
 have c1:=fun W=>in_any r c W
 rw [hi] at c1
 have HI : Hid (inB r c = true):=hi
 have c2:=fun W' (e1 : Ext W W')=>vnormal_any k nn s e W' (hN.ext e1)
 rw [hv,dat_eq] at c2
 have H : Hid (Brd W b (some g) n M):=h
 have HK : Hid (v.k ≠ 0 ∧ v.ok ∧ n < 1000000):=⟨hk,ok,hn⟩
 have k0 : (v.k == 0) = false:=J105
 obtain ⟨vk,vn,vs,ve,hvv⟩ : ∃ vk vn vs ve,v.k = vk ∧ v.n = vn ∧ v.s = vs ∧ v.e = ve:=⟨_,_,_,_,rfl,rfl,rfl,rfl⟩
 have HV : Hid (v.k = vk ∧ v.n = vn ∧ v.s = vs ∧ v.e = ve):=hvv
 obtain ⟨q1,q2,q3,q4⟩:=hvv
 rw [q1,q2,q3,q4] at c2
 rw [q1] at k0
 clear hv hk ok hn q1 q2 q3 q4
 clear h hi hN
 go_enter func22,ntmps22
 go_wp2_with fail
 refine (c1 _).mono ?_
 rintro e w1 ⟨rfl,rfl⟩
 go_wp2_with fail
 refine (c2 _ (xr.alloc _)).mono ?_
 rintro e w1 ⟨rfl,E1⟩
 have B1:=blk_top (b:=W.heap.size) J60 E1
 have X1 : Hid (Ext W w1):=(xr.alloc _).trans E1
 have D0:=B1
 obtain ⟨b0z,⟨b0_0,b0_1,b0_2,b0_3⟩,b0f0,b0f1,b0f2,b0f3⟩:=D0
 clear c1 c2 E1
 obtain ⟨W2,hW2⟩ : ∃ W2,W2 = (((((w1.setCell ⟨W.heap.size,0,none⟩ (.int .i64 vk)).setCell ⟨W.heap.size,1,none⟩ (.int .i64 vn)).setCell ⟨W.heap.size,2,none⟩ (.string vs)).setCell ⟨W.heap.size,3,none⟩ (.int .i64 ve)).alloc (.cells #[.int .i64 r,.int .i64 c] 24)):=⟨_,rfl⟩
 have X2 : Ext W W2:=by
   exact K78
 have BV : Blk W2 W.heap.size (.int .i64 vk) (.int .i64 vn) (.string vs) (.int .i64 ve):=by
   exact K166
 have BP : W2.cell? ⟨w1.heap.size,0,none⟩ = some (.int .i64 r) ∧ W2.cell? ⟨w1.heap.size,1,none⟩ = some (.int .i64 c) ∧ w1.heap.size < W2.heap.size ∧ W.heap.size ≤ w1.heap.size ∧ W2.heap.size = w1.heap.size + 1:=by
   exact K72
 have hB2:=H.out.ext X2
 clear H
 have bc:=hB2.cell
 have bf:=hB2.fz
 rw [hW2] at bc bf
 have qm:=eq_map1 g
 go_wp2_with fail
 clear qm
 rw [← hW2]
 clear hW2 bc bf b0_0 b0_1 b0_2 b0_3 b0f0 b0f1 b0f2 b0f3 b0z B1 X1
 obtain ⟨iR,iC⟩:=in_i HI.out
 obtain ⟨p0,p1,p2,p3,p4⟩:=BP
 obtain ⟨zV,⟨v0,v1,v2,v3⟩,_⟩:=BV
 obtain ⟨D,own,rel⟩:=(show MapB W2 g n M from hB2.map)
 obtain ⟨w9,hrun,own9,turn⟩:=World.ownsMap.store (w:=W2.drew) (n:=n) own kLaw Tryz.underlying64 (by have:=HK.out.2.2;unfold maxLen;omega) (val:=.agg #[.int .i64 vk,.int .i64 vn,.string vs,.int .i64 ve]) (d:=.held (.agg #[.int .i64 vk,.int .i64 vn,.string vs,.int .i64 ve])) (ps:=[]) (key_mk r c iR iC) rfl
 have HR2 : Hid ((Instr.mapUpdate 64 (.map (some g)) (.agg #[.int .i64 r,.int .i64 c]) (.agg #[.int .i64 vk,.int .i64 vn,.string vs,.int .i64 ve])).run Tryz.prog W2.drew = .ok () w9):=hrun
 have tg : W2.grownBy w9 (some g):=grown_drew turn.grown
 have HQ : Hid (PutQ W b n (some g) (bput M r c v) (.returned (.tuple #[])) w9):=by
   obtain ⟨h1,h2,h3⟩:=HK.out
   obtain ⟨q1,q2,q3,q4⟩:=HV.out
   have hd : v.dat = .agg #[.int .i64 vk,.int .i64 vn,.string vs,.int .i64 ve]:=by rw [dat_eq,q1,q2,q3,q4]
   rw [← hd] at own9
   exact ⟨rfl,some g,hB2.turn tg ⟨_,own9,rel_put rel own.isMap r c iR iC v h1⟩ (bput_ok hB2.ok HI.out h2),.inl rfl,grown_extS X2 tg (.inr rfl)⟩
 have hne : ∀ k u,k < W2.heap.size → W2.cell? ⟨k,0,none⟩ = some u → some k ≠ some g:=by
   exact K133
 have kk:=fun k u (h1 : k < W2.heap.size) (h2 : W2.cell? ⟨k,0,none⟩ = some u) o=>(cell_of_heap (tg.block k h1 (hne k u h1 h2)) o).1
 have HB : Hid (w9.cell? ⟨b,0,none⟩ = some (.map (some g)) ∧ w9.cell? ⟨w1.heap.size,0,none⟩ = some (.int .i64 r) ∧ w9.cell? ⟨w1.heap.size,1,none⟩ = some (.int .i64 c) ∧ w9.cell? ⟨W.heap.size,0,none⟩ = some (.int .i64 vk) ∧ w9.cell? ⟨W.heap.size,1,none⟩ = some (.int .i64 vn) ∧ w9.cell? ⟨W.heap.size,2,none⟩ = some (.string vs) ∧ w9.cell? ⟨W.heap.size,3,none⟩ = some (.int .i64 ve)) :=
   ⟨(kk b _ hB2.lt hB2.cell 0).trans hB2.cell,(kk _ _ p2 p0 0).trans p0,(kk _ _ p2 p0 1).trans p1,(kk _ _ zV v0 0).trans v0,(kk _ _ zV v0 1).trans v1,(kk _ _ zV v0 2).trans v2,(kk _ _ zV v0 3).trans v3⟩
 have HA : Hid (W2.drew.cell? ⟨b,0,none⟩ = some (.map (some g)) ∧ W2.drew.cell? ⟨w1.heap.size,0,none⟩ = some (.int .i64 r) ∧ W2.drew.cell? ⟨w1.heap.size,1,none⟩ = some (.int .i64 c) ∧ W2.drew.cell? ⟨W.heap.size,0,none⟩ = some (.int .i64 vk) ∧ W2.drew.cell? ⟨W.heap.size,1,none⟩ = some (.int .i64 vn) ∧ W2.drew.cell? ⟨W.heap.size,2,none⟩ = some (.string vs) ∧ W2.drew.cell? ⟨W.heap.size,3,none⟩ = some (.int .i64 ve)):=⟨hB2.cell,p0,p1,v0,v1,v2,v3⟩
 clear hB2 p0 p1 p2 p3 p4 iR iC HI X2 hrun own9 turn tg own rel kk hne v0 v1 v2 v3 zV HK HV
 exact K12
theorem put_new (W : World) (b n : Nat) (M : Bov) (h : Brd W b none n M) (hn : n < 1000000) (r c k nn : Int) (s : ByteArray) (e : Int) (hi : inB r c = true) (v : V) (hv : nm k nn s e = v) (hk : v.k ≠ 0) (ok : v.ok) (hN : Nm W) :
   Calls Tryz.prog 22 #[.pointer (some ⟨b,0,none⟩),.int .i64 r,.int .i64 c,.agg #[.int .i64 k,.int .i64 nn,.string s,.int .i64 e]] W (PutQ W b n none (bput M r c v)):=by
 have c1:=fun W=>in_any r c W
 rw [hi] at c1
 have HI : Hid (inB r c = true):=hi
 have c2:=fun W' (e1 : Ext W W')=>vnormal_any k nn s e W' (hN.ext e1)
 rw [hv,dat_eq] at c2
 have H : Hid (Brd W b none n M):=h
 have HK : Hid (v.k ≠ 0 ∧ v.ok ∧ n < 1000000):=⟨hk,ok,hn⟩
 have k0 : (v.k == 0) = false:=J105
 obtain ⟨vk,vn,vs,ve,hvv⟩ : ∃ vk vn vs ve,v.k = vk ∧ v.n = vn ∧ v.s = vs ∧ v.e = ve:=⟨_,_,_,_,rfl,rfl,rfl,rfl⟩
 have HV : Hid (v.k = vk ∧ v.n = vn ∧ v.s = vs ∧ v.e = ve):=hvv
 obtain ⟨q1,q2,q3,q4⟩:=hvv
 rw [q1,q2,q3,q4] at c2
 rw [q1] at k0
 clear hv hk ok hn q1 q2 q3 q4
 clear h hi hN
 go_enter func22,ntmps22
 go_wp2_with fail
 refine (c1 _).mono ?_
 rintro e w1 ⟨rfl,rfl⟩
 go_wp2_with fail
 refine (c2 _ (xr.alloc _)).mono ?_
 rintro e w1 ⟨rfl,E1⟩
 have B1:=blk_top (b:=W.heap.size) J60 E1
 have X1 : Hid (Ext W w1):=(xr.alloc _).trans E1
 have D0:=B1
 obtain ⟨b0z,⟨b0_0,b0_1,b0_2,b0_3⟩,b0f0,b0f1,b0f2,b0f3⟩:=D0
 clear c1 c2 E1
 have hmm:=@run_makeMap Tryz.prog
 obtain ⟨W2,hW2⟩ : ∃ W2,W2 = (((((w1.setCell ⟨W.heap.size,0,none⟩ (.int .i64 vk)).setCell ⟨W.heap.size,1,none⟩ (.int .i64 vn)).setCell ⟨W.heap.size,2,none⟩ (.string vs)).setCell ⟨W.heap.size,3,none⟩ (.int .i64 ve)).alloc (.cells #[.int .i64 r,.int .i64 c] 24)):=⟨_,rfl⟩
 have X2 : Ext W W2:=by
   exact K78
 have BV : Blk W2 W.heap.size (.int .i64 vk) (.int .i64 vn) (.string vs) (.int .i64 ve):=by
   exact K166
 have BP : W2.cell? ⟨w1.heap.size,0,none⟩ = some (.int .i64 r) ∧ W2.cell? ⟨w1.heap.size,1,none⟩ = some (.int .i64 c) ∧ w1.heap.size < W2.heap.size ∧ W.heap.size ≤ w1.heap.size ∧ W2.heap.size = w1.heap.size + 1:=by
   exact K72
 have hB2:=H.out.ext X2
 clear H
 have bc:=hB2.cell
 have bf:=hB2.fz
 go_upto_region 5 with fail
 rw [← hW2]
 clear hW2 b0_0 b0_1 b0_2 b0_3 b0f0 b0f1 b0f2 b0f3 b0z B1 X1
 have qm:=eq_map0
 have HP : Hid _:=BP
 have HV2 : Hid _:=BV
 have HX2 : Hid _:=X2
 have HB2 : Hid _:=hB2
 clear BP BV X2
 have bc2:=(hB2.ext (xr.alloc (.map #[] 0))).cell
 have bf2:=(hB2.ext (xr.alloc (.map #[] 0))).fz
 clear hB2
 go_wp2_with fail
 clear qm bc bf bc2 bf2 hmm
 obtain ⟨p0,p1,p2,p3,p4⟩:=HP.out
 obtain ⟨zV,⟨v0,v1,v2,v3⟩,_⟩:=HV2.out
 obtain ⟨iR,iC⟩:=in_i HI.out
 have hB2:=HB2.out
 have X2:=HX2.out
 obtain ⟨g,hg⟩ : ∃ g,g = W2.heap.size:=⟨_,rfl⟩
 rw [← hg]
 obtain ⟨W4,hW4⟩ : ∃ W4,W4 = (W2.alloc (.map #[] 0)).setCell ⟨b,0,none⟩ (.map (some g)):=⟨_,rfl⟩
 rw [← hW4]
 have sz : W4.heap.size = W2.heap.size + 1:=by rw [hW4];simp [go_sem]
 have kq : ∀ k,k < W2.heap.size → k ≠ b → W4.heap[k]? = W2.heap[k]?:=by
   intro k hk hne
   rw [hW4,RowKit.Below.heap_setCell _ _ _ _ hne]
   exact ((Ext.refl W2).alloc (.map #[] 0)).block k hk
 have kg : W4.heap[g]? = some (.map #[] 0):=by
   have hne : g ≠ b:=by have:=hB2.lt;omega
   rw [hW4,RowKit.Below.heap_setCell _ _ _ _ hne,hg]
   exact (MapKept.heap_alloc W2 _).1
 have own : W4.ownsMap Tryz.prog 24 hR g 0 (.map []):=by
   have h0:=World.ownsMap_made W2 Tryz.prog 24 hR
   rw [← hg] at h0
   obtain ⟨es,clock,hb,rr⟩:=h0
   refine ⟨es,clock,?_,rr⟩
   rw [kg,← hb,hg]
   exact ((MapKept.heap_alloc W2 _).1).symm
 have hM : M = bz:=hB2.map
 have rel : RelD (.map []) M:=by rw [hM];exact rel_empty
 have hB4 : Brd W4 b (some g) 0 M:=by
   refine ⟨by have:=hB2.lt;omega,?_,?_,fun e=>by cases e;have:=hB2.lt;omega,hB2.ok,⟨_,own,rel⟩⟩
   · rw [hW4];exact wSa _ ⟨b,0,none⟩ _ (by rw [(hB2.ext (xr.alloc _)).cell])
   · rw [hW4,wFz];exact (hB2.ext (xr.alloc _)).fz
 have X4 : ExtS (fun k=>k = b ∨ none = some k) W W4:=by
   refine ⟨by rw [hW4];exact X2.os,by rw [hW4];exact X2.tape,by rw [hW4];exact X2.output,by have:=X2.size;omega,fun k hk hn=>?_⟩
   exact (kq k (llL hk X2.size) (fun e=>hn (.inl e))).trans (X2.block k hk)
 have hb0 : w1.heap.size ≠ b:=by
   intro e
   have:=hB2.cell
   rw [← e,p0] at this
   cases this
 have hb1 : W.heap.size ≠ b:=by
   intro e
   have:=hB2.cell
   rw [← e,v0] at this
   cases this
 have c1:=fun o=>(cell_of_heap (kq w1.heap.size p2 hb0) o).1
 have c2:=fun o=>(cell_of_heap (kq W.heap.size zV hb1) o).1
 have p0:=(c1 0).trans p0
 have p1:=(c1 1).trans p1
 have v0:=(c2 0).trans v0
 have v1:=(c2 1).trans v1
 have v2:=(c2 2).trans v2
 have v3:=(c2 3).trans v3
 have p2 : w1.heap.size < W4.heap.size:=J2
 have zV : W.heap.size < W4.heap.size:=J2
 have hge : W.heap.size ≤ g:=by rw [hg];exact X2.size
 have isM:=own.isMap
 clear hB2 c1 c2 hb0 hb1 kg kq sz hW4 hg X2
 obtain ⟨w9,hrun,own9,turn⟩:=World.ownsMap.store (w:=W4.drew) (n:=0) own kLaw Tryz.underlying64 (by have:=HK.out.2.2;unfold maxLen;omega) (val:=.agg #[.int .i64 vk,.int .i64 vn,.string vs,.int .i64 ve]) (d:=.held (.agg #[.int .i64 vk,.int .i64 vn,.string vs,.int .i64 ve])) (ps:=[]) (key_mk r c iR iC) rfl
 have HR2 : Hid ((Instr.mapUpdate 64 (.map (some g)) (.agg #[.int .i64 r,.int .i64 c]) (.agg #[.int .i64 vk,.int .i64 vn,.string vs,.int .i64 ve])).run Tryz.prog W4.drew = .ok () w9):=hrun
 have tg : W4.grownBy w9 (some g):=grown_drew turn.grown
 have HQ : Hid (PutQ W b n none (bput M r c v) (.returned (.tuple #[])) w9):=by
   obtain ⟨h1,h2,h3⟩:=HK.out
   obtain ⟨q1,q2,q3,q4⟩:=HV.out
   have hd : v.dat = .agg #[.int .i64 vk,.int .i64 vn,.string vs,.int .i64 ve]:=by rw [dat_eq,q1,q2,q3,q4]
   rw [← hd] at own9
   exact ⟨rfl,some g,(hB4.turn tg ⟨_,own9,rel_put rel isM r c iR iC v h1⟩ (bput_ok hB4.ok HI.out h2)).mono J2,.inr ⟨rfl,g,rfl,hge⟩,grown_extT X4 tg (.inr hge)⟩
 have hne : ∀ k u,k < W4.heap.size → W4.cell? ⟨k,0,none⟩ = some u → some k ≠ some g:=by
   exact K133
 have kk:=fun k u (h1 : k < W4.heap.size) (h2 : W4.cell? ⟨k,0,none⟩ = some u) o=>(cell_of_heap (tg.block k h1 (hne k u h1 h2)) o).1
 have HB : Hid (w9.cell? ⟨b,0,none⟩ = some (.map (some g)) ∧ w9.cell? ⟨w1.heap.size,0,none⟩ = some (.int .i64 r) ∧ w9.cell? ⟨w1.heap.size,1,none⟩ = some (.int .i64 c) ∧ w9.cell? ⟨W.heap.size,0,none⟩ = some (.int .i64 vk) ∧ w9.cell? ⟨W.heap.size,1,none⟩ = some (.int .i64 vn) ∧ w9.cell? ⟨W.heap.size,2,none⟩ = some (.string vs) ∧ w9.cell? ⟨W.heap.size,3,none⟩ = some (.int .i64 ve)) :=
   ⟨(kk b _ hB4.lt hB4.cell 0).trans hB4.cell,(kk _ _ p2 p0 0).trans p0,(kk _ _ p2 p0 1).trans p1,(kk _ _ zV v0 0).trans v0,(kk _ _ zV v0 1).trans v1,(kk _ _ zV v0 2).trans v2,(kk _ _ zV v0 3).trans v3⟩
 have HA : Hid (W4.drew.cell? ⟨b,0,none⟩ = some (.map (some g)) ∧ W4.drew.cell? ⟨w1.heap.size,0,none⟩ = some (.int .i64 r) ∧ W4.drew.cell? ⟨w1.heap.size,1,none⟩ = some (.int .i64 c) ∧ W4.drew.cell? ⟨W.heap.size,0,none⟩ = some (.int .i64 vk) ∧ W4.drew.cell? ⟨W.heap.size,1,none⟩ = some (.int .i64 vn) ∧ W4.drew.cell? ⟨W.heap.size,2,none⟩ = some (.string vs) ∧ W4.drew.cell? ⟨W.heap.size,3,none⟩ = some (.int .i64 ve)):=⟨hB4.cell,p0,p1,v0,v1,v2,v3⟩
 clear hB4 p0 p1 p2 p3 p4 iR iC HI X4 hrun own9 turn tg own rel kk hne isM hge hM HP HV2 HX2 HB2 v0 v1 v2 v3 zV HK HV
 exact K12
theorem put_any (W : World) (b n : Nat) (g : Option Nat) (M : Bov) (h : Brd W b g n M) (hn : n < 1000000) (r c k nn : Int) (s : ByteArray) (e : Int) (hi : I64 nn) (hN : Nm W) :
   Calls Tryz.prog 22 #[.pointer (some ⟨b,0,none⟩),.int .i64 r,.int .i64 c,.agg #[.int .i64 k,.int .i64 nn,.string s,.int .i64 e]] W (PutQ W b n g (bset M r c (nm k nn s e))):=by
 unfold bset
 cases hb : inB r c with
 | false=>exact put_out W b n g M h r c k nn s e hb
 | true =>
   rw [if_pos rfl]
   by_cases hk : (nm k nn s e).k = 0
   · have hv : nm k nn s e = .blank:=by
       revert hk
       generalize nm k nn s e = v
       cases v <;> simp [V.k]
     rw [hv]
     cases g with
     | none=>exact put_del0 W b n M h r c k nn s e hb hv hN
     | some g=>exact put_del1 W b n g M h r c k nn s e hb hv hN
   · cases g with
     | none=>exact put_new W b n M h hn r c k nn s e hb _ rfl hk (nm_ok k nn s e hi) hN
     | some g=>exact put_set W b n g M h hn r c k nn s e hb _ rfl hk (nm_ok k nn s e hi) hN
def mStep (M : Bov) (x : Kn) : Bov:=bset M x.r x.c x.v.v
def lStep (L : List Kn) (x : Kn) : List Kn:=putL L x.r x.c x.v.v
def bM (l : List Kn) : Bov:=l.foldl mStep bz
def bL (l : List Kn) : List Kn:=l.foldl lStep []
theorem bM_snoc (l : List Kn) (x : Kn) : bM (l ++ [x]) = bset (bM l) x.r x.c x.v.v:=by unfold bM;rw [List.foldl_append];rfl
theorem bL_snoc (l : List Kn) (x : Kn) : bL (l ++ [x]) = putL (bL l) x.r x.c x.v.v:=by unfold bL;rw [List.foldl_append];rfl
theorem bL_len (l : List Kn) : (bL l).length ≤ l.length:=by
 have : ∀ (l : List Kn) (L : List Kn),(l.foldl lStep L).length ≤ L.length + l.length:=by
   intro l
   induction l with
   | nil=>intro L;exact Nat.le_refl _
   | cons x l ih =>
     intro L
     have h1:=ih (lStep L x)
     have h2:=putL_len x.r x.c x.v.v L
     unfold lStep at h1
     simp only [List.foldl_cons,List.length_cons]
     unfold lStep
     omega
 have h:=this l []
 unfold bL
 simpa using h
theorem map_not_cell {W : World} {g n o : Nat} {M : Bov} {u : Value} (h : MapB W g n M) (hu : W.cell? ⟨g,o,none⟩ = some u) : False:=by
 obtain ⟨D,⟨es,clock,hb,_⟩,_⟩:=h
 unfold World.cell? at hu
 simp only [hb] at hu
 cases hu
structure BdI (W : World) (b d : Nat) (g : Option Nat) (p : Option Addr) (c n : Nat) (M : Bov) (L : List Kn) (wr : World) : Prop where
 e : Ext W wr
 br : Brd wr b g n M
 gl : ∀ k,g = some k → W.heap.size ≤ k
 db : DBr wr d p c L
 pl : ∀ a,p = some a → d < a.block
 hb : W.heap.size ≤ b
 bd : b < d
theorem BdI.ext {W wr w' : World} {b d c n : Nat} {g : Option Nat} {p : Option Addr} {M : Bov} {L : List Kn} (h : BdI W b d g p c n M L wr) (e : Ext wr w') : BdI W b d g p c n M L w' :=
 ⟨h.e.trans e,h.br.ext e,h.gl,h.db.ext e,h.pl,h.hb,h.bd⟩
theorem Brd.notMap {W : World} {b n o : Nat} {g : Option Nat} {M : Bov} (h : Brd W b g n M) {k : Nat} {u : Value} (hu : W.cell? ⟨k,o,none⟩ = some u) : g ≠ some k:=by
 intro e
 subst e
 exact map_not_cell h.map hu
theorem BdI.put {W wr w' : World} {b d c n : Nat} {g g' : Option Nat} {p : Option Addr} {M M' : Bov} {L : List Kn} (h : BdI W b d g p c n M L wr) (hB : Brd w' b g' (n + 1) M') (hg : g' = g ∨ (g = none ∧ ∃ q,g' = some q ∧ wr.heap.size ≤ q)) (e : ExtS (fun k=>k = b ∨ g = some k) wr w') : BdI W b d g' p c (n + 1) M' L w':=by
 have hS : ∀ k,(k = b ∨ g = some k) → W.heap.size ≤ k:=fun k hk=>by
   rcases hk with rfl | hk
   · exact h.hb
   · exact h.gl k hk
 refine ⟨e.ext h.e hS,hB,fun k hk=>?_,h.db.keep e (fun hd=>?_) (fun a ha hL hd=>?_),h.pl,h.hb,h.bd⟩
 · rcases hg with hg | ⟨_,q,hq,hge⟩
   · exact h.gl k (hg ▸ hk)
   · rw [hq] at hk;cases hk;exact Nat.le_trans h.e.size hge
 · rcases hd with hd | hd
   · have:=h.bd;omega
   · exact h.br.notMap h.db.cell hd
 · rcases hd with hd | hd
   · have:=h.pl a ha;have:=h.bd;omega
   · obtain ⟨x,hx⟩ : ∃ x,L[0]? = some x:=by
       cases L with
       | nil=>exact absurd rfl hL
       | cons x l=>exact ⟨x,rfl⟩
     obtain ⟨gb,off,hp,_,hc,_⟩:=h.db.rd.at hx
     rw [hp] at ha
     cases ha
     exact h.br.notMap hc hd
theorem BdI.dput {W wr w' : World} {b d c n c' : Nat} {g : Option Nat} {p p' : Option Addr} {M : Bov} {L L' : List Kn} (h : BdI W b d g p c n M L wr) (hD : DBr w' d p' c' L') (hp : p' = p ∨ ∀ a,p' = some a → wr.heap.size ≤ a.block) (e : ExtB d wr w') : BdI W b d g p' c' n M L' w':=by
 have eS : ExtS (fun k=>k = d) wr w':=⟨e.os,e.tape,e.output,e.size,fun k hk hn=>e.block k hk hn⟩
 refine ⟨e.ext h.e (by have:=h.hb;have:=h.bd;omega),h.br.keep eS (by have:=h.bd;omega) (fun k hk hd=>by subst hd;exact h.br.notMap h.db.cell hk),h.gl,hD,fun a ha=>?_,h.hb,h.bd⟩
 rcases hp with rfl | hp
 · exact h.pl a ha
 · have:=hp a ha;have:=h.db.lt;omega
def BoQ (W : World) (l : List Kn) (e : Ending) (w' : World) : Prop:=∃ d g p c,e = .returned (.tuple #[.pointer (some ⟨W.heap.size,0,none⟩),.pointer (some ⟨d,0,none⟩)]) ∧ BdI W W.heap.size d g p c 200 (bM (l.take 200)) (bL (l.take 200)) w'
theorem boards_any (W : World) (l : List Kn) (pp : Option Addr) (n cl : Nat) (hI : RdKn W (.slice pp n cl) l) (hk : KnI l) (hN : Nm W) :
   Calls Tryz.prog 8 #[.slice pp n cl] W (BoQ W l):=by
 have hn:=hI.len
 have cN:=fun W=>new_any W
 have HI : Hid (RdKn W (.slice pp n cl) l ∧ KnI l ∧ Nm W ∧ n = l.length):=⟨hI,hk,hN,hn⟩
 clear hI hk hN hn
 go_enter func8,ntmps8
 go_wp2_with fail
 refine (cN _).mono ?_
 rintro e w0 ⟨rfl,hB0,E0⟩
 have HZ : Hid (BdI W W.heap.size w0.heap.size none none 0 0 bz [] (w0.alloc (.cells #[.slice none 0 0] 31))):=by
   refine ⟨E0.alloc _,hB0.ext (xr.alloc _),fun k hk=>(by cases hk),⟨by simp,by simp [go_sem],by simp [go_sem],RdKn.nil _,fun a ha=>(by cases ha)⟩,fun a ha=>(by cases ha),Nat.le_refl _,hB0.lt⟩
 clear hB0 E0 cN
 go_wp2_with fail
 go_loopw [6] (fun iv wr=>∃ (j : Nat) (g : Option Nat) (pd : Option Addr) (cd : Nat),iv = .int .i64 (j : Int) ∧ j ≤ n ∧ j ≤ 200 ∧ BdI W W.heap.size w0.heap.size g pd cd j (bM (l.take j)) (bL (l.take j)) wr) (fun iv _=>200 - (intOf iv).toNat)
 case atStart=>exact ⟨0,_,_,_,rfl,Nat.zero_le _,Nat.zero_le _,HZ.out⟩
 case round =>
   clear HZ
   obtain ⟨j,g,pd,cd,rfl,hj,hj2,hS⟩:=hrel
   have HB0 : Hid (BdI W W.heap.size w0.heap.size g pd cd j (bM (l.take j)) (bL (l.take j)) wr):=hS
   clear hS
   by_cases hlt : j < n
   · have hltI : (j : Int) < (n : Int):=J2
     have t1 : decide ((j : Int) < (n : Int)) = true:=by simpa using hltI
     by_cases h200 : j < 200
     · have h200I : (j : Int) < 200:=J2
       obtain ⟨x,hx⟩ : ∃ x,l[j]? = some x:=⟨_,gEq (by rw [← HI.out.2.2.2];exact hlt)⟩
       have HX : Hid (l[j]? = some x ∧ I64 x.r ∧ I64 x.c ∧ I64 x.v.n):=⟨hx,HI.out.2.1 x (List.mem_of_getElem? hx)⟩
       obtain ⟨gb,off,rfl,hgb,c0,c1,c2,c3,c4,c5⟩:=HI.out.1.at hx
       have mkS : Hid (∀ W2,Ext W W2 → (fun W2=>W2.cell? ⟨gb,off + j * 6,none⟩ = some (.int .i64 x.r) ∧ W2.cell? ⟨gb,off + j * 6 + 1,none⟩ = some (.int .i64 x.c) ∧ W2.cell? ⟨gb,off + j * 6 + 2,none⟩ = some (.int .i64 x.v.k) ∧ W2.cell? ⟨gb,off + j * 6 + 3,none⟩ = some (.int .i64 x.v.n) ∧ W2.cell? ⟨gb,off + j * 6 + 4,none⟩ = some (.string x.v.s) ∧ W2.cell? ⟨gb,off + j * 6 + 5,none⟩ = some (.int .i64 x.v.e)) W2):=fun W2 e=>by
         have k:=fun o=>e.cell.1 gb o hgb
         exact ⟨(k _).trans c0,(k _).trans c1,(k _).trans c2,(k _).trans c3,(k _).trans c4,(k _).trans c5⟩
       have cP:=fun V (g : Option Nat) (h : BdI W W.heap.size w0.heap.size g pd cd j (bM (l.take j)) (bL (l.take j)) V)=>put_any V.drew W.heap.size j g (bM (l.take j)) (h.br.ext xr.drew) J2 x.r x.c x.v.k x.v.n x.v.s x.v.e HX.out.2.2.2 (HI.out.2.2.1.ext h.e.drew)
       have HLL : Hid ((bL (l.take j)).length ≤ 1000):=by
         show _ ≤ _
         have h1:=bL_len (l.take j)
         have h2 : (l.take j).length ≤ j:=J8
         omega
       have cD:=fun V (g : Option Nat) (h : BdI W W.heap.size w0.heap.size g pd cd (j + 1) (bset (bM (l.take j)) x.r x.c x.v.v) (bL (l.take j)) V)=>dput_any V.drew w0.heap.size cd pd (bL (l.take j)) (h.db.ext xr.drew) HLL.out x.r x.c x.v.k x.v.n x.v.s x.v.e
       have HT : Hid (l.take (j + 1) = l.take j ++ [x]):=by show _ = _;rw [List.take_add_one,hx];rfl
       have HJ : Hid (j < n ∧ j < 200):=⟨hlt,h200⟩
       clear c0 c1 c2 c3 c4 c5 hgb hx hlt h200 hj hj2
       go_wp2_with fail
       refine wp_region_held_drew (S:=(fun W2=>W2.cell? ⟨gb,off + j * 6,none⟩ = some (.int .i64 x.r) ∧ W2.cell? ⟨gb,off + j * 6 + 1,none⟩ = some (.int .i64 x.c) ∧ W2.cell? ⟨gb,off + j * 6 + 2,none⟩ = some (.int .i64 x.v.k) ∧ W2.cell? ⟨gb,off + j * 6 + 3,none⟩ = some (.int .i64 x.v.n) ∧ W2.cell? ⟨gb,off + j * 6 + 4,none⟩ = some (.string x.v.s) ∧ W2.cell? ⟨gb,off + j * 6 + 5,none⟩ = some (.int .i64 x.v.e))) J3 ?_ (fun hHeld0=>?_)
       · (first | exact mkS.out _ HB0.out.e.drew | exact mkS.out _ HB1.out.e | exact mkS.out _ HB1.out.e.drew | exact mkS.out _ HB2.out.e)
       refine tkI (i:=0) (oi:=⟨some 22,.move (.tmp 4),25,"law.go:38",#[],none⟩) ?_
       try simp only [Act.put,List.setIfInBounds_toArray,List.set_cons_zero,List.set_cons_succ]
       refine tkI (i:=1) (oi:=⟨some 23,.move (.tmp 0),22,"law.go:38",#[],none⟩) ?_
       try simp only [Act.put,List.setIfInBounds_toArray,List.set_cons_zero,List.set_cons_succ]
       refine tkI (i:=2) (oi:=⟨some 24,.move (.tmp 6),3,"law.go:38",#[],none⟩) ?_
       try simp only [Act.put,List.setIfInBounds_toArray,List.set_cons_zero,List.set_cons_succ]
       refine tkI (i:=3) (oi:=⟨some 25,.indexAddr 22 (.tmp 23) (.tmp 24),0,"law.go:38",#[⟨1,.data⟩,⟨2,.data⟩],none⟩) ?_
       try simp only [Act.put,List.setIfInBounds_toArray,List.set_cons_zero,List.set_cons_succ]
       refine tkI (i:=4) (oi:=⟨some 26,.fieldAddr 35 (.tmp 25) 0,0,"law.go:38",#[⟨3,.data⟩],none⟩) ?_
       try simp only [Act.put,List.setIfInBounds_toArray,List.set_cons_zero,List.set_cons_succ]
       refine tkI (i:=5) (oi:=⟨some 27,.load 3 (.tmp 26),3,"law.go:38",#[⟨4,.data⟩],none⟩) ?_
       try simp only [Act.put,List.setIfInBounds_toArray,List.set_cons_zero,List.set_cons_succ]
       refine tkI (i:=6) (oi:=⟨some 28,.move (.tmp 0),22,"law.go:38",#[],none⟩) ?_
       try simp only [Act.put,List.setIfInBounds_toArray,List.set_cons_zero,List.set_cons_succ]
       refine tkI (i:=7) (oi:=⟨some 29,.move (.tmp 6),3,"law.go:38",#[],none⟩) ?_
       try simp only [Act.put,List.setIfInBounds_toArray,List.set_cons_zero,List.set_cons_succ]
       refine tkI (i:=8) (oi:=⟨some 30,.indexAddr 22 (.tmp 28) (.tmp 29),0,"law.go:38",#[⟨6,.data⟩,⟨7,.data⟩],none⟩) ?_
       try simp only [Act.put,List.setIfInBounds_toArray,List.set_cons_zero,List.set_cons_succ]
       refine tkI (i:=9) (oi:=⟨some 31,.fieldAddr 35 (.tmp 30) 1,0,"law.go:38",#[⟨8,.data⟩],none⟩) ?_
       try simp only [Act.put,List.setIfInBounds_toArray,List.set_cons_zero,List.set_cons_succ]
       refine tkI (i:=10) (oi:=⟨some 32,.load 3 (.tmp 31),3,"law.go:38",#[⟨9,.data⟩],none⟩) ?_
       try simp only [Act.put,List.setIfInBounds_toArray,List.set_cons_zero,List.set_cons_succ]
       refine tkI (i:=11) (oi:=⟨some 33,.move (.tmp 0),22,"law.go:38",#[],none⟩) ?_
       try simp only [Act.put,List.setIfInBounds_toArray,List.set_cons_zero,List.set_cons_succ]
       refine tkI (i:=12) (oi:=⟨some 34,.move (.tmp 6),3,"law.go:38",#[],none⟩) ?_
       try simp only [Act.put,List.setIfInBounds_toArray,List.set_cons_zero,List.set_cons_succ]
       refine tkI (i:=13) (oi:=⟨some 35,.indexAddr 22 (.tmp 33) (.tmp 34),0,"law.go:38",#[⟨11,.data⟩,⟨12,.data⟩],none⟩) ?_
       try simp only [Act.put,List.setIfInBounds_toArray,List.set_cons_zero,List.set_cons_succ]
       refine tkI (i:=14) (oi:=⟨some 36,.fieldAddr 35 (.tmp 35) 2,0,"law.go:38",#[⟨13,.data⟩],none⟩) ?_
       try simp only [Act.put,List.setIfInBounds_toArray,List.set_cons_zero,List.set_cons_succ]
       refine tkI (i:=15) (oi:=⟨some 37,.load 33 (.tmp 36),33,"law.go:38",#[⟨14,.data⟩],none⟩) ?_
       try simp only [Act.put,List.setIfInBounds_toArray,List.set_cons_zero,List.set_cons_succ]
       refine wpAnyH_ready (rs:=[16]) J3 J60 ?_
       refine AllReadyH.cons (o:=⟨some 38,.call { callee:=.value (.func 22),args:=#[.tmp 22,.tmp 27,.tmp 32,.tmp 37],argTypes:=#[25,3,3,33] },0,"law.go:38",#[⟨0,.data⟩,⟨5,.data⟩,⟨10,.data⟩,⟨15,.data⟩],none⟩) rfl (fun K hK=>?_) AllReadyH.nil
       go_simp
       refine (cP _ _ HB0.out).mono ?_;rintro e w1 ⟨rfl,g1,hB1,hg1,S1⟩;have HB1 : Hid (BdI W W.heap.size w0.heap.size g1 pd cd (j + 1) (bset (bM (l.take j)) x.r x.c x.v.v) (bL (l.take j)) w1):=(HB0.out.ext xr.drew).put hB1 hg1 S1;clear hB1 hg1 S1
       try go_wp2_with fail
       refine hK.out _ _ ?_ (fun hHeld1=>?_)
       · (try dsimp only);(first | exact mkS.out _ HB0.out.e.drew | exact mkS.out _ HB1.out.e | exact mkS.out _ HB1.out.e.drew | exact mkS.out _ HB2.out.e)
       clear hK K hHeld0
       try simp only [Act.put,List.setIfInBounds_toArray,List.set_cons_zero,List.set_cons_succ]
       refine wpAnyH_done J3 ?_ _
       go_wp2_with fail
       refine wp_region_held_drew (S:=(fun W2=>W2.cell? ⟨gb,off + j * 6,none⟩ = some (.int .i64 x.r) ∧ W2.cell? ⟨gb,off + j * 6 + 1,none⟩ = some (.int .i64 x.c) ∧ W2.cell? ⟨gb,off + j * 6 + 2,none⟩ = some (.int .i64 x.v.k) ∧ W2.cell? ⟨gb,off + j * 6 + 3,none⟩ = some (.int .i64 x.v.n) ∧ W2.cell? ⟨gb,off + j * 6 + 4,none⟩ = some (.string x.v.s) ∧ W2.cell? ⟨gb,off + j * 6 + 5,none⟩ = some (.int .i64 x.v.e))) J3 ?_ (fun hHeld0=>?_)
       · (first | exact mkS.out _ HB0.out.e.drew | exact mkS.out _ HB1.out.e | exact mkS.out _ HB1.out.e.drew | exact mkS.out _ HB2.out.e)
       refine tkI (i:=0) (oi:=⟨some 39,.move (.tmp 5),26,"law.go:39",#[],none⟩) ?_
       try simp only [Act.put,List.setIfInBounds_toArray,List.set_cons_zero,List.set_cons_succ]
       refine tkI (i:=1) (oi:=⟨some 40,.move (.tmp 0),22,"law.go:39",#[],none⟩) ?_
       try simp only [Act.put,List.setIfInBounds_toArray,List.set_cons_zero,List.set_cons_succ]
       refine tkI (i:=2) (oi:=⟨some 41,.move (.tmp 6),3,"law.go:39",#[],none⟩) ?_
       try simp only [Act.put,List.setIfInBounds_toArray,List.set_cons_zero,List.set_cons_succ]
       refine tkI (i:=3) (oi:=⟨some 42,.indexAddr 22 (.tmp 40) (.tmp 41),0,"law.go:39",#[⟨1,.data⟩,⟨2,.data⟩],none⟩) ?_
       try simp only [Act.put,List.setIfInBounds_toArray,List.set_cons_zero,List.set_cons_succ]
       refine tkI (i:=4) (oi:=⟨some 43,.fieldAddr 35 (.tmp 42) 0,0,"law.go:39",#[⟨3,.data⟩],none⟩) ?_
       try simp only [Act.put,List.setIfInBounds_toArray,List.set_cons_zero,List.set_cons_succ]
       refine tkI (i:=5) (oi:=⟨some 44,.load 3 (.tmp 43),3,"law.go:39",#[⟨4,.data⟩],none⟩) ?_
       try simp only [Act.put,List.setIfInBounds_toArray,List.set_cons_zero,List.set_cons_succ]
       refine tkI (i:=6) (oi:=⟨some 45,.move (.tmp 0),22,"law.go:39",#[],none⟩) ?_
       try simp only [Act.put,List.setIfInBounds_toArray,List.set_cons_zero,List.set_cons_succ]
       refine tkI (i:=7) (oi:=⟨some 46,.move (.tmp 6),3,"law.go:39",#[],none⟩) ?_
       try simp only [Act.put,List.setIfInBounds_toArray,List.set_cons_zero,List.set_cons_succ]
       refine tkI (i:=8) (oi:=⟨some 47,.indexAddr 22 (.tmp 45) (.tmp 46),0,"law.go:39",#[⟨6,.data⟩,⟨7,.data⟩],none⟩) ?_
       try simp only [Act.put,List.setIfInBounds_toArray,List.set_cons_zero,List.set_cons_succ]
       refine tkI (i:=9) (oi:=⟨some 48,.fieldAddr 35 (.tmp 47) 1,0,"law.go:39",#[⟨8,.data⟩],none⟩) ?_
       try simp only [Act.put,List.setIfInBounds_toArray,List.set_cons_zero,List.set_cons_succ]
       refine tkI (i:=10) (oi:=⟨some 49,.load 3 (.tmp 48),3,"law.go:39",#[⟨9,.data⟩],none⟩) ?_
       try simp only [Act.put,List.setIfInBounds_toArray,List.set_cons_zero,List.set_cons_succ]
       refine tkI (i:=11) (oi:=⟨some 50,.move (.tmp 0),22,"law.go:39",#[],none⟩) ?_
       try simp only [Act.put,List.setIfInBounds_toArray,List.set_cons_zero,List.set_cons_succ]
       refine tkI (i:=12) (oi:=⟨some 51,.move (.tmp 6),3,"law.go:39",#[],none⟩) ?_
       try simp only [Act.put,List.setIfInBounds_toArray,List.set_cons_zero,List.set_cons_succ]
       refine tkI (i:=13) (oi:=⟨some 52,.indexAddr 22 (.tmp 50) (.tmp 51),0,"law.go:39",#[⟨11,.data⟩,⟨12,.data⟩],none⟩) ?_
       try simp only [Act.put,List.setIfInBounds_toArray,List.set_cons_zero,List.set_cons_succ]
       refine tkI (i:=14) (oi:=⟨some 53,.fieldAddr 35 (.tmp 52) 2,0,"law.go:39",#[⟨13,.data⟩],none⟩) ?_
       try simp only [Act.put,List.setIfInBounds_toArray,List.set_cons_zero,List.set_cons_succ]
       refine tkI (i:=15) (oi:=⟨some 54,.load 33 (.tmp 53),33,"law.go:39",#[⟨14,.data⟩],none⟩) ?_
       try simp only [Act.put,List.setIfInBounds_toArray,List.set_cons_zero,List.set_cons_succ]
       refine wpAnyH_ready (rs:=[16]) J3 J60 ?_
       refine AllReadyH.cons (o:=⟨some 55,.call { callee:=.value (.func 27),args:=#[.tmp 39,.tmp 44,.tmp 49,.tmp 54],argTypes:=#[26,3,3,33] },0,"law.go:39",#[⟨0,.data⟩,⟨5,.data⟩,⟨10,.data⟩,⟨15,.data⟩],none⟩) rfl (fun K hK=>?_) AllReadyH.nil
       go_simp
       refine (cD _ _ HB1.out).mono ?_;rintro e w2 ⟨rfl,p2,c2,hD2,hp2,E2⟩;have HB2 : Hid (BdI W W.heap.size w0.heap.size g1 p2 c2 (j + 1) (bset (bM (l.take j)) x.r x.c x.v.v) (putL (bL (l.take j)) x.r x.c x.v.v) w2):=(HB1.out.ext xr.drew).dput hD2 hp2 E2;clear hD2 hp2 E2
       try go_wp2_with fail
       refine hK.out _ _ ?_ (fun hHeld1=>?_)
       · (try dsimp only);(first | exact mkS.out _ HB0.out.e.drew | exact mkS.out _ HB1.out.e | exact mkS.out _ HB1.out.e.drew | exact mkS.out _ HB2.out.e)
       clear hK K hHeld0
       try simp only [Act.put,List.setIfInBounds_toArray,List.set_cons_zero,List.set_cons_succ]
       refine wpAnyH_done J3 ?_ _
       go_wp2_with fail
       go_roundw
       case rel=>exact ⟨j + 1,_,_,_,by go_num,HJ.out.1,HJ.out.2,by rw [HT.out,bM_snoc,bL_snoc];exact HB2.out⟩
       case measure=>exact (by show 200 - ((j : Int) + 1).toNat < 200 - ((j : Int)).toNat;have:=HJ.out;omega)
     · have h200I : ¬ (j : Int) < 200:=J2
       have HE : Hid (l.take j = l.take 200 ∧ j ≤ 200):=⟨by rw [show j = 200 by omega],hj2⟩
       clear hlt h200 hj hj2
       exact K99
   · have hltI : ¬ (j : Int) < (n : Int):=J2
     have t1 : decide ((j : Int) < (n : Int)) = false:=by simpa using hltI
     have HE : Hid (l.take j = l.take 200 ∧ j ≤ 200):=by
       have h1:=HI.out.2.2.2
       exact ⟨by rw [List.take_of_length_le J2,List.take_of_length_le J2],hj2⟩
     clear hlt hj hj2
     exact K99
end Go.Proofs.YtcfgbiaahangmaaGreatDoor

import Derived.Test.YtcfgbiaahangmaaGreatDoorB18
import Derived.Laws.IdiomStrings
import Derived.OwnWalk
set_option maxHeartbeats 4000000
set_option maxRecDepth 100000
namespace Go.Proofs.YtcfgbiaahangmaaGreatDoor
open Go.Proofs.Tryz
open Go.RowKit
theorem badT (s : List (V × Bool)) (x : V × Bool) : bad truF (s ++ [x]) = if (bad truF s).k = 4 then bad truF s else if (truF x.1 x.2).k = 4 then truF x.1 x.2 else .blank:=bad_app truF s [x]
theorem badT_keep (s : List (V × Bool)) (x : V × Bool) (h : (truF x.1 x.2).k ≠ 4 ∨ (bad truF s).k = 4) : bad truF (s ++ [x]) = bad truF s:=by
 rw [badT]
 rcases bad_kind truF s with k | k
 · rcases h with h | h
   · rw [k,if_neg J9,if_neg h]
   · rw [if_pos h]
 · rw [if_pos k]
structure Tru (W : World) (s : List (V × Bool)) (V' : World) : Prop where
 e : Ext W V'
 w : Blk V' (W.heap.size + 1) (.int .i64 (bad truF s).k) (.int .i64 (bad truF s).n) (.string (bad truF s).s) (.int .i64 (bad truF s).e)
 z : Blk V' W.heap.size (.int .i64 0) (.int .i64 0) (.string ⟨#[]⟩) (.int .i64 0)
theorem Tru.ext {W : World} {s : List (V × Bool)} {V1 V2 : World} (h : Tru W s V1) (e : Ext V1 V2) : Tru W s V2:=⟨h.e.trans e,h.w.ext e,h.z.ext e⟩
theorem Tru.same {W : World} {s : List (V × Bool)} {V1 V2 : World} (h : Tru W s V1) (e : Ext V1 V2) (x : V × Bool) (hk : (truF x.1 x.2).k ≠ 4 ∨ (bad truF s).k = 4) : Tru W (s ++ [x]) V2:=by
 have hb:=badT_keep s x hk
 obtain ⟨a,f,g⟩:=h.ext e
 exact ⟨a,by rw [hb];exact f,g⟩
theorem Tru.err {W : World} {s : List (V × Bool)} {V1 V2 : World} (h : Tru W s V1) (e : Ext V1 V2) (x : V × Bool) (y : V) (hy : truF x.1 x.2 = y) (hk : y.k = 4) (hb4 : (bad truF s).k ≠ 4) : Tru W (s ++ [x]) (put4 V2 (W.heap.size + 1) (.int .i64 y.k) (.int .i64 y.n) (.string y.s) (.int .i64 y.e)):=by
 subst hy
 have hb : bad truF (s ++ [x]) = truF x.1 x.2:=by rw [badT,if_neg hb4,if_pos hk]
 obtain ⟨a,f,g⟩:=h.ext e
 refine ⟨?_,?_,?_⟩
 · exact (((a.setCell J58 _).setCell J58 _).setCell J58 _).setCell J58 _
 · rw [hb];exact f.set _ _ _ _
 · exact g.far J2 _ _ _ _
structure CatS (W : World) (s : List (V × Bool)) (ov : Value) (V' : World) : Prop where
 e : Ext W V'
 o : V'.ownsRow (W.heap.size + 1) 5 1 ov (allC (got texF s)).length (Lib.byteCells (allC (got texF s)))
 f : ∃ g cap,ov = .slice (some ⟨g,0,none⟩) (allC (got texF s)).length cap
 z : Blk V' W.heap.size (.int .i64 0) (.int .i64 0) (.string ⟨#[]⟩) (.int .i64 0)
 b : bad texF s = .blank
 l : (allC (got texF s)).length ≤ 300 * s.length
theorem CatS.ext {W : World} {s : List (V × Bool)} {ov : Value} {V1 V2 : World} (h : CatS W s ov V1) (e : Ext V1 V2) : CatS W s ov V2 :=
 ⟨h.e.trans e,ownsRow_ext h.o e,h.f,h.z.ext e,h.b,h.l⟩
theorem CatS.conv {W : World} {s : List (V × Bool)} {ov : Value} {V1 : World} (h : CatS W s ov V1) : (convert 189 9 ov).run Tryz.prog V1 = .ok (.string (bs (allC (got texF s)))) V1:=by
 obtain ⟨g,cap,rfl⟩:=h.f
 exact run_convert_bytes_back V1 189 9 5 ⟨g,0,none⟩ cap _ Tryz.underlying189 Tryz.underlying5 Tryz.underlying9 (fun j hj=>h.o.cells (g:=g) rfl j _ (by rw [gEq (by rw [Lib.byteCells_length];exact hj)];simp [Lib.byteCells]))
theorem bad_ok {f : V → Bool → V} (hf : ∀ v a,v.ok → (f v a).ok) {l : List (V × Bool)} (h : OkS l) : (bad f l).ok:=by
 induction l with
 | nil=>trivial
 | cons p l ih =>
   unfold bad
   split
   · exact hf _ _ (h p J58)
   · exact ih (fun q hq=>h q (by simp [hq]))
theorem orBad_ok {b v : V} (hb : b.ok) (hv : v.ok) : (orBad b v).ok:=by unfold orBad;split <;> assumption
theorem toldR_ok (b : Bool) (n : Int) (h : I64 n) : (toldR b n).ok:=by
 unfold toldR
 split
 · exact mkNum_ok n h
 · exact K78
theorem best_i (p : Int → Int → Bool) (l : List V) (b : Int) (hb : I64 b) (h : ∀ v ∈ l,I64 v.n) : I64 (bestF p b l):=by
 induction l generalizing b with
 | nil=>exact hb
 | cons v l ih =>
   show I64 (bestF p (if p v.n b then v.n else b) l)
   refine ih _ ?_ (fun u hu=>h u (by simp [hu]))
   split
   · exact h v J58
   · exact hb
theorem bestN_i (p : Int → Int → Bool) (l : List V) (h : ∀ v ∈ l,I64 v.n) : I64 (bestN p l):=by
 cases l with
 | nil=>exact I64.z
 | cons v l=>exact best_i p l v.n (h v J58) (fun u hu=>h u (by simp [hu]))
theorem AllN.i {l : List V} (h : AllN l) : ∀ v ∈ l,I64 v.n:=fun v hv=>by obtain ⟨n,rfl,h1,_⟩:=h v hv;exact h1
theorem toldV_i (x : Int) : I64 (toldV x):=by
 unfold toldV
 split
 · unfold sg64
   exact K129
 · exact I64.z
theorem meanV_i (x n : Int) : I64 (meanV x n):=by
 unfold meanV
 split
 · rename_i h
   unfold meanB at h
   simp at h
   have h0 : 0 ≤ meanQ x n:=by
     unfold meanQ
     apply Int.ediv_nonneg
     · have : 0 ≤ absI x:=J73
       omega
     · omega
   split <;> exact ⟨by omega,by omega⟩
 · exact I64.z
theorem floorV_i (a : Int) (_ : I64 a) : I64 (floorV a):=by
 unfold floorV subV
 split
 · split
   · rename_i h2
     unfold subB fitB at h2
     simp at h2
     exact K129
   · exact I64.z
 · exact I64.z
theorem rootV_i (a : Int) (h : I64 a) : I64 (rootV a):=by
 unfold rootV
 split
 · have hr:=rt_is (a.toNat * 10000)
   have h1 : rtN (a.toNat * 10000) ≤ 9223372036854775807:=by
     rcases Nat.lt_or_ge 9223372036854775807 (rtN (a.toNat * 10000)) with h2 | h2
     · have h3:=hr.1
       have h4 : 9223372036854775808 * 9223372036854775808 ≤ rtN (a.toNat * 10000) * rtN (a.toNat * 10000):=Nat.mul_le_mul h2 h2
       obtain ⟨i1,i2⟩:=h
       omega
     · exact h2
   exact K129
 · exact I64.z
theorem sgnV_i (b : Bool) (n : Nat) : I64 (sgnV b n):=by
 unfold sgnV
 split
 · rename_i h
   unfold sgnB at h
   simp at h
   split <;> exact ⟨by omega,by omega⟩
 · exact I64.z
theorem rndV_i (a d : Int) (h : I64 a) : I64 (rndV a d):=by
 unfold rndV
 split
 · split
   · exact h
   · split
     · exact I64.z
     · exact sgnV_i _ _
 · exact I64.z
theorem modV_i (a b : Int) (_ : I64 a) (hb : I64 b) : I64 (modV a b):=by
 unfold modV
 split
 · rename_i h
   have hb0 : b ≠ 0:=by unfold modB at h;simp at h;exact h.2
   have hf:=fm_bd a b hb0
   obtain ⟨i1,i2⟩:=hb
   exact K129
 · exact I64.z
theorem Fit.ok {W : World} {v : Value} {gs : List Ag} (h : Fit W v gs) : (fSum gs).ok ∧ (fCount gs).ok ∧ (∀ p,(fBest p gs).ok) ∧ (fMean gs).ok ∧ (∀ b,(fTruth b gs).ok) ∧ (fCat gs).ok:=by
 have hs:=seen_ok gs h.i
 have hb:=bad_ok numF_okk hs
 have hi:=(got_nums _ hs).i
 have hl:=h.num
 refine ⟨orBad_ok hb (toldR_ok _ _ (toldV_i _)),mkNum_ok _ ⟨by omega,by omega⟩,fun p=>orBad_ok hb (mkNum_ok _ (bestN_i p _ hi)),orBad_ok hb ?_,fun b=>orBad_ok (bad_ok truF_okk hs) ?_,orBad_ok (bad_ok texF_okk hs) (mkText_ok _)⟩
 · split
   · exact K78
   · exact toldR_ok _ _ (meanV_i _ _)
 · split
   · exact K78
   · trivial
theorem ok_n {v : V} (h : v.ok) : I64 v.n:=(nm_of v h).2
theorem neg_ok {v : V} (h : v.ok) : v.neg.ok:=by
 unfold V.neg
 rcases toNum_cases v h with ⟨m,e,⟨i1,i2⟩,cm⟩ | ⟨x,e,hx⟩
 · rw [e]
   have i3 : m ≠ -9223372036854775808:=by simpa [canB] using cm
   exact ⟨⟨by omega,by omega⟩,by simp [canB];omega⟩
 · rw [e];exact hx
theorem reckon_ok (op x y : Int) : (reckon op x y).ok:=by
 unfold reckon
 split
 · refine toldR_ok _ _ ?_
   unfold addV
   split
   · rename_i h;unfold addB fitB at h;simp at h;exact ⟨by omega,by omega⟩
   · exact I64.z
 · split
   · refine toldR_ok _ _ ?_
     unfold subV
     split
     · rename_i h;unfold subB fitB at h;simp at h;exact ⟨by omega,by omega⟩
     · exact I64.z
   · split
     · refine toldR_ok _ _ ?_
       unfold mulV
       split
       · exact sgnV_i _ _
       · exact I64.z
     · split
       · exact K78
       · refine toldR_ok _ _ ?_
         unfold divV
         split
         · exact sgnV_i _ _
         · exact I64.z
theorem arith_ok (op : Int) {a b : V} (ha : a.ok) (hb : b.ok) : (arith op a b).ok:=by
 unfold arith
 split
 · rcases toNum_cases a ha with ⟨m,e,_⟩ | ⟨x,e,hx⟩
   · rcases toNum_cases b hb with ⟨m',e',_⟩ | ⟨x',e',hx'⟩
     · rw [e,e'];exact reckon_ok op m m'
     · rw [e,e'];exact hx'
   · rw [e];exact hx
 · exact K78
theorem join_ok {a b : V} (ha : a.ok) (hb : b.ok) : (join a b).ok:=by
 have h1:=toText_ok a ha
 have h2:=toText_ok b hb
 unfold join
 generalize a.toText = x at *
 generalize b.toText = y at *
 cases x <;> cases y <;> first | exact mkText_ok _ | exact h1 | exact h2 | trivial
theorem cmpE_ok {a b : V} (ha : a.ok) (hb : b.ok) : (cmpE a b).ok:=by cases a <;> cases b <;> first | exact ha | exact hb | trivial
theorem bin_ok (s : List UInt8) {a b : V} (ha : a.ok) (hb : b.ok) : (binV s a b).ok:=by
 unfold binV
 split
 · exact arith_ok _ ha hb
 · split
   · exact join_ok ha hb
   · unfold cmpS
     split
     · exact cmpE_ok ha hb
     · trivial
theorem fits_ok {gs : List Ag} (hi : AgI gs) (h : (seen gs).length ≤ 10000000000) : (fSum gs).ok ∧ (fCount gs).ok ∧ (∀ p,(fBest p gs).ok) ∧ (fMean gs).ok ∧ (∀ b,(fTruth b gs).ok) ∧ (fCat gs).ok:=by
 have hs:=seen_ok gs hi
 have hb:=bad_ok numF_okk hs
 have hj:=(got_nums _ hs).i
 have hl : (got numF (seen gs)).length ≤ 10000000000:=Nat.le_trans (got_len _ _) h
 refine ⟨orBad_ok hb (toldR_ok _ _ (toldV_i _)),mkNum_ok _ ⟨by omega,by omega⟩,fun p=>orBad_ok hb (mkNum_ok _ (bestN_i p _ hj)),orBad_ok hb ?_,fun b=>orBad_ok (bad_ok truF_okk hs) ?_,orBad_ok (bad_ok texF_okk hs) (mkText_ok _)⟩
 · split
   · exact K78
   · exact toldR_ok _ _ (meanV_i _ _)
 · split
   · exact K78
   · trivial
theorem sg_ok {l : List Bg} (hi : AgI (gsOf l)) (i : Nat) : (sg l i).ok:=by
 unfold sg
 cases hx : l[i]? with
 | none=>exact ⟨by decide,by decide⟩
 | some a =>
   show (sgl a).ok
   unfold sgl
   split
   · exact K78
   · have:=hi a.g (by unfold gsOf;exact List.mem_map.2 ⟨a,List.mem_of_getElem? hx,rfl⟩)
     exact K159
theorem rw_n {v : V} (h : v.ok) : I64 v.rw.n:=ok_n h
theorem nuR_i {v : V} (h : v.ok) {n : Int} (e : nuR v = .ok n) : I64 n ∧ canB n = true:=by
 unfold nuR at e
 rcases toNum_cases v h with ⟨m,e',h1,h2⟩ | ⟨x,e',hx⟩
 · rw [e'] at e
   cases e
   exact ⟨h1,h2⟩
 · rw [e'] at e;cases e
theorem tolR_n {b : Bool} {n : Int} (h : I64 n) {r : Rw} (e : (tolR b n).map V.rw = .ok r) : I64 r.n:=by
 cases b with
 | true=>cases e;exact rw_n (mkNum_ok n h)
 | false=>cases e
theorem xcall_n {s : List UInt8} {l : List Bg} (hi : AgI (gsOf l)) (h : (seen (gsOf l)).length ≤ 10000000000) {r : Rw} (e : xCall s l = .ok r) : I64 r.n:=by
 obtain ⟨f1,f2,f3,f4,f5,f6⟩:=fits_ok hi h
 unfold xCall at e
 by_cases h0 : s = [83,85,77]
 · rw [if_pos h0] at e
   cases e;exact rw_n f1
 rw [if_neg h0] at e
 by_cases h1 : s = [67,79,85,78,84]
 · rw [if_pos h1] at e
   cases e;exact rw_n f2
 rw [if_neg h1] at e
 by_cases h2 : s = [77,73,78]
 · rw [if_pos h2] at e
   cases e;exact rw_n (f3 _)
 rw [if_neg h2] at e
 by_cases h3 : s = [77,65,88]
 · rw [if_pos h3] at e
   cases e;exact rw_n (f3 _)
 rw [if_neg h3] at e
 by_cases h4 : s = [65,86,69,82,65,71,69]
 · rw [if_pos h4] at e
   cases e;exact rw_n f4
 rw [if_neg h4] at e
 by_cases h5 : s = [65,78,68]
 · rw [if_pos h5] at e
   cases e;exact rw_n (f5 _)
 rw [if_neg h5] at e
 by_cases h6 : s = [79,82]
 · rw [if_pos h6] at e
   cases e;exact rw_n (f5 _)
 rw [if_neg h6] at e
 by_cases h7 : s = [67,79,78,67,65,84]
 · rw [if_pos h7] at e
   cases e;exact rw_n f6
 rw [if_neg h7] at e
 by_cases h8 : s = [73,70]
 · rw [if_pos h8] at e
   unfold xIf at e
   split at e
   · cases e
   · split at e
     · cases e;exact rw_n (sg_ok hi 1)
     · split at e
       · cases e;exact rw_n (v:=.tf false) trivial
       · cases e;exact rw_n (sg_ok hi 2)
 rw [if_neg h8] at e
 by_cases h9 : s = [78,79,84]
 · rw [if_pos h9] at e
   unfold xNot at e
   split at e
   · cases e
   · cases e;exact rw_n (v:=.tf _) trivial
 rw [if_neg h9] at e
 by_cases h10 : s = [65,66,83]
 · rw [if_pos h10] at e
   unfold xAbs at e
   split at e
   · cases e
   · rename_i n hn
     obtain ⟨⟨i1,i2⟩,c⟩:=nuR_i (sg_ok hi 0) hn
     cases e
     have h3 : n ≠ -9223372036854775808:=by simpa [canB] using c
     exact rw_n (mkNum_ok _ (by unfold szN;split <;> exact ⟨by omega,by omega⟩))
 rw [if_neg h10] at e
 by_cases h11 : s = [82,79,85,78,68]
 · rw [if_pos h11] at e
   unfold xRound at e
   split at e
   · cases e
   · rename_i a ha
     split at e
     · cases e
     · exact tolR_n (rndV_i _ _ (nuR_i (sg_ok hi 0) ha).1) e
 rw [if_neg h11] at e
 by_cases h12 : s = [77,79,68]
 · rw [if_pos h12] at e
   unfold xMod at e
   split at e
   · cases e
   · rename_i a ha
     split at e
     · cases e
     · rename_i b hb
       split at e
       · cases e
       · exact tolR_n (modV_i _ _ (nuR_i (sg_ok hi 0) ha).1 (nuR_i (sg_ok hi 1) hb).1) e
 rw [if_neg h12] at e
 by_cases h13 : s = [70,76,79,79,82]
 · rw [if_pos h13] at e
   unfold xFloor at e
   split at e
   · cases e
   · rename_i a ha
     exact tolR_n (floorV_i _ (nuR_i (sg_ok hi 0) ha).1) e
 rw [if_neg h13] at e
 by_cases h14 : s = [83,81,82,84]
 · rw [if_pos h14] at e
   unfold xSqrt at e
   split at e
   · cases e
   · rename_i a ha
     exact tolR_n (rootV_i _ (nuR_i (sg_ok hi 0) ha).1) e
 rw [if_neg h14] at e
 by_cases h15 : s = [76,69,78]
 · rw [if_pos h15] at e
   unfold xLen at e
   split at e
   · cases e
   · rename_i t ht
     cases e
     have hz : t.size ≤ 300:=by
       have:=toText_ok _ (sg_ok hi 0)
       unfold teR at ht
       generalize (sg l 0).toText = u at *
       cases u <;> simp at ht
       all_goals subst ht
       all_goals first | exact this | (show (⟨#[]⟩ : ByteArray).size ≤ 300;decide)
     exact rw_n (mkNum_ok _ ⟨by omega,by omega⟩)
 rw [if_neg h15] at e
 by_cases h16 : s = [76,69,70,84]
 · rw [if_pos h16] at e
   unfold xLeft at e
   split at e
   · cases e
   · split at e
     · cases e
     · split at e
       · cases e
       · cases e;exact rw_n (mkText_ok _)
 rw [if_neg h16] at e
 by_cases h17 : s = [73,78,68,69,88]
 · rw [if_pos h17] at e
   unfold xIndex at e
   split at e
   · cases e
   · split at e
     · cases e
     · split at e
       · rename_i b hb
         unfold pkR at e
         split at e
         · cases e
         · split at e
           · cases e
           · split at e
             · rename_i r' hr'
               cases e
               have hm:=List.mem_of_getElem? hr'
               unfold arOf at hm
               split at hm
               · exact hi b.g (by unfold gsOf;exact List.mem_map.2 ⟨b,List.mem_of_getElem? hb,rfl⟩) _ hm
               · simp at hm
                 rw [hm]
                 have:=sg_ok hi 0
                 unfold sg at this
                 rw [hb] at this
                 exact rw_n this
             · cases e
       · cases e
 rw [if_neg h17] at e
 by_cases h18 : s = [73,83,69,82,82,79,82]
 · rw [if_pos h18] at e
   cases e;exact rw_n (v:=.tf _) trivial
 rw [if_neg h18] at e
 by_cases h19 : s = [73,70,69,82,82,79,82]
 · rw [if_pos h19] at e
   unfold xIfErr at e
   split at e
   · cases e;exact rw_n (sg_ok hi 1)
   · cases e;exact rw_n (sg_ok hi 0)
 rw [if_neg h19] at e
 cases e
theorem fn_ok (s : List UInt8) {l : List Bg} (hi : AgI (gsOf l)) (h : (seen (gsOf l)).length ≤ 10000000000) : (fnV s l).ok:=by
 unfold fnV
 split
 · cases e : xCall s l with
   | error x=>exact mkErr_ok x
   | ok r=>exact nm_ok _ _ _ _ (xcall_n hi h e)
 · exact K78
theorem knB_20 (s : List UInt8) : knB s ≤ 20:=by
 have : ∀ p,kno s = some p → p.2 ≤ 20:=by
   intro p hk
   unfold kno at hk
   by_cases h1 : s ∈ kn1
   · rw [if_pos h1] at hk;cases hk;decide
   rw [if_neg h1] at hk
   by_cases h2 : s ∈ kn2
   · rw [if_pos h2] at hk;cases hk;decide
   rw [if_neg h2] at hk
   by_cases h3 : s ∈ kn3
   · rw [if_pos h3] at hk;cases hk;decide
   rw [if_neg h3] at hk
   by_cases h4 : s ∈ kn4
   · rw [if_pos h4] at hk;cases hk;decide
   rw [if_neg h4] at hk
   by_cases h5 : s ∈ kn5
   · rw [if_pos h5] at hk;cases hk;decide
   rw [if_neg h5] at hk
   cases hk
 unfold knB
 cases hk : kno s with
 | none=>decide
 | some p =>
   have:=this p hk
   show (p.2 : Int) ≤ 20
   omega
theorem rect_le {r q : Rf} (h : inB r.1 r.2.1 = true) (g : inB q.1 q.2.1 = true) :
   1 ≤ mnI r.1 q.1 ∧ mnI r.1 q.1 ≤ mxI r.1 q.1 ∧ mxI r.1 q.1 ≤ 1000 ∧ 1 ≤ mnI r.2.1 q.2.1 ∧ mnI r.2.1 q.2.1 ≤ mxI r.2.1 q.2.1 ∧ mxI r.2.1 q.2.1 ≤ 52:=by
 simp [inB] at h g
 unfold mnI mxI
 split <;> split <;> split <;> split <;> omega
theorem argA_len (M : Bov) (p q u v : Int) (h : p ≤ u ∧ q ≤ v) : ((argA M p q u v).g.l.length : Int) = (u - p + 1) * (v - q + 1):=by
 show ((areA M p q (v - q + 1).toNat (u - p + 1).toNat).length : Int) = _
 rw [areA_len,Int.natCast_mul,Int.toNat_of_nonneg J2,Int.toNat_of_nonneg J2]
theorem argR_len (M : Bov) {r q : Rf} (h : inB r.1 r.2.1 = true) (g : inB q.1 q.2.1 = true) : (argR M r q).g.l.length ≤ 52000:=by
 obtain ⟨h1,h2,h3,h4,h5,h6⟩:=rect_le h g
 have:=argA_len M (mnI r.1 q.1) (mnI r.2.1 q.2.1) (mxI r.1 q.1) (mxI r.2.1 q.2.1) ⟨h2,h5⟩
 have hm : (mxI r.1 q.1 - mnI r.1 q.1 + 1) * (mxI r.2.1 q.2.1 - mnI r.2.1 q.2.1 + 1) ≤ 1000 * 52:=Int.mul_le_mul J2 J2 J2 J2
 unfold argR
 omega
def argOk (n : Nat) (M : Bov) (x : T) : Prop:=AgI [(argX n M x).g] ∧ (argX n M x).g.l.length ≤ 52000 ∧ I64 (argX n M x).rows ∧ I64 (argX n M x).cols
theorem args_seen {l : List Bg} (h : ∀ b ∈ l,b.g.l.length ≤ 52000) (hl : l.length ≤ 20) : (seen (gsOf l)).length ≤ 10000000000:=by
 have : ∀ l : List Bg,(∀ b ∈ l,b.g.l.length ≤ 52000) → (seen (gsOf l)).length ≤ l.length * 52001:=by
   intro l
   induction l with
   | nil=>intro _;exact Nat.le_refl _
   | cons b l ih =>
     intro h
     have h1:=ih (fun x hx=>h x (by simp [hx]))
     have h2:=h b J58
     have e : seen (gsOf (b :: l)) = seen1 b.g ++ seen (gsOf l):=by simp [seen,gsOf]
     have h3 : (seen1 b.g).length ≤ 52000:=by unfold seen1;split <;> simp;omega
     rw [e,List.length_append,List.length_cons,Nat.succ_mul]
     omega
 have:=this l h
 have : l.length * 52001 ≤ 20 * 52001:=Nat.mul_le_mul hl nrf
 omega
theorem argX_ok {n : Nat} {M : Bov} (hM : BdOk M) {x : T} (hw : x.k = 5 → inB x.r.1 x.r.2.1 = true ∧ inB x.q.1 x.q.2.1 = true) (hv : x.k ≠ 5 → (evT n M x).ok) : argOk n M x:=by
 unfold argOk argX
 split
 · rename_i hk
   obtain ⟨h1,h2⟩:=hw hk
   obtain ⟨r1,r2,r3,r4,r5,r6⟩:=rect_le h1 h2
   refine ⟨fun g hg=>?_,argR_len M h1 h2,?_,?_⟩
   · simp at hg
     subst hg
     intro r hr
     obtain ⟨r',c',e⟩:=areA_mem _ _ _ _ _ _ hr
     rw [e]
     exact rw_n (hM.v _ _)
   · show I64 (mxI x.r.1 x.q.1 - mnI x.r.1 x.q.1 + 1);exact ⟨by omega,by omega⟩
   · show I64 (mxI x.r.2.1 x.q.2.1 - mnI x.r.2.1 x.q.2.1 + 1);exact ⟨by omega,by omega⟩
 · rename_i hk
   refine ⟨fun g hg=>?_,(by show 1 ≤ 52000;decide),I64.z,I64.z⟩
   simp at hg
   subst hg
   intro r hr
   simp [argV] at hr
   subst hr
   exact rw_n (hv hk)
theorem evT_ok {M : Bov} (hM : BdOk M) (n : Nat) : ∀ t,Wf t → wellT n t = true → (evT n M t).ok:=by
 induction n with
 | zero=>intro t _ h;cases h
 | succ n ih =>
   intro t hW hw
   have hx : ∀ x ∈ t.l,Wf x:=by cases hW;assumption
   have hn : I64 t.n:=by cases hW;assumption
   unfold wellT at hw
   unfold evT
   by_cases h0 : t.k = 0
   · rw [if_pos h0];exact mkNum_ok _ hn
   rw [if_neg h0] at hw ⊢
   by_cases h1 : t.k = 1
   · rw [if_pos h1];exact mkText_ok _
   rw [if_neg h1] at hw ⊢
   by_cases h2 : t.k = 2
   · rw [if_pos h2];trivial
   rw [if_neg h2] at hw ⊢
   by_cases h3 : t.k = 3
   · rw [if_pos h3];exact mkErr_ok _
   rw [if_neg h3] at hw ⊢
   by_cases h4 : t.k = 4
   · rw [if_pos h4];exact hM.v _ _
   rw [if_neg h4] at hw ⊢
   by_cases h6 : t.k = 6
   · rw [if_pos h6] at hw ⊢
     simp at hw
     split
     · rename_i x l e
       exact neg_ok (ih x (hx x J53) (hw.2 x J53))
     · trivial
   rw [if_neg h6] at hw ⊢
   by_cases h7 : t.k = 7
   · rw [if_pos h7] at hw ⊢
     simp at hw
     split
     · rename_i x y l e
       exact bin_ok _ (ih x (hx x J53) (hw.2 x J53)) (ih y (hx y J53) (hw.2 y J53))
     · trivial
   rw [if_neg h7] at hw ⊢
   by_cases h8 : t.k = 8
   · rw [if_pos h8] at hw
     simp at hw
     obtain ⟨⟨⟨_,_⟩,hB⟩,hall⟩:=hw
     have hB':=knB_20 t.s
     have hA : ∀ x ∈ t.l,argOk n M x:=fun x hm=>argX_ok hM
       (fun hk=>by have:=hall x hm;rw [if_pos hk] at this;simpa using this)
       (fun hk=>by have:=hall x hm;rw [if_neg hk] at this;exact ih x (hx x hm) this)
     refine fn_ok _ (fun g hg=>?_) (args_seen (fun b hb=>?_) J7)
     · unfold gsOf at hg
       simp at hg
       obtain ⟨x,hm,e⟩:=hg
       exact (hA x hm).1 g (by rw [← e];simp [argX])
     · simp at hb
       obtain ⟨x,hm,e⟩:=hb
       rw [← e]
       exact (hA x hm).2.1
   rw [if_neg h8] at hw
   cases hw
theorem grownE {W W' : World} (h : W.grownBy W' none) : Ext W W':=⟨h.os,h.tape,h.output,h.size,fun k hk=>h.block k hk J58⟩
theorem own_make {TS T : TypeId} {k bytes : Nat} (hT : Elt TS T k bytes) {ops : Array Oper} {rest : List Oper} {o : Oper} {a : Act} {Q : Exit → Act → World → Prop} (W : World) (l c : Operand) (C : Int) (n base : Nat) (hg : o.guard = none) (hop : o.op = Op.makeSlice TS l c)
   (hl : a.eval l = .int .i64 0) (hc : a.eval c = .int .i64 C) (hC : C = (n : Int)) (b2 : bytes * n ≤ 281474976710656) (b3 : n ≤ maxLen) (b4 : base ≤ W.heap.size)
   (h : ∀ W',W'.ownsRow base T k (.slice (some ⟨W.heap.size,0,none⟩) 0 n) 0 [] → Ext W W' → wpList Tryz.prog ops Q rest (a.put o.dst (.slice (some ⟨W.heap.size,0,none⟩) 0 n)) W') : wpList Tryz.prog ops Q (o :: rest) a W:=by
 obtain ⟨i,z,hi,hz,h1,h2,h3⟩:=hT.i
 refine wpList_make_own W hg l c TS hop base T i z k hT.u hi hz h1 .i64 .i64 C n hl hc hC (by rw [h2];exact b2) b3 b4 ?_
 intro w' r1 r2
 exact h w' r1 (grownE r2)
structure ArS (W : World) (B0 RB RC : Nat) (p q u v : Int) (l : List Rw) (ov : Value) (wr : World) : Prop where
 e : Ext W wr
 o : wr.ownsRow B0 33 4 ov l.length (l.flatMap cV)
 rb : Blk wr RB (.bool false) (.int .i64 0) (.int .i64 0) (.slice none 0 0)
 rc : Blk wr RC (.int .i64 p) (.int .i64 q) (.int .i64 u) (.int .i64 v)
 b0 : W.heap.size ≤ RB
 b1 : RB < B0
 b2 : RC < B0
 b3 : W.heap.size ≤ B0
 b4 : B0 ≤ wr.heap.size
theorem ArS.ext {W wr w' : World} {B0 RB RC : Nat} {p q u v : Int} {l : List Rw} {ov : Value} (h : ArS W B0 RB RC p q u v l ov wr) (e : Ext wr w') : ArS W B0 RB RC p q u v l ov w' :=
 ⟨h.e.trans e,ownsRow_ext h.o e,h.rb.ext e,h.rc.ext e,h.b0,h.b1,h.b2,h.b3,Nat.le_trans h.b4 e.size⟩
theorem ars_app {ops : Array Oper} {rest : List Oper} {o : Oper} {a : Act} {Q : Exit → Act → World → Prop} (W wr WA : World) (B0 RB RC : Nat) (p q u v : Int) (s x : Operand) (ov : Value) (l : List Rw) (r : Rw) (g : Nat) (hgd : o.guard = none)
   (ho : o.op = .call { callee:=.builtin .append,args:=#[s,x],argTypes:=#[111,111] }) (hs : a.eval s = ov) (hx : a.eval x = .slice (some ⟨g,0,none⟩) 1 1)
   (hc : Blk WA g (.int .i64 r.k) (.int .i64 r.n) (.string r.s) (.int .i64 r.e)) (h : ArS W B0 RB RC p q u v l ov wr) (e : Ext wr WA) (hl : l.length ≤ 100000) (N : Nat) (hN : l.length = N)
   (K : ∀ pv c W',ArS W B0 RB RC p q u v (l ++ [r]) (.slice pv (N + 1) c) W' → wpList Tryz.prog ops Q rest (a.put o.dst (.slice pv (N + 1) c)) W') :
   wpList Tryz.prog ops Q (o :: rest) a WA:=by
 subst hN
 have h':=h.ext e
 refine own_app2 eltV WA W s x ov _ l.length 1 (l.flatMap cV) (cV r) B0 hgd ho hs hx h'.o ⟨rfl,_,_,rfl,.inr ⟨_,rfl,?_⟩⟩ ?_ J28 J2 h'.e h'.b3 h'.b4 ?_
 · intro j y hj
   obtain ⟨_,⟨k0,k1,k2,k3⟩,_⟩:=hc
   match j,hj with
   | 0,hj=>simp [cV] at hj;subst hj;simpa [Addr.add] using k0
   | 1,hj=>simp [cV] at hj;subst hj;simpa [Addr.add] using k1
   | 2,hj=>simp [cV] at hj;subst hj;simpa [Addr.add] using k2
   | 3,hj=>simp [cV] at hj;subst hj;simpa [Addr.add] using k3
   | j + 4,hj=>simp [cV] at hj
 · intro y hy
   simp [cV] at hy
   rcases hy with rfl | rfl | rfl | rfl <;> rfl
 · intro v' W' k1 k2 k3 k4
   obtain ⟨pv,c,rfl,_⟩:=own_form k1
   have hfar : ∀ b,b < B0 → ov.ownBlock ≠ some b:=fun b hb hq=>by have:=(h'.o.lt b hq).1;omega
   refine K pv c W' ⟨k2,?_,h'.rb.grown k3 (hfar _ h'.b1),h'.rc.grown k3 (hfar _ h'.b2),h.b0,h.b1,h.b2,h.b3,Nat.le_trans h'.b4 k3.size⟩
   rw [List.flatMap_append,List.length_append]
   simpa using k1
theorem rcD_is {a0 a1 b0 b1 : Int} (h : inB a0 a1 = true) (g : inB b0 b1 = true) : rcD a0 a1 b0 b1 = .agg #[.int .i64 (mnI a0 b0),.int .i64 (mnI a1 b1),.int .i64 (mxI a0 b0),.int .i64 (mxI a1 b1)]:=by
 unfold rcD rcB
 rw [h,g]
 rfl
theorem earea_any (W : World) (b n : Nat) (g : Option Nat) (M : Bov) (h : Brd W b g n M) (r0 r1 q0 q1 : Int) (rx ry qx qy : Bool) (hr : inB r0 r1 = true) (hq : inB q0 q1 = true) :
   Calls Tryz.prog 102 #[.pointer (some ⟨b,0,none⟩),.agg #[.int .i64 r0,.int .i64 r1,.bool rx,.bool ry],.agg #[.int .i64 q0,.int .i64 q1,.bool qx,.bool qy]] W fun e w' =>
     ∃ lv,e = .returned (.agg #[.bool true,.int .i64 (argR M (r0,r1,rx,ry) (q0,q1,qx,qy)).rows,.int .i64 (argR M (r0,r1,rx,ry) (q0,q1,qx,qy)).cols,lv]) ∧ RdV w'.heap.size w' lv (argR M (r0,r1,rx,ry) (q0,q1,qx,qy)).g.l ∧ (∀ k,lv.ownBlock = some k → W.heap.size ≤ k ∧ k < w'.heap.size) ∧ Ext W w':=by
 have cR:=fun W=>rect_any r0 r1 q0 q1 rx ry qx qy W
 rw [rcD_is hr hq] at cR
 obtain ⟨h1,h2,h3,h4,h5,h6⟩:=rect_le (r:=(r0,r1,rx,ry)) (q:=(q0,q1,qx,qy)) hr hq
 simp only at h1 h2 h3 h4 h5 h6
 unfold argR argA
 simp only
 generalize mnI r0 q0 = p at *
 generalize mnI r1 q1 = q at *
 generalize mxI r0 q0 = u at *
 generalize mxI r1 q1 = v at *
 have cA:=fun W=>area_any p q u v W
 obtain ⟨RN,hRN⟩ : ∃ RN : Nat,(u - p + 1).toNat = RN:=⟨_,rfl⟩
 obtain ⟨CN,hCN⟩ : ∃ CN : Nat,(v - q + 1).toNat = CN:=⟨_,rfl⟩
 have hu : u = p + RN - 1:=J2
 have hv : v = q + CN - 1:=J2
 have hRC : RN * CN ≤ 52000:=by
   have : RN * CN ≤ 1000 * 52:=Nat.mul_le_mul J2 J2
   omega
 have hca : areaR p q u v = ((RN * CN : Nat) : Int):=by
   have : canR p q u v = true:=by unfold canR inB;simp;omega
   unfold areaR
   rw [this,if_pos rfl,Int.natCast_mul]
   have e1 : u - p + 1 = (RN : Int):=J2
   have e2 : v - q + 1 = (CN : Int):=J2
   rw [e1,e2]
 rw [hca] at cA
 rw [hRN,hCN]
 have HB : Hid (Brd W b g n M):=h
 have HN : Hid (u = p + RN - 1 ∧ v = q + CN - 1 ∧ RN * CN ≤ 52000 ∧ 1 ≤ p ∧ u ≤ 1000 ∧ 1 ≤ q ∧ v ≤ 52):=⟨hu,hv,hRC,by omega,by omega,by omega,by omega⟩
 clear h hr hq hu hv hRC hca hRN hCN h1 h2 h3 h4 h5 h6
 go_enter func102,ntmps102
 go_wp2_with fail
 refine (cR _).mono ?_
 rintro e w1 ⟨rfl,E1⟩
 have X1 : Hid (Ext W w1):=(((xr.alloc _).alloc _).alloc _).trans E1
 have D1:=blk_top (b:=W.heap.size + 1 + 1) J58 E1
 clear E1
 go_wp2_with fail
 refine (cA _).mono ?_
 rintro e w2 ⟨rfl,E2⟩
 have X2 : Hid (Ext W w2):=(X1.out.alloc _).trans E2
 have D2 : Hid (Blk w2 (W.heap.size + 1 + 1) (.bool false) (.int .i64 0) (.int .i64 0) (.slice none 0 0)):=(D1.al _).ext E2
 have D3 : Hid (Blk w2 w1.heap.size (.int .i64 p) (.int .i64 q) (.int .i64 u) (.int .i64 v)):=blk_top (b:=w1.heap.size) rfl E2
 clear E2 D1 X1 cR cA
 obtain ⟨RC,hRC⟩ : ∃ RC,w1.heap.size = RC:=⟨_,rfl⟩
 rw [hRC] at D3 ⊢
 obtain ⟨RB,hRB⟩ : ∃ RB,W.heap.size + 1 + 1 = RB:=⟨_,rfl⟩
 rw [hRB] at D2 ⊢
 have HRB : Hid (W.heap.size ≤ RB ∧ W.heap.size ≤ w2.heap.size):=⟨by omega,X2.out.size⟩
 clear hRB hRC
 go_wp2_with (at_make;refine own_make eltV _ _ _ _ (RN * CN) w2.heap.size rfl rfl J25 J25 J25 (by have:=HN.out;omega) (by unfold maxLen;have:=HN.out;omega) nrf ?_;intro w3 O3 E3;have HS : Hid (ArS W w2.heap.size RB RC p q u v [] (.slice (some ⟨w2.heap.size,0,none⟩) 0 (RN * CN)) w3):=⟨X2.out.trans E3,O3,D2.out.ext E3,D3.out.ext E3,HRB.out.1,D2.out.1,D3.out.1,HRB.out.2,E3.size⟩;clear O3;obtain ⟨_,⟨c0,c1,c2,c3⟩,_⟩:=HS.out.rc;clear E3)
 obtain ⟨B0,hB0⟩ : ∃ B0,w2.heap.size = B0:=⟨_,rfl⟩
 rw [hB0] at HS ⊢
 clear hB0 HRB D2 D3 X2
 go_loopw [9,8] (fun iv ov wr=>∃ (i : Nat) (pv : Option Addr) (nv cv : Nat),iv = .int .i64 (p + (i : Int)) ∧ ov = .slice pv nv cv ∧ i ≤ RN ∧ ArS W B0 RB RC p q u v (areA M p q CN i) (.slice pv nv cv) wr) (fun iv _ _=>RN - (intOf iv - p).toNat)
 case atStart=>exact ⟨0,_,_,_,by simp,rfl,Nat.zero_le _,HS.out⟩
 case round =>
   clear c0 c1 c2 c3 HS
   obtain ⟨i,pv,nv,cv,rfl,rfl,hi,hS⟩:=hrel
   have HS : Hid (ArS W B0 RB RC p q u v (areA M p q CN i) (.slice pv nv cv) wr):=hS
   obtain ⟨_,⟨c0,c1,c2,c3⟩,_⟩:=HS.out.rc
   clear hS
   by_cases hlt : i < RN
   · have hle : p + (i : Int) ≤ u:=by have:=HN.out;omega
     have WI : Hid (wrap64 (p + (i : Int) + 1) = p + ((i + 1 : Nat) : Int)):=by show _ = _;unfold wrap64;have:=HN.out;omega
     have HI : Hid (i < RN):=hlt
     clear hlt hi
     go_wp2_with fail
     generalize wr = wo at *
     go_loopw [10,8] (fun jv ov w3=>∃ (j : Nat) (pv : Option Addr) (nv cv : Nat),jv = .int .i64 (q + (j : Int)) ∧ ov = .slice pv nv cv ∧ j ≤ CN ∧ ArS W B0 RB RC p q u v (areA M p q CN i ++ rowA M (p + (i : Int)) q j) (.slice pv nv cv) w3) (fun jv _ _=>CN - (intOf jv - q).toNat)
     case atStart=>exact ⟨0,_,_,_,by simp,rfl,Nat.zero_le _,by show ArS W B0 RB RC p q u v (areA M p q CN i ++ []) _ _;rw [List.append_nil];exact HS.out⟩
     case round =>
       clear c0 c1 c2 c3 HS
       obtain ⟨j,pv,nv,cv,rfl,rfl,hj,hS⟩:=hrel
       have HS : Hid (ArS W B0 RB RC p q u v (areA M p q CN i ++ rowA M (p + (i : Int)) q j) (.slice pv nv cv) wr):=hS
       obtain ⟨_,⟨c0,c1,c2,c3⟩,_⟩:=HS.out.rc
       clear hS
       by_cases hlt : j < CN
       · have hlj : q + (j : Int) ≤ v:=by have:=HN.out;omega
         have WJ : Hid (wrap64 (q + (j : Int) + 1) = q + ((j + 1 : Nat) : Int)):=by show _ = _;unfold wrap64;have:=HN.out;omega
         have HJ : Hid (j < CN):=hlt
         have cG:=fun W' (e : Ext W W')=>get_any W' b n g M (HB.out.ext e) (p + (i : Int)) (q + (j : Int)) (by have:=HN.out;have:=HI.out;exact ⟨by omega,by omega⟩) (by have:=HN.out;have:=HJ.out;exact ⟨by omega,by omega⟩)
         have HM : Hid (rowA M (p + (i : Int)) q (j + 1) = rowA M (p + (i : Int)) q j ++ [(M (p + (i : Int)) (q + (j : Int))).rw]):=rowA_snoc M _ j q
         have HL : Hid ((areA M p q CN i ++ rowA M (p + (i : Int)) q j).length ≤ 100000):=by
           show _ ≤ _
           rw [List.length_append,areA_len,rowA_len]
           have h1 : i * CN ≤ RN * CN:=Nat.mul_le_mul (Nat.le_of_lt HI.out) nrf
           have:=HN.out
           omega
         obtain ⟨N6,hN6⟩ : ∃ N6,(areA M p q CN i ++ rowA M (p + (i : Int)) q j).length = N6:=⟨_,rfl⟩
         have HN6 : Hid ((areA M p q CN i ++ rowA M (p + (i : Int)) q j).length = N6):=hN6
         clear hN6
         simp only [dat_eq] at cG
         generalize M (p + (i : Int)) (q + (j : Int)) = vv at *
         obtain ⟨vk,vn,vs,ve,hvv⟩ : ∃ vk vn vs ve,vv.k = vk ∧ vv.n = vn ∧ vv.s = vs ∧ vv.e = ve:=⟨_,_,_,_,rfl,rfl,rfl,rfl⟩
         have HV : Hid (vv.k = vk ∧ vv.n = vn ∧ vv.s = vs ∧ vv.e = ve):=hvv
         obtain ⟨q1,q2,q3,q4⟩:=hvv
         rw [q1,q2,q3,q4] at cG
         clear q1 q2 q3 q4 hlt hj
         go_wp2_with fail
         refine (cG _ HS.out.e).mono ?_
         rintro e w5 ⟨rfl,E5⟩
         have X5 : Hid (Ext wr w5):=E5
         clear E5 c0 c1 c2 c3 cG
         go_wp2_with (at_builtin;refine ars_app W wr _ B0 RB RC p q u v _ _ _ _ ⟨vk,vn,vs,ve⟩ w5.heap.size rfl rfl J25 J25 (blk_top rfl xr) HS.out (X5.out.alloc _) HL.out N6 HN6.out ?_;intro pv6 c6 w6 h6;have H6 : Hid (ArS W B0 RB RC p q u v (areA M p q CN i ++ rowA M (p + (i : Int)) q (j + 1)) (.slice pv6 (N6 + 1) c6) w6):=(by show ArS _ _ _ _ _ _ _ _ _ _ _;rw [HM.out,← List.append_assoc];obtain ⟨q1,q2,q3,q4⟩:=HV.out;unfold V.rw;rw [q1,q2,q3,q4];exact h6);clear h6)
         go_roundw
         case rel=>exact ⟨j + 1,_,_,_,by rw [WJ.out],rfl,HJ.out,H6.out⟩
         case measure =>
           rw [WJ.out]
           show CN - (q + ((j + 1 : Nat) : Int) - q).toNat < CN - (q + (j : Int) - q).toNat
           have:=HJ.out
           omega
       · have hlj : ¬ q + (j : Int) ≤ v:=by have:=HN.out;omega
         have HJ : Hid (j = CN):=by show _ = _;omega
         clear hlt hj
         go_wp2_with fail
         go_roundw
         case rel=>exact ⟨i + 1,_,_,_,by rw [WI.out],rfl,HI.out,by rw [areA_snoc];have hS:=HS.out;rw [HJ.out] at hS;exact hS⟩
         case measure =>
           rw [WI.out]
           show RN - (p + ((i + 1 : Nat) : Int) - p).toNat < RN - (p + (i : Int) - p).toNat
           have:=HI.out
           omega
   · have hle : ¬ p + (i : Int) ≤ u:=by have:=HN.out;omega
     have HI : Hid (i = RN):=by show _ = _;omega
     obtain ⟨_,⟨d0,d1,d2,d3⟩,e0,e1,e2,e3⟩:=HS.out.rb
     have w1' : wrap64 (u - p) = u - p:=by unfold wrap64;have:=HN.out;omega
     have w2' : wrap64 (u - p + 1) = u - p + 1:=by unfold wrap64;have:=HN.out;omega
     have w3' : wrap64 (v - q) = v - q:=by unfold wrap64;have:=HN.out;omega
     have w4' : wrap64 (v - q + 1) = v - q + 1:=by unfold wrap64;have:=HN.out;omega
     clear hlt hi
     go_wp2_with fail
     have hb0:=HS.out.b0
     have hfar : ∀ b,b < B0 → (Value.slice pv nv cv).ownBlock ≠ some b:=fun b hb hq=>by have:=(HS.out.o.lt b hq).1;omega
     have hO:=HS.out.o
     have hO1:=own_far (o:=0) (u:=.bool true) hO (hfar _ HS.out.b1)
     have hO2:=own_far (o:=1) (u:=.int .i64 (u - p + 1)) hO1 (hfar _ HS.out.b1)
     have hO3:=own_far (o:=2) (u:=.int .i64 (v - q + 1)) hO2 (hfar _ HS.out.b1)
     have hO4:=own_far (o:=3) (u:=.slice pv nv cv) hO3 (hfar _ HS.out.b1)
     refine finB (HS.out.rb.set _ _ _ _) rfl ((((HS.out.e.setCell hb0 _).setCell hb0 _).setCell hb0 _).setCell hb0 _) (fun g0 g1 g2 g3=>by simp [results,results102,go_sem,g0,g1,g2,g3]) (fun h=>⟨_,rfl,?_,fun k hk=>⟨by have h5:=(HS.out.o.lt k hk).1;have h6:=HS.out.b3;omega,by simpa [World.setCell] using (HS.out.o.lt k hk).2⟩,h⟩)
     rw [HI.out] at hO4
     exact own_rdV hO4
structure DBr (W : World) (d : Nat) (p : Option Addr) (c : Nat) (L : List Kn) : Prop where
 lt : d < W.heap.size
 cell : W.cell? ⟨d,0,none⟩ = some (.slice p L.length c)
 fz : W.frozen? ⟨d,0,none⟩ = false
 rd : RdKn W (.slice p L.length c) L
 far : ∀ a,p = some a → a.block < W.heap.size ∧ a.block ≠ d
theorem DBr.ext {W W' : World} {d c : Nat} {p : Option Addr} {L : List Kn} (h : DBr W d p c L) (e : Ext W W') : DBr W' d p c L :=
 ⟨llL h.lt e.size,(e.cell.1 d 0 h.lt).trans h.cell,(e.cell.2 d 0 h.lt).trans h.fz,h.rd.ext e,fun a ha=>⟨llL (h.far a ha).1 e.size,(h.far a ha).2⟩⟩
theorem DBr.keep {W W' : World} {d c : Nat} {p : Option Addr} {L : List Kn} (h : DBr W d p c L) {S : Nat → Prop} (e : ExtS S W W') (hd : ¬ S d) (hp : ∀ a,p = some a → L ≠ [] → ¬ S a.block) : DBr W' d p c L:=by
 have k:=cell_of_heap (e.block d h.lt hd) 0
 exact ⟨llL h.lt e.size,k.1.trans h.cell,k.2.trans h.fz,h.rd.keep e.size (fun a ha hL=>e.block _ (h.far a ha).1 (hp a ha hL)),fun a ha=>⟨llL (h.far a ha).1 e.size,(h.far a ha).2⟩⟩
theorem at_step {r c : Int} {x : Kn} {l : List Kn} (h1 : isAt x r c = false) (h2 : aft x r c = false) : atI r c (x :: l) = atI r c l + 1 ∧ atB r c (x :: l) = atB r c l:=by
 constructor
 · rw [atI,h1,h2];rfl
 · rw [atB,h1,h2];rfl
theorem at_here {r c : Int} {x : Kn} {l : List Kn} (h1 : isAt x r c = true) : atI r c (x :: l) = 0 ∧ atB r c (x :: l) = true:=by
 constructor
 · rw [atI,h1];rfl
 · rw [atB,h1];rfl
theorem at_past {r c : Int} {x : Kn} {l : List Kn} (h1 : isAt x r c = false) (h2 : aft x r c = true) : atI r c (x :: l) = 0 ∧ atB r c (x :: l) = false:=by
 constructor
 · rw [atI,h1,h2];rfl
 · rw [atB,h1,h2];rfl
theorem drop_at {L : List Kn} {i : Nat} {x : Kn} (h : L[i]? = some x) : L.drop i = x :: L.drop (i + 1):=by
 obtain ⟨hi,rfl⟩:=List.getElem?_eq_some_iff.1 h
 exact List.drop_eq_getElem_cons hi
theorem at_any (W : World) (d cp : Nat) (p : Option Addr) (L : List Kn) (h : DBr W d p cp L) (hl : L.length ≤ 100000) (r c : Int) :
   Calls Tryz.prog 32 #[.pointer (some ⟨d,0,none⟩),.int .i64 r,.int .i64 c] W fun e w'=>e = .returned (.tuple #[.int .i64 (atI r c L),.bool (atB r c L)]) ∧ Ext W w':=by
 obtain ⟨n,hn⟩ : ∃ n,L.length = n:=⟨_,rfl⟩
 have HD : Hid (DBr W d p cp L ∧ L.length = n):=⟨h,hn⟩
 have hn2 : n ≤ 100000:=J2
 have dc:=h.cell
 rw [hn] at dc
 clear h hl hn
 go_enter func32,ntmps32
 go_wp2_with fail
 go_loopw [8] (fun iv wr=>∃ i : Nat,iv = .int .i64 (i : Int) ∧ i ≤ n ∧ atI r c L = i + atI r c (L.drop i) ∧ atB r c L = atB r c (L.drop i) ∧ Ext W wr) (fun iv _=>n - (intOf iv).toNat)
 case atStart=>exact ⟨0,rfl,Nat.zero_le _,by simp,rfl,Ext.refl _⟩
 case round =>
   obtain ⟨i,rfl,hi,h1,h2,hE⟩:=hrel
   have HA : Hid (atI r c L = i + atI r c (L.drop i) ∧ atB r c L = atB r c (L.drop i) ∧ Ext W wr):=⟨h1,h2,hE⟩
   have dc:=(hE.cell.1 d 0 HD.out.1.lt).trans dc
   clear h1 h2 hE
   by_cases hlt : i < n
   · have hltI : (i : Int) < (n : Int):=J2
     obtain ⟨x,hx⟩ : ∃ x,L[i]? = some x:=⟨_,gEq (by rw [HD.out.2];exact hlt)⟩
     have hrd:=HD.out.1.rd.ext HA.out.2.2
     rw [HD.out.2] at hrd
     obtain ⟨gb,off,rfl,hgb,c0,c1,c2,c3,c4,c5⟩:=hrd.at hx
     have HX : Hid (L.drop i = x :: L.drop (i + 1)):=drop_at hx
     have HI : Hid (i < n):=hlt
     have WI : Hid (wrap64 ((i : Int) + 1) = ((i + 1 : Nat) : Int)):=by show _ = _;unfold wrap64;omega
     clear hrd hx hlt
     by_cases hr : x.r = r
     · have t1 : (x.r == r) = true:=by simpa using hr
       have g1 : decide (x.r > r) = false:=J7
       by_cases hc : x.c = c
       · have t2 : (x.c == c) = true:=J62
         have HL : Hid (isAt x r c = true):=(isAt_iff _ _ _).2 ⟨hr,hc⟩
         clear hr hc g1
         go_wp2_with fail
         go_ret2
         refine ⟨?_,HA.out.2.2.alloc _⟩
         rw [HA.out.1,HA.out.2.1,HX.out,(at_here HL.out).1,(at_here HL.out).2]
         rfl
       · have t2 : (x.c == c) = false:=J62
         have HL : Hid (isAt x r c = false):=(isAt_no _ _ _).2 (fun h=>hc h.2)
         by_cases hg : x.c > c
         · have g2 : decide (x.c > c) = true:=by simpa using hg
           have HM : Hid (aft x r c = true):=(aft_iff _ _ _).2 (.inr ⟨hr,hg⟩)
           have hg3 : x.c > c:=hg
           have hr3 : ¬ x.r > r:=J2
           clear hr hc hg
           exact K104
         · have g2 : decide (x.c > c) = false:=by simpa using hg
           have HM : Hid (aft x r c = false):=(aft_no _ _ _).2 J2
           have hr3 : ¬ x.r > r:=J2
           have hg3 : ¬ x.c > c:=hg
           clear hr hc hg
           exact K67
     · have t1 : (x.r == r) = false:=by simpa using hr
       have HL : Hid (isAt x r c = false):=(isAt_no _ _ _).2 (fun h=>hr h.1)
       by_cases hg : x.r > r
       · have g1 : decide (x.r > r) = true:=by simpa using hg
         have HM : Hid (aft x r c = true):=(aft_iff _ _ _).2 (.inl hg)
         clear hr
         exact K104
       · have g1 : decide (x.r > r) = false:=by simpa using hg
         have HM : Hid (aft x r c = false):=(aft_no _ _ _).2 J2
         clear hr
         exact K67
   · have hltI : ¬ (i : Int) < (n : Int):=J2
     have HJ : Hid (i = n):=by show _ = _;omega
     clear hlt
     go_wp2_with fail
     go_ret2
     refine ⟨?_,HA.out.2.2⟩
     have h0 : L.drop i = []:=List.drop_eq_nil_of_le (by rw [HD.out.2,HJ.out];exact Nat.le_refl _)
     rw [HA.out.1,HA.out.2.1,h0,HJ.out]
     rfl
theorem dget_no (W : World) (d cp : Nat) (p : Option Addr) (L : List Kn) (h : DBr W d p cp L) (hl : L.length ≤ 100000) (r c : Int) (hb : atB r c L = false) :
   Calls Tryz.prog 11 #[.pointer (some ⟨d,0,none⟩),.int .i64 r,.int .i64 c] W fun e w'=>e = .returned (.agg #[.int .i64 0,.int .i64 0,.string ⟨#[]⟩,.int .i64 0]) ∧ Ext W w':=by
 have c3:=fun W' (e : Ext W W')=>at_any W' d cp p L (h.ext e) hl r c
 rw [hb] at c3
 generalize atI r c L = i at *
 clear h hl hb
 go_enter func11,ntmps11
 go_wp2_with fail
 refine (c3 _ (xr.alloc _)).mono ?_
 rintro e w1 ⟨rfl,E1⟩
 have X1 : Hid (Ext W w1):=(xr.alloc _).trans E1
 have D:=blk_top (b:=W.heap.size) J58 E1
 have D':=D
 obtain ⟨b0z,⟨b0_0,b0_1,b0_2,b0_3⟩,b0f0,b0f1,b0f2,b0f3⟩:=D'
 clear E1 c3
 exact K88
theorem dget_yes (W : World) (d cp : Nat) (p : Option Addr) (L : List Kn) (h : DBr W d p cp L) (hl : L.length ≤ 100000) (r c : Int) (hb : atB r c L = true) (x : Kn) (hx : L[atI r c L]? = some x) :
   Calls Tryz.prog 11 #[.pointer (some ⟨d,0,none⟩),.int .i64 r,.int .i64 c] W fun e w'=>e = .returned (.agg #[.int .i64 x.v.k,.int .i64 x.v.n,.string x.v.s,.int .i64 x.v.e]) ∧ Ext W w':=by
 have c3:=fun W' (e : Ext W W')=>at_any W' d cp p L (h.ext e) hl r c
 rw [hb] at c3
 have hlt:=atB_lt hb
 generalize atI r c L = i at *
 obtain ⟨n,hn⟩ : ∃ n,L.length = n:=⟨_,rfl⟩
 have HD : Hid (DBr W d p cp L ∧ L.length = n ∧ L[i]? = some x):=⟨h,hn,hx⟩
 have hltI : (i : Int) < (n : Int):=J2
 have hn2 : n ≤ 100000:=J2
 clear h hl hb hx hlt hn
 go_enter func11,ntmps11
 go_wp2_with fail
 refine (c3 _ (xr.alloc _)).mono ?_
 rintro e w1 ⟨rfl,E1⟩
 have X1 : Hid (Ext W w1):=(xr.alloc _).trans E1
 have D:=blk_top (b:=W.heap.size) J58 E1
 have D':=D
 obtain ⟨b0z,⟨b0_0,b0_1,b0_2,b0_3⟩,b0f0,b0f1,b0f2,b0f3⟩:=D'
 have dc:=(HD.out.1.ext X1.out).cell
 have hrd:=(HD.out.1.ext X1.out).rd
 rw [HD.out.2.1] at dc hrd
 obtain ⟨gb,off,rfl,hgb,c0,c1,c2,c3',c4,c5⟩:=hrd.at HD.out.2.2
 clear E1 c3 hrd
 exact K88
theorem dget_any (W : World) (d cp : Nat) (p : Option Addr) (L : List Kn) (h : DBr W d p cp L) (hl : L.length ≤ 100000) (r c : Int) :
   Calls Tryz.prog 11 #[.pointer (some ⟨d,0,none⟩),.int .i64 r,.int .i64 c] W fun e w'=>e = .returned (.agg #[.int .i64 (getL L r c).k,.int .i64 (getL L r c).n,.string (getL L r c).s,.int .i64 (getL L r c).e]) ∧ Ext W w':=by
 unfold getL
 cases hb : atB r c L with
 | false=>exact dget_no W d cp p L h hl r c hb
 | true =>
   have hx:=gEq (atB_lt hb)
   rw [hx]
   exact dget_yes W d cp p L h hl r c hb _ hx
theorem wpList_sl {P : Program} (w : World) {ops : Array Oper} {rest : List Oper} {o : Oper} {a : Act} {Q : Exit → Act → World → Prop} (hg : o.guard = none) (x : Operand) (t : TypeId) (lo hi : Option Operand) (hop : o.op = Op.slice t x lo hi none)
   (xv v : Value) (lv hv : Option Value) (hx : a.eval x = xv) (hl : lo.map a.eval = lv) (hh : hi.map a.eval = hv) (hrun : (Instr.sliceAt t xv lv hv none).run P w = .ok v w) (hK : wpList P ops Q rest (a.put o.dst v) w) : wpList P ops Q (o :: rest) a w:=by
 refine wpList_plain hg fun K' hK'=>?_
 unfold Oper.wp
 simp [execOp,hop,hx,hl,hh,hrun,Result.andThen]
 exact hK' _ _ hK
theorem elemK : Tryz.prog.elem 22 = 35:=J3
theorem sizeK (w : World) : (sizeOf 35).run Tryz.prog w = .ok 6 w:=J3
theorem RdKn.sub {W : World} {p : Option Addr} {n c : Nat} {l : List Kn} (h : RdKn W (.slice p n c) l) (i j : Nat) (hij : i ≤ j) (hj : j ≤ l.length) : RdKn W (.slice (if c = i then p else p.map (·.add (i * 6))) (j - i) (c - i)) ((l.take j).drop i):=by
 have hl : ((l.take j).drop i).length = j - i:=J7
 have hnc : n ≤ c:=by obtain ⟨p',c',h1,h2,_⟩:=h;cases h1;exact h2
 have hn:=h.len
 by_cases hc : c = i
 · have h0 : (l.take j).drop i = []:=List.eq_nil_of_length_eq_zero (by rw [hl];omega)
   rw [if_pos hc]
   exact ⟨p,c - i,by rw [hl],by rw [hl];omega,.inl h0⟩
 · rw [if_neg hc]
   cases p with
   | none =>
     obtain ⟨p',c',h1,h2,h3⟩:=h
     cases h1
     rcases h3 with h3 | ⟨b,off,h4,_⟩
     · exact ⟨none,c - i,by rw [hl];rfl,by rw [hl];omega,.inl (by rw [h3];simp)⟩
     · cases h4
   | some a =>
     obtain ⟨p',c',h1,h2,h3⟩:=h
     cases h1
     rcases h3 with h3 | ⟨b,off,h4,h5,h6⟩
     · exact ⟨_,c - i,by rw [hl],by rw [hl];omega,.inl (by rw [h3];simp)⟩
     · cases h4
       have:=RdKn.part (W:=W) (b:=b) (off:=off) (n:=l.length) (c:=c) (l:=l) ⟨_,c,rfl,h2,.inr ⟨b,off,rfl,h5,h6⟩⟩ i j hij hj
       simp only [Option.map_some,Addr.add_lit]
       exact this
theorem sl_lo (p : Option Addr) (n c i : Nat) (h : i ≤ n) : ∃ p',(∀ w,(Instr.sliceAt 22 (.slice p n c) (some (.int .i64 (i : Int))) none none).run Tryz.prog w = .ok (.slice p' (n - i) (c - i)) w) ∧ (∀ W l,RdKn W (.slice p n c) l → RdKn W (.slice p' (n - i) (c - i)) (l.drop i)):=by
 refine ⟨if c = i then p else p.map (·.add (i * 6)),fun w=>?_,fun W l hr=>?_⟩
 · have hu : Tryz.prog.underlying 22 = some (.slice (Tryz.prog.elem 22)):=by rw [elemK];exact Tryz.underlying22
   rw [run_sliceAt_slice _ _ _ _ _ _ hu,run_slice_l _ _ _ _ _ hu .i64 (i : Int) J2 J2,elemK,sizeK]
   simp [Result.andThen,sliced]
 · have hn:=hr.len
   have:=hr.sub i l.length J2 nrf
   rw [List.take_length,← hn] at this
   exact this
theorem sl_hi (p : Option Addr) (n c i : Nat) (h : i ≤ n) (hc : n ≤ c) : ∃ p',(∀ w,(Instr.sliceAt 22 (.slice p n c) none (some (.int .i64 (i : Int))) none).run Tryz.prog w = .ok (.slice p' i c) w) ∧ (∀ W l,RdKn W (.slice p n c) l → RdKn W (.slice p' i c) (l.take i)):=by
 refine ⟨if c = 0 then p else p.map (·.add (0 * 6)),fun w=>?_,fun W l hr=>?_⟩
 · have hu : Tryz.prog.underlying 22 = some (.slice (Tryz.prog.elem 22)):=by rw [elemK];exact Tryz.underlying22
   rw [run_sliceAt_slice _ _ _ _ _ _ hu,run_slice_h _ _ _ _ _ hu .i64 (i : Int) J2 J2,elemK,sizeK]
   simp [Result.andThen,sliced]
 · have hn:=hr.len
   have:=hr.sub 0 i J2 J2
   simpa using this
def DPut (W : World) (d : Nat) (L : List Kn) (e : Ending) (w' : World) : Prop :=
 e = .returned (.tuple #[]) ∧ ∃ p c,DBr w' d p c L ∧ (∀ a,p = some a → W.heap.size ≤ a.block) ∧ ExtB d W w'
theorem top6 {W : World} {x : Kn} {T : TypeId} : ∀ j u,(cK x)[j]? = some u → (W.alloc (.cells #[.int .i64 x.r,.int .i64 x.c,.int .i64 x.v.k,.int .i64 x.v.n,.string x.v.s,.int .i64 x.v.e] T)).cell? ⟨W.heap.size,j,none⟩ = some u:=by
 intro j u hu
 match j,hu with
 | 0,hu=>simp [cK] at hu;subst hu;simp [go_sem]
 | 1,hu=>simp [cK] at hu;subst hu;simp [go_sem]
 | 2,hu=>simp [cK] at hu;subst hu;simp [go_sem]
 | 3,hu=>simp [cK] at hu;subst hu;simp [go_sem]
 | 4,hu=>simp [cK] at hu;subst hu;simp [go_sem]
 | 5,hu=>simp [cK] at hu;subst hu;simp [go_sem]
 | j + 6,hu=>simp [cK] at hu
theorem Ext.Bd {d : Nat} {W w : World} (h : Ext W w) (u : Value) : ExtB d W (w.setCell ⟨d,0,none⟩ u):=by
 refine (h.toB d).trans ⟨rfl,rfl,rfl,by simp [World.setCell],fun k _ hk=>?_⟩
 exact Below.heap_setCell _ _ _ _ hk
theorem dput_end {W w : World} {d cp base n : Nat} {p : Option Addr} {L L' : List Kn} {v : Value} (hD : DBr W d p cp L) (e : Ext W w) (o : w.ownsRow base 35 6 v n (L'.flatMap cK)) (hn : n = L'.length) (hb : W.heap.size ≤ base) :
   DPut W d L' (.returned (.tuple #[])) (w.setCell ⟨d,0,none⟩ v):=by
 subst hn
 have hD':=hD.ext e
 obtain ⟨p',c',rfl,hc⟩:=own_form o
 have hfar : ∀ a,p' = some a → base ≤ a.block ∧ a.block < w.heap.size:=fun a ha=>by
   subst ha
   exact o.lt a.block rfl
 have hne : ∀ a,p' = some a → a.block ≠ d:=fun a ha h=>by have:=(hfar a ha).1;have:=hD.lt;omega
 refine ⟨rfl,p',c',⟨by simpa [World.setCell] using hD'.lt,wSa _ ⟨d,0,none⟩ _ (by rw [hD'.cell]),by rw [wFz];exact hD'.fz,?_,fun a ha=>⟨by simpa [World.setCell] using (hfar a ha).2,hne a ha⟩⟩,fun a ha=>Nat.le_trans hb (hfar a ha).1,e.Bd _⟩
 exact (own_rdK o rfl).keep (by simp [World.setCell]) (fun a ha _=>Below.heap_setCell _ _ _ _ (hne a ha))
theorem own_newK {T : TypeId} {k b : Nat} (w W : World) (hb : b = W.heap.size) (h : w.heap.size ≤ W.heap.size) : (W.alloc (.cells #[] T)).ownsRow w.heap.size T k (.slice (some ⟨b,0,none⟩) 0 0) 0 []:=by subst hb;exact own_new w W h
theorem kn_app {ops : Array Oper} {rest : List Oper} {o : Oper} {a : Act} {Q : Exit → Act → World → Prop} (W WA : World) (s x : Operand) (ov va : Value) (l m : List Kn) (N K base : Nat) (hgd : o.guard = none)
   (ho : o.op = .call { callee:=.builtin .append,args:=#[s,x],argTypes:=#[22,22] }) (hs : a.eval s = ov) (hx : a.eval x = va) (hN : l.length = N) (hK : m.length = K)
   (hB : WA.ownsRow base 35 6 ov N (l.flatMap cK)) (hR : RdKn WA va m) (e : Ext W WA) (hb : W.heap.size ≤ base) (hb2 : base ≤ WA.heap.size) (hl : N + K ≤ 10000)
   (h : ∀ pv c W',W'.ownsRow base 35 6 (.slice pv (N + K) c) (N + K) ((l ++ m).flatMap cK) → Ext W W' → WA.grownBy W' ov.ownBlock → wpList Tryz.prog ops Q rest (a.put o.dst (.slice pv (N + K) c)) W') :
   wpList Tryz.prog ops Q (o :: rest) a WA:=by
 subst hN hK
 refine own_app eltK WA W s x ov va l.length m.length (l.flatMap cK) (m.flatMap cK) base hgd ho hs hx hB hR.row (cK_one m) J28 J2 e hb hb2 ?_
 intro v' W' k1 k2 k3
 obtain ⟨pv,c,rfl,_⟩:=own_form k1
 refine h pv c W' ?_ k2 k3
 rw [List.flatMap_append]
 exact k1
theorem RdKn.one {W : World} {g : Nat} {x : Kn} (hg : g < W.heap.size) (h : ∀ j u,(cK x)[j]? = some u → W.cell? ⟨g,j,none⟩ = some u) : RdKn W (.slice (some ⟨g,0,none⟩) 1 1) [x]:=by
 refine ⟨_,1,rfl,Nat.le_refl _,.inr ⟨g,0,rfl,hg,fun i y j u hi hj=>?_⟩⟩
 cases i with
 | zero=>simp at hi;subst hi;simpa using h j u hj
 | succ i=>simp at hi
theorem dput_out (W : World) (d cp : Nat) (p : Option Addr) (L : List Kn) (h : DBr W d p cp L) (r c k nn : Int) (s : ByteArray) (e : Int) (hi : inB r c = false) :
   Calls Tryz.prog 27 #[.pointer (some ⟨d,0,none⟩),.int .i64 r,.int .i64 c,.agg #[.int .i64 k,.int .i64 nn,.string s,.int .i64 e]] W fun e w'=>e = .returned (.tuple #[]) ∧ DBr w' d p cp L ∧ Ext W w':=by
 have c1:=fun W=>rin_any r c W
 rw [hi] at c1
 have HD : Hid (DBr W d p cp L):=h
 clear h hi
 go_enter func27,ntmps27
 go_wp2_with fail
 refine (c1 _).mono ?_
 rintro e w1 ⟨rfl,rfl⟩
 go_wp2_with fail
 refine bodyPost_ret (v:=.tuple #[]) J41 rfl ?_
 exact ⟨rfl,HD.out.ext (xr.alloc _),xr.alloc _⟩
theorem dput_sb (W : World) (d cp : Nat) (p : Option Addr) (L : List Kn) (h : DBr W d p cp L) (hl : L.length ≤ 1000) (r c k nn : Int) (s : ByteArray) (e : Int) (hi : inB r c = true) (v : V) (hv : nm k nn s e = v) (hs : atB r c L = true) (hk : v.k = 0) :
   Calls Tryz.prog 27 #[.pointer (some ⟨d,0,none⟩),.int .i64 r,.int .i64 c,.agg #[.int .i64 k,.int .i64 nn,.string s,.int .i64 e]] W (DPut W d (putL L r c v)):=by
 have c1:=fun W=>rin_any r c W
 have hput : putL L r c v = L.take (atI r c L) ++ [] ++ (L.drop (atI r c L)).drop 1:=by
   unfold putL newL
   rw [if_pos hi,hs,if_pos hk]
   simp
 rw [hi] at c1
 have c2:=fun W'=>rnormal_any k nn s e W'
 rw [hv,dat_eq] at c2
 have c3:=fun W' (e : Ext W W')=>at_any W' d cp p L (h.ext e) J2 r c
 obtain ⟨n,hn⟩ : ∃ n,L.length = n:=⟨_,rfl⟩
 have hin : atI r c L ≤ n:=J100
 have hlt : atI r c L < n:=by rw [← hn];exact atB_lt hs
 rw [hput]
 generalize atI r c L = i at *
 rw [hs] at c3
 have hD:=h
 have hcp : n ≤ cp:=by obtain ⟨_,_,h1,h2,_⟩:=h.rd;cases h1;omega
 obtain ⟨p1,hr1,hp1⟩:=sl_lo p n cp i hin
 obtain ⟨p3,hr3,hp3⟩:=sl_hi p n cp i hin hcp
 obtain ⟨p2,hr2,hp2⟩:=sl_lo p1 (n - i) (cp - i) 1 J2
 have HD : Hid (DBr W d p cp L ∧ L.length = n):=⟨h,hn⟩
 have HP : Hid ((∀ W l,RdKn W (.slice p n cp) l → RdKn W (.slice p2 (n - i - 1) (cp - i - 1)) ((l.drop i).drop 1)) ∧ (∀ W l,RdKn W (.slice p n cp) l → RdKn W (.slice p3 i cp) (l.take i))):=⟨(fun W l h=>hp2 W _ (hp1 W l h)),hp3⟩
 have HR1 : Hid _:=hr1
 have HR3 : Hid _:=hr3
 have HR2 : Hid _:=hr2
 have HN : Hid (i ≤ n ∧ n ≤ 1000 ∧ n ≤ cp ∧ i < n):=⟨hin,by omega,hcp,hlt⟩
 obtain ⟨vk,vn,vs,ve,q1,q2,q3,q4⟩ : ∃ vk vn vs ve,v.k = vk ∧ v.n = vn ∧ v.s = vs ∧ v.e = ve:=⟨_,_,_,_,rfl,rfl,rfl,rfl⟩
 have HVV : Hid (v.k = vk ∧ v.n = vn ∧ v.s = vs ∧ v.e = ve):=⟨q1,q2,q3,q4⟩
 rw [q1,q2,q3,q4] at c2
 rw [q1] at hk
 have k0 : (vk != 0) = false:=J82
 clear h hi hv hk hs hD hp1 hp3 hr1 hr3 hin hcp hn hl hput q1 q2 q3 q4 hp2 hr2 hlt
 go_enter func27,ntmps27
 go_wp2_with fail
 refine (c1 _).mono ?_
 rintro e w1 ⟨rfl,rfl⟩
 go_wp2_with fail
 refine (c2 _).mono ?_
 rintro e w1 ⟨rfl,E1⟩
 have B1:=blk_top (b:=W.heap.size) J58 E1
 have X1 : Hid (Ext W w1):=(xr.alloc _).trans E1
 have D0:=B1
 obtain ⟨b0z,⟨b0_0,b0_1,b0_2,b0_3⟩,b0f0,b0f1,b0f2,b0f3⟩:=D0
 clear c1 c2 E1
 go_wp2_with fail
 refine (c3 _ (by exact (((X1.out.setCell J58 _).setCell J58 _).setCell J58 _).setCell J58 _)).mono ?_
 rintro e w2 ⟨rfl,E2⟩
 have X2 : Hid (Ext W w2):=((((X1.out.setCell J58 _).setCell J58 _).setCell J58 _).setCell J58 _).trans E2
 have B2:=(B1.set _ _ _ _).ext E2
 have dc:=(HD.out.1.ext X2.out).cell
 rw [HD.out.2] at dc
 have df:=(HD.out.1.ext X2.out).fz
 have dl:=(HD.out.1.ext X2.out).lt
 have D2:=B2
 obtain ⟨zV,⟨v0,v1,v2,v3⟩,g0,g1,g2,g3⟩:=D2
 clear E2 b0z b0_0 b0_1 b0_2 b0_3 b0f0 b0f1 b0f2 b0f3 B1 X1 c3
 have HX3 : Hid (Ext W (w2.alloc (.cells #[] 35))):=X2.out.alloc _
 have HO3 : Hid ((w2.alloc (.cells #[] 35)).ownsRow w2.heap.size 35 6 (.slice (some ⟨w2.heap.size,0,none⟩) 0 0) 0 (([] : List Kn).flatMap cK)):=own_newK w2 w2 rfl nrf
 have HRD : Hid (∀ W',Ext W W' → RdKn W' (.slice p n cp) L):=fun W' e=>by
   exact K103
 have HK3 : Hid (RdKn (w2.alloc (.cells #[] 35)) (.slice p3 i cp) (L.take i)):=HP.out.2 _ L (HRD.out _ HX3.out)
 have HL3 : Hid ((L.take i).length = i):=by
   exact K96
 have HS3 : Hid (w2.heap.size ≤ (w2.alloc (.cells #[] 35)).heap.size ∧ W.heap.size ≤ w2.heap.size):=⟨by simp,X2.out.size⟩
 go_upto_region 8 with (first
   | (refine wpList_sl _ rfl _ _ _ _ rfl (.slice p n cp) _ (some (.int .i64 (i : Int))) none J25 J25 J25 (HR1.out _) ?_)
   | (refine wpList_sl _ rfl _ _ _ _ rfl (.slice p n cp) _ none (some (.int .i64 (i : Int))) J25 J25 J25 (HR3.out _) ?_)
   | (refine wpList_sl _ rfl _ _ _ _ rfl (.slice p1 (n - i) (cp - i)) _ (some (.int .i64 ((1 : Nat) : Int))) none J25 J25 J25 (HR2.out _) ?_)
   | (at_builtin;refine kn_app W _ _ _ _ _ [] (L.take i) 0 i w2.heap.size rfl rfl J25 J25 rfl HL3.out HO3.out HK3.out HX3.out HS3.out.2 HS3.out.1 (by have:=HN.out;omega) ?_;intro pv4 c4 w4 o4 e4 g4;have H4 : Hid (w4.ownsRow w2.heap.size 35 6 (.slice pv4 i c4) i ((L.take i).flatMap cK) ∧ Ext W w4 ∧ w2.heap.size ≤ w4.heap.size):=⟨(by simpa using o4),e4,Nat.le_trans J58 g4.size⟩;have B4:=(B2.al (.cells #[] 35)).grown g4 (by intro q;simp [Value.ownBlock] at q;omega);have dc4:=(HD.out.1.ext e4).cell;rw [HD.out.2] at dc4;have df4:=(HD.out.1.ext e4).fz;clear o4 e4 g4))
 clear dc df dl zV v0 v1 v2 v3 g0 g1 g2 g3 B2 HO3 HK3 HX3 HR1 HR3 HR2
 obtain ⟨zV,⟨v0,v1,v2,v3⟩,g0,g1,g2,g3⟩:=B4
 have HLB : Hid (((L.drop i).drop 1).length = (n - i - 1)):=by
   exact K128
 go_wp2_with (at_builtin;refine kn_app W _ _ _ _ _ (L.take i) ((L.drop i).drop 1) i (n - i - 1) w2.heap.size rfl rfl J25 J25 HL3.out HLB.out H4.out.1 (HP.out.1 _ L (HRD.out _ H4.out.2.1)) H4.out.2.1 HS3.out.2 H4.out.2.2 (by have:=HN.out;omega) ?_;intro pv6 c6 w6 o6 e6 g6;have H6 : Hid (w6.ownsRow w2.heap.size 35 6 (.slice pv6 (i + (n - i - 1)) c6) (i + (n - i - 1)) ((L.take i ++ ((L.drop i).drop 1)).flatMap cK) ∧ Ext W w6):=⟨o6,e6⟩;have dc6:=(HD.out.1.ext e6).cell;rw [HD.out.2] at dc6;have df6:=(HD.out.1.ext e6).fz;clear o6 e6 g6)
 exact K100
theorem dput_sv (W : World) (d cp : Nat) (p : Option Addr) (L : List Kn) (h : DBr W d p cp L) (hl : L.length ≤ 1000) (r c k nn : Int) (s : ByteArray) (e : Int) (hi : inB r c = true) (v : V) (hv : nm k nn s e = v) (hs : atB r c L = true) (hk : v.k ≠ 0) :
   Calls Tryz.prog 27 #[.pointer (some ⟨d,0,none⟩),.int .i64 r,.int .i64 c,.agg #[.int .i64 k,.int .i64 nn,.string s,.int .i64 e]] W (DPut W d (putL L r c v)):=by
 have c1:=fun W=>rin_any r c W
 have hput : putL L r c v = L.take (atI r c L) ++ [⟨r,c,v.rw⟩] ++ (L.drop (atI r c L)).drop 1:=by
   unfold putL newL
   rw [if_pos hi,hs,if_neg hk]
   simp
 rw [hi] at c1
 have c2:=fun W'=>rnormal_any k nn s e W'
 rw [hv,dat_eq] at c2
 have c3:=fun W' (e : Ext W W')=>at_any W' d cp p L (h.ext e) J2 r c
 obtain ⟨n,hn⟩ : ∃ n,L.length = n:=⟨_,rfl⟩
 have hin : atI r c L ≤ n:=J100
 have hlt : atI r c L < n:=by rw [← hn];exact atB_lt hs
 rw [hput]
 generalize atI r c L = i at *
 rw [hs] at c3
 have hD:=h
 have hcp : n ≤ cp:=by obtain ⟨_,_,h1,h2,_⟩:=h.rd;cases h1;omega
 obtain ⟨p1,hr1,hp1⟩:=sl_lo p n cp i hin
 obtain ⟨p3,hr3,hp3⟩:=sl_hi p n cp i hin hcp
 obtain ⟨p2,hr2,hp2⟩:=sl_lo p1 (n - i) (cp - i) 1 J2
 have HD : Hid (DBr W d p cp L ∧ L.length = n):=⟨h,hn⟩
 have HP : Hid ((∀ W l,RdKn W (.slice p n cp) l → RdKn W (.slice p2 (n - i - 1) (cp - i - 1)) ((l.drop i).drop 1)) ∧ (∀ W l,RdKn W (.slice p n cp) l → RdKn W (.slice p3 i cp) (l.take i))):=⟨(fun W l h=>hp2 W _ (hp1 W l h)),hp3⟩
 have HR1 : Hid _:=hr1
 have HR3 : Hid _:=hr3
 have HR2 : Hid _:=hr2
 have HN : Hid (i ≤ n ∧ n ≤ 1000 ∧ n ≤ cp ∧ i < n):=⟨hin,by omega,hcp,hlt⟩
 obtain ⟨vk,vn,vs,ve,q1,q2,q3,q4⟩ : ∃ vk vn vs ve,v.k = vk ∧ v.n = vn ∧ v.s = vs ∧ v.e = ve:=⟨_,_,_,_,rfl,rfl,rfl,rfl⟩
 have HVV : Hid (v.k = vk ∧ v.n = vn ∧ v.s = vs ∧ v.e = ve):=⟨q1,q2,q3,q4⟩
 rw [q1,q2,q3,q4] at c2
 rw [q1] at hk
 have k0 : (vk != 0) = true:=J82
 clear h hi hv hk hs hD hp1 hp3 hr1 hr3 hin hcp hn hl hput q1 q2 q3 q4 hp2 hr2 hlt
 go_enter func27,ntmps27
 go_wp2_with fail
 refine (c1 _).mono ?_
 rintro e w1 ⟨rfl,rfl⟩
 go_wp2_with fail
 refine (c2 _).mono ?_
 rintro e w1 ⟨rfl,E1⟩
 have B1:=blk_top (b:=W.heap.size) J58 E1
 have X1 : Hid (Ext W w1):=(xr.alloc _).trans E1
 have D0:=B1
 obtain ⟨b0z,⟨b0_0,b0_1,b0_2,b0_3⟩,b0f0,b0f1,b0f2,b0f3⟩:=D0
 clear c1 c2 E1
 go_wp2_with fail
 refine (c3 _ (by exact (((X1.out.setCell J58 _).setCell J58 _).setCell J58 _).setCell J58 _)).mono ?_
 rintro e w2 ⟨rfl,E2⟩
 have X2 : Hid (Ext W w2):=((((X1.out.setCell J58 _).setCell J58 _).setCell J58 _).setCell J58 _).trans E2
 have B2:=(B1.set _ _ _ _).ext E2
 have dc:=(HD.out.1.ext X2.out).cell
 rw [HD.out.2] at dc
 have df:=(HD.out.1.ext X2.out).fz
 have dl:=(HD.out.1.ext X2.out).lt
 have D2:=B2
 obtain ⟨zV,⟨v0,v1,v2,v3⟩,g0,g1,g2,g3⟩:=D2
 clear E2 b0z b0_0 b0_1 b0_2 b0_3 b0f0 b0f1 b0f2 b0f3 B1 X1 c3
 have HX3 : Hid (Ext W (w2.alloc (.cells #[] 35))):=X2.out.alloc _
 have HO3 : Hid ((w2.alloc (.cells #[] 35)).ownsRow w2.heap.size 35 6 (.slice (some ⟨w2.heap.size,0,none⟩) 0 0) 0 (([] : List Kn).flatMap cK)):=own_newK w2 w2 rfl nrf
 have HRD : Hid (∀ W',Ext W W' → RdKn W' (.slice p n cp) L):=fun W' e=>by
   exact K103
 have HK3 : Hid (RdKn (w2.alloc (.cells #[] 35)) (.slice p3 i cp) (L.take i)):=HP.out.2 _ L (HRD.out _ HX3.out)
 have HL3 : Hid ((L.take i).length = i):=by
   exact K96
 have HS3 : Hid (w2.heap.size ≤ (w2.alloc (.cells #[] 35)).heap.size ∧ W.heap.size ≤ w2.heap.size):=⟨by simp,X2.out.size⟩
 go_upto_region 8 with (first
   | (refine wpList_sl _ rfl _ _ _ _ rfl (.slice p n cp) _ (some (.int .i64 (i : Int))) none J25 J25 J25 (HR1.out _) ?_)
   | (refine wpList_sl _ rfl _ _ _ _ rfl (.slice p n cp) _ none (some (.int .i64 (i : Int))) J25 J25 J25 (HR3.out _) ?_)
   | (refine wpList_sl _ rfl _ _ _ _ rfl (.slice p1 (n - i) (cp - i)) _ (some (.int .i64 ((1 : Nat) : Int))) none J25 J25 J25 (HR2.out _) ?_)
   | (at_builtin;refine kn_app W _ _ _ _ _ [] (L.take i) 0 i w2.heap.size rfl rfl J25 J25 rfl HL3.out HO3.out HK3.out HX3.out HS3.out.2 HS3.out.1 (by have:=HN.out;omega) ?_;intro pv4 c4 w4 o4 e4 g4;have H4 : Hid (w4.ownsRow w2.heap.size 35 6 (.slice pv4 i c4) i ((L.take i).flatMap cK) ∧ Ext W w4 ∧ w2.heap.size ≤ w4.heap.size):=⟨(by simpa using o4),e4,Nat.le_trans J58 g4.size⟩;have B4:=(B2.al (.cells #[] 35)).grown g4 (by intro q;simp [Value.ownBlock] at q;omega);have dc4:=(HD.out.1.ext e4).cell;rw [HD.out.2] at dc4;have df4:=(HD.out.1.ext e4).fz;clear o4 e4 g4))
 clear dc df dl zV v0 v1 v2 v3 g0 g1 g2 g3 B2 HO3 HK3 HX3 HR1 HR3 HR2
 obtain ⟨zV,⟨v0,v1,v2,v3⟩,g0,g1,g2,g3⟩:=B4
 have HLB : Hid (((L.drop i).drop 1).length = (n - i - 1)):=by
   exact K128
 have HO4 : Hid ((w4.alloc (.cells #[.int .i64 r,.int .i64 c,.int .i64 vk,.int .i64 vn,.string vs,.int .i64 ve] 35)).ownsRow w2.heap.size 35 6 (.slice pv4 i c4) i ((L.take i).flatMap cK)):=ownsRow_ext H4.out.1 (xr.alloc _)
 have HK4 : Hid (RdKn (w4.alloc (.cells #[.int .i64 r,.int .i64 c,.int .i64 vk,.int .i64 vn,.string vs,.int .i64 ve] 35)) (.slice (some ⟨w4.heap.size,0,none⟩) 1 1) [⟨r,c,⟨vk,vn,vs,ve⟩⟩]):=RdKn.one (x:=⟨r,c,⟨vk,vn,vs,ve⟩⟩) J58 (top6 (x:=⟨r,c,⟨vk,vn,vs,ve⟩⟩))
 have HX4 : Hid (Ext W (w4.alloc (.cells #[.int .i64 r,.int .i64 c,.int .i64 vk,.int .i64 vn,.string vs,.int .i64 ve] 35)) ∧ w2.heap.size ≤ (w4.alloc (.cells #[.int .i64 r,.int .i64 c,.int .i64 vk,.int .i64 vn,.string vs,.int .i64 ve] 35)).heap.size):=⟨H4.out.2.1.alloc _,Nat.le_trans H4.out.2.2 J58⟩
 go_wp2_with (first | (at_builtin;refine kn_app W _ _ _ (.slice pv4 i c4) (.slice (some ⟨w4.heap.size,0,none⟩) 1 1) (L.take i) [⟨r,c,⟨vk,vn,vs,ve⟩⟩] i 1 w2.heap.size rfl rfl J25 J25 HL3.out rfl HO4.out HK4.out HX4.out.1 HS3.out.2 HX4.out.2 (by have:=HN.out;omega) ?_;intro pv5 c5 w5 o5 e5 g5;have H5 : Hid (w5.ownsRow w2.heap.size 35 6 (.slice pv5 (i + 1) c5) (i + 1) ((L.take i ++ ([⟨r,c,⟨vk,vn,vs,ve⟩⟩] : List Kn)).flatMap cK) ∧ Ext W w5 ∧ w2.heap.size ≤ w5.heap.size):=⟨o5,e5,Nat.le_trans HX4.out.2 g5.size⟩;have dc5:=(HD.out.1.ext e5).cell;rw [HD.out.2] at dc5;have df5:=(HD.out.1.ext e5).fz;clear o5 e5 g5 zV v0 v1 v2 v3 g0 g1 g2 g3 dc4 df4) | (at_builtin;refine kn_app W _ _ _ (.slice pv5 (i + 1) c5) _ (L.take i ++ ([⟨r,c,⟨vk,vn,vs,ve⟩⟩] : List Kn)) ((L.drop i).drop 1) (i + 1) (n - i - 1) w2.heap.size rfl rfl J25 J25 (by rw [List.length_append,HL3.out];rfl) HLB.out H5.out.1 (HP.out.1 _ L (HRD.out _ H5.out.2.1)) H5.out.2.1 HS3.out.2 H5.out.2.2 (by have:=HN.out;omega) ?_;intro pv6 c6 w6 o6 e6 g6;have H6 : Hid (w6.ownsRow w2.heap.size 35 6 (.slice pv6 (i + 1 + (n - i - 1)) c6) (i + 1 + (n - i - 1)) ((L.take i ++ ([⟨r,c,⟨vk,vn,vs,ve⟩⟩] : List Kn) ++ ((L.drop i).drop 1)).flatMap cK) ∧ Ext W w6):=⟨o6,e6⟩;have dc6:=(HD.out.1.ext e6).cell;rw [HD.out.2] at dc6;have df6:=(HD.out.1.ext e6).fz;clear o6 e6 g6))
 exact K68
theorem dput_nb (W : World) (d cp : Nat) (p : Option Addr) (L : List Kn) (h : DBr W d p cp L) (hl : L.length ≤ 1000) (r c k nn : Int) (s : ByteArray) (e : Int) (hi : inB r c = true) (v : V) (hv : nm k nn s e = v) (hs : atB r c L = false) (hk : v.k = 0) :
   Calls Tryz.prog 27 #[.pointer (some ⟨d,0,none⟩),.int .i64 r,.int .i64 c,.agg #[.int .i64 k,.int .i64 nn,.string s,.int .i64 e]] W (DPut W d (putL L r c v)):=by
 have c1:=fun W=>rin_any r c W
 have hput : putL L r c v = L.take (atI r c L) ++ [] ++ L.drop (atI r c L):=by
   unfold putL newL
   rw [if_pos hi,hs,if_pos hk]
   simp
 rw [hi] at c1
 have c2:=fun W'=>rnormal_any k nn s e W'
 rw [hv,dat_eq] at c2
 have c3:=fun W' (e : Ext W W')=>at_any W' d cp p L (h.ext e) J2 r c
 obtain ⟨n,hn⟩ : ∃ n,L.length = n:=⟨_,rfl⟩
 have hin : atI r c L ≤ n:=J100
 rw [hput]
 generalize atI r c L = i at *
 rw [hs] at c3
 have hD:=h
 have hcp : n ≤ cp:=by obtain ⟨_,_,h1,h2,_⟩:=h.rd;cases h1;omega
 obtain ⟨p1,hr1,hp1⟩:=sl_lo p n cp i hin
 obtain ⟨p3,hr3,hp3⟩:=sl_hi p n cp i hin hcp
 have HD : Hid (DBr W d p cp L ∧ L.length = n):=⟨h,hn⟩
 have HP : Hid ((∀ W l,RdKn W (.slice p n cp) l → RdKn W (.slice p1 (n - i) (cp - i)) (l.drop i)) ∧ (∀ W l,RdKn W (.slice p n cp) l → RdKn W (.slice p3 i cp) (l.take i))):=⟨hp1,hp3⟩
 have HR1 : Hid _:=hr1
 have HR3 : Hid _:=hr3
 have HN : Hid (i ≤ n ∧ n ≤ 1000 ∧ n ≤ cp):=⟨hin,by omega,hcp⟩
 obtain ⟨vk,vn,vs,ve,q1,q2,q3,q4⟩ : ∃ vk vn vs ve,v.k = vk ∧ v.n = vn ∧ v.s = vs ∧ v.e = ve:=⟨_,_,_,_,rfl,rfl,rfl,rfl⟩
 have HVV : Hid (v.k = vk ∧ v.n = vn ∧ v.s = vs ∧ v.e = ve):=⟨q1,q2,q3,q4⟩
 rw [q1,q2,q3,q4] at c2
 rw [q1] at hk
 have k0 : (vk != 0) = false:=J82
 clear h hi hv hk hs hD hp1 hp3 hr1 hr3 hin hcp hn hl hput q1 q2 q3 q4
 go_enter func27,ntmps27
 go_wp2_with fail
 refine (c1 _).mono ?_
 rintro e w1 ⟨rfl,rfl⟩
 go_wp2_with fail
 refine (c2 _).mono ?_
 rintro e w1 ⟨rfl,E1⟩
 have B1:=blk_top (b:=W.heap.size) J58 E1
 have X1 : Hid (Ext W w1):=(xr.alloc _).trans E1
 have D0:=B1
 obtain ⟨b0z,⟨b0_0,b0_1,b0_2,b0_3⟩,b0f0,b0f1,b0f2,b0f3⟩:=D0
 clear c1 c2 E1
 go_wp2_with fail
 refine (c3 _ (by exact (((X1.out.setCell J58 _).setCell J58 _).setCell J58 _).setCell J58 _)).mono ?_
 rintro e w2 ⟨rfl,E2⟩
 have X2 : Hid (Ext W w2):=((((X1.out.setCell J58 _).setCell J58 _).setCell J58 _).setCell J58 _).trans E2
 have B2:=(B1.set _ _ _ _).ext E2
 have dc:=(HD.out.1.ext X2.out).cell
 rw [HD.out.2] at dc
 have df:=(HD.out.1.ext X2.out).fz
 have dl:=(HD.out.1.ext X2.out).lt
 have D2:=B2
 obtain ⟨zV,⟨v0,v1,v2,v3⟩,g0,g1,g2,g3⟩:=D2
 clear E2 b0z b0_0 b0_1 b0_2 b0_3 b0f0 b0f1 b0f2 b0f3 B1 X1 c3
 have HX3 : Hid (Ext W (w2.alloc (.cells #[] 35))):=X2.out.alloc _
 have HO3 : Hid ((w2.alloc (.cells #[] 35)).ownsRow w2.heap.size 35 6 (.slice (some ⟨w2.heap.size,0,none⟩) 0 0) 0 (([] : List Kn).flatMap cK)):=own_newK w2 w2 rfl nrf
 have HRD : Hid (∀ W',Ext W W' → RdKn W' (.slice p n cp) L):=fun W' e=>by
   exact K103
 have HK3 : Hid (RdKn (w2.alloc (.cells #[] 35)) (.slice p3 i cp) (L.take i)):=HP.out.2 _ L (HRD.out _ HX3.out)
 have HL3 : Hid ((L.take i).length = i):=by
   exact K96
 have HS3 : Hid (w2.heap.size ≤ (w2.alloc (.cells #[] 35)).heap.size ∧ W.heap.size ≤ w2.heap.size):=⟨by simp,X2.out.size⟩
 go_upto_region 8 with (first
   | (refine wpList_sl _ rfl _ _ _ _ rfl (.slice p n cp) _ (some (.int .i64 (i : Int))) none J25 J25 J25 (HR1.out _) ?_)
   | (refine wpList_sl _ rfl _ _ _ _ rfl (.slice p n cp) _ none (some (.int .i64 (i : Int))) J25 J25 J25 (HR3.out _) ?_)
   | (at_builtin;refine kn_app W _ _ _ _ _ [] (L.take i) 0 i w2.heap.size rfl rfl J25 J25 rfl HL3.out HO3.out HK3.out HX3.out HS3.out.2 HS3.out.1 (by have:=HN.out;omega) ?_;intro pv4 c4 w4 o4 e4 g4;have H4 : Hid (w4.ownsRow w2.heap.size 35 6 (.slice pv4 i c4) i ((L.take i).flatMap cK) ∧ Ext W w4 ∧ w2.heap.size ≤ w4.heap.size):=⟨(by simpa using o4),e4,Nat.le_trans J58 g4.size⟩;have B4:=(B2.al (.cells #[] 35)).grown g4 (by intro q;simp [Value.ownBlock] at q;omega);have dc4:=(HD.out.1.ext e4).cell;rw [HD.out.2] at dc4;have df4:=(HD.out.1.ext e4).fz;clear o4 e4 g4))
 clear dc df dl zV v0 v1 v2 v3 g0 g1 g2 g3 B2 HO3 HK3 HX3 HR1 HR3
 obtain ⟨zV,⟨v0,v1,v2,v3⟩,g0,g1,g2,g3⟩:=B4
 have HLB : Hid ((L.drop i).length = (n - i)):=by
   exact K128
 go_wp2_with (at_builtin;refine kn_app W _ _ _ _ _ (L.take i) (L.drop i) i (n - i) w2.heap.size rfl rfl J25 J25 HL3.out HLB.out H4.out.1 (HP.out.1 _ L (HRD.out _ H4.out.2.1)) H4.out.2.1 HS3.out.2 H4.out.2.2 (by have:=HN.out;omega) ?_;intro pv6 c6 w6 o6 e6 g6;have H6 : Hid (w6.ownsRow w2.heap.size 35 6 (.slice pv6 (i + (n - i)) c6) (i + (n - i)) ((L.take i ++ (L.drop i)).flatMap cK) ∧ Ext W w6):=⟨o6,e6⟩;have dc6:=(HD.out.1.ext e6).cell;rw [HD.out.2] at dc6;have df6:=(HD.out.1.ext e6).fz;clear o6 e6 g6)
 exact K100
theorem dput_nv (W : World) (d cp : Nat) (p : Option Addr) (L : List Kn) (h : DBr W d p cp L) (hl : L.length ≤ 1000) (r c k nn : Int) (s : ByteArray) (e : Int) (hi : inB r c = true) (v : V) (hv : nm k nn s e = v) (hs : atB r c L = false) (hk : v.k ≠ 0) :
   Calls Tryz.prog 27 #[.pointer (some ⟨d,0,none⟩),.int .i64 r,.int .i64 c,.agg #[.int .i64 k,.int .i64 nn,.string s,.int .i64 e]] W (DPut W d (putL L r c v)):=by
 have c1:=fun W=>rin_any r c W
 have hput : putL L r c v = L.take (atI r c L) ++ [⟨r,c,v.rw⟩] ++ L.drop (atI r c L):=by
   unfold putL newL
   rw [if_pos hi,hs,if_neg hk]
   simp
 rw [hi] at c1
 have c2:=fun W'=>rnormal_any k nn s e W'
 rw [hv,dat_eq] at c2
 have c3:=fun W' (e : Ext W W')=>at_any W' d cp p L (h.ext e) J2 r c
 obtain ⟨n,hn⟩ : ∃ n,L.length = n:=⟨_,rfl⟩
 have hin : atI r c L ≤ n:=J100
 rw [hput]
 generalize atI r c L = i at *
 rw [hs] at c3
 have hD:=h
 have hcp : n ≤ cp:=by obtain ⟨_,_,h1,h2,_⟩:=h.rd;cases h1;omega
 obtain ⟨p1,hr1,hp1⟩:=sl_lo p n cp i hin
 obtain ⟨p3,hr3,hp3⟩:=sl_hi p n cp i hin hcp
 have HD : Hid (DBr W d p cp L ∧ L.length = n):=⟨h,hn⟩
 have HP : Hid ((∀ W l,RdKn W (.slice p n cp) l → RdKn W (.slice p1 (n - i) (cp - i)) (l.drop i)) ∧ (∀ W l,RdKn W (.slice p n cp) l → RdKn W (.slice p3 i cp) (l.take i))):=⟨hp1,hp3⟩
 have HR1 : Hid _:=hr1
 have HR3 : Hid _:=hr3
 have HN : Hid (i ≤ n ∧ n ≤ 1000 ∧ n ≤ cp):=⟨hin,by omega,hcp⟩
 obtain ⟨vk,vn,vs,ve,q1,q2,q3,q4⟩ : ∃ vk vn vs ve,v.k = vk ∧ v.n = vn ∧ v.s = vs ∧ v.e = ve:=⟨_,_,_,_,rfl,rfl,rfl,rfl⟩
 have HVV : Hid (v.k = vk ∧ v.n = vn ∧ v.s = vs ∧ v.e = ve):=⟨q1,q2,q3,q4⟩
 rw [q1,q2,q3,q4] at c2
 rw [q1] at hk
 have k0 : (vk != 0) = true:=J82
 clear h hi hv hk hs hD hp1 hp3 hr1 hr3 hin hcp hn hl hput q1 q2 q3 q4
 go_enter func27,ntmps27
 go_wp2_with fail
 refine (c1 _).mono ?_
 rintro e w1 ⟨rfl,rfl⟩
 go_wp2_with fail
 refine (c2 _).mono ?_
 rintro e w1 ⟨rfl,E1⟩
 have B1:=blk_top (b:=W.heap.size) J58 E1
 have X1 : Hid (Ext W w1):=(xr.alloc _).trans E1
 have D0:=B1
 obtain ⟨b0z,⟨b0_0,b0_1,b0_2,b0_3⟩,b0f0,b0f1,b0f2,b0f3⟩:=D0
 clear c1 c2 E1
 go_wp2_with fail
 refine (c3 _ (by exact (((X1.out.setCell J58 _).setCell J58 _).setCell J58 _).setCell J58 _)).mono ?_
 rintro e w2 ⟨rfl,E2⟩
 have X2 : Hid (Ext W w2):=((((X1.out.setCell J58 _).setCell J58 _).setCell J58 _).setCell J58 _).trans E2
 have B2:=(B1.set _ _ _ _).ext E2
 have dc:=(HD.out.1.ext X2.out).cell
 rw [HD.out.2] at dc
 have df:=(HD.out.1.ext X2.out).fz
 have dl:=(HD.out.1.ext X2.out).lt
 have D2:=B2
 obtain ⟨zV,⟨v0,v1,v2,v3⟩,g0,g1,g2,g3⟩:=D2
 clear E2 b0z b0_0 b0_1 b0_2 b0_3 b0f0 b0f1 b0f2 b0f3 B1 X1 c3
 have HX3 : Hid (Ext W (w2.alloc (.cells #[] 35))):=X2.out.alloc _
 have HO3 : Hid ((w2.alloc (.cells #[] 35)).ownsRow w2.heap.size 35 6 (.slice (some ⟨w2.heap.size,0,none⟩) 0 0) 0 (([] : List Kn).flatMap cK)):=own_newK w2 w2 rfl nrf
 have HRD : Hid (∀ W',Ext W W' → RdKn W' (.slice p n cp) L):=fun W' e=>by
   exact K103
 have HK3 : Hid (RdKn (w2.alloc (.cells #[] 35)) (.slice p3 i cp) (L.take i)):=HP.out.2 _ L (HRD.out _ HX3.out)
 have HL3 : Hid ((L.take i).length = i):=by
   exact K96
 have HS3 : Hid (w2.heap.size ≤ (w2.alloc (.cells #[] 35)).heap.size ∧ W.heap.size ≤ w2.heap.size):=⟨by simp,X2.out.size⟩
 go_upto_region 8 with (first
   | (refine wpList_sl _ rfl _ _ _ _ rfl (.slice p n cp) _ (some (.int .i64 (i : Int))) none J25 J25 J25 (HR1.out _) ?_)
   | (refine wpList_sl _ rfl _ _ _ _ rfl (.slice p n cp) _ none (some (.int .i64 (i : Int))) J25 J25 J25 (HR3.out _) ?_)
   | (at_builtin;refine kn_app W _ _ _ _ _ [] (L.take i) 0 i w2.heap.size rfl rfl J25 J25 rfl HL3.out HO3.out HK3.out HX3.out HS3.out.2 HS3.out.1 (by have:=HN.out;omega) ?_;intro pv4 c4 w4 o4 e4 g4;have H4 : Hid (w4.ownsRow w2.heap.size 35 6 (.slice pv4 i c4) i ((L.take i).flatMap cK) ∧ Ext W w4 ∧ w2.heap.size ≤ w4.heap.size):=⟨(by simpa using o4),e4,Nat.le_trans J58 g4.size⟩;have B4:=(B2.al (.cells #[] 35)).grown g4 (by intro q;simp [Value.ownBlock] at q;omega);have dc4:=(HD.out.1.ext e4).cell;rw [HD.out.2] at dc4;have df4:=(HD.out.1.ext e4).fz;clear o4 e4 g4))
 clear dc df dl zV v0 v1 v2 v3 g0 g1 g2 g3 B2 HO3 HK3 HX3 HR1 HR3
 obtain ⟨zV,⟨v0,v1,v2,v3⟩,g0,g1,g2,g3⟩:=B4
 have HLB : Hid ((L.drop i).length = (n - i)):=by
   exact K128
 have HO4 : Hid ((w4.alloc (.cells #[.int .i64 r,.int .i64 c,.int .i64 vk,.int .i64 vn,.string vs,.int .i64 ve] 35)).ownsRow w2.heap.size 35 6 (.slice pv4 i c4) i ((L.take i).flatMap cK)):=ownsRow_ext H4.out.1 (xr.alloc _)
 have HK4 : Hid (RdKn (w4.alloc (.cells #[.int .i64 r,.int .i64 c,.int .i64 vk,.int .i64 vn,.string vs,.int .i64 ve] 35)) (.slice (some ⟨w4.heap.size,0,none⟩) 1 1) [⟨r,c,⟨vk,vn,vs,ve⟩⟩]):=RdKn.one (x:=⟨r,c,⟨vk,vn,vs,ve⟩⟩) J58 (top6 (x:=⟨r,c,⟨vk,vn,vs,ve⟩⟩))
 have HX4 : Hid (Ext W (w4.alloc (.cells #[.int .i64 r,.int .i64 c,.int .i64 vk,.int .i64 vn,.string vs,.int .i64 ve] 35)) ∧ w2.heap.size ≤ (w4.alloc (.cells #[.int .i64 r,.int .i64 c,.int .i64 vk,.int .i64 vn,.string vs,.int .i64 ve] 35)).heap.size):=⟨H4.out.2.1.alloc _,Nat.le_trans H4.out.2.2 J58⟩
 go_wp2_with (first | (at_builtin;refine kn_app W _ _ _ (.slice pv4 i c4) (.slice (some ⟨w4.heap.size,0,none⟩) 1 1) (L.take i) [⟨r,c,⟨vk,vn,vs,ve⟩⟩] i 1 w2.heap.size rfl rfl J25 J25 HL3.out rfl HO4.out HK4.out HX4.out.1 HS3.out.2 HX4.out.2 (by have:=HN.out;omega) ?_;intro pv5 c5 w5 o5 e5 g5;have H5 : Hid (w5.ownsRow w2.heap.size 35 6 (.slice pv5 (i + 1) c5) (i + 1) ((L.take i ++ ([⟨r,c,⟨vk,vn,vs,ve⟩⟩] : List Kn)).flatMap cK) ∧ Ext W w5 ∧ w2.heap.size ≤ w5.heap.size):=⟨o5,e5,Nat.le_trans HX4.out.2 g5.size⟩;have dc5:=(HD.out.1.ext e5).cell;rw [HD.out.2] at dc5;have df5:=(HD.out.1.ext e5).fz;clear o5 e5 g5 zV v0 v1 v2 v3 g0 g1 g2 g3 dc4 df4) | (at_builtin;refine kn_app W _ _ _ (.slice pv5 (i + 1) c5) _ (L.take i ++ ([⟨r,c,⟨vk,vn,vs,ve⟩⟩] : List Kn)) (L.drop i) (i + 1) (n - i) w2.heap.size rfl rfl J25 J25 (by rw [List.length_append,HL3.out];rfl) HLB.out H5.out.1 (HP.out.1 _ L (HRD.out _ H5.out.2.1)) H5.out.2.1 HS3.out.2 H5.out.2.2 (by have:=HN.out;omega) ?_;intro pv6 c6 w6 o6 e6 g6;have H6 : Hid (w6.ownsRow w2.heap.size 35 6 (.slice pv6 (i + 1 + (n - i)) c6) (i + 1 + (n - i)) ((L.take i ++ ([⟨r,c,⟨vk,vn,vs,ve⟩⟩] : List Kn) ++ (L.drop i)).flatMap cK) ∧ Ext W w6):=⟨o6,e6⟩;have dc6:=(HD.out.1.ext e6).cell;rw [HD.out.2] at dc6;have df6:=(HD.out.1.ext e6).fz;clear o6 e6 g6))
 exact K68
theorem dput_any (W : World) (d cp : Nat) (p : Option Addr) (L : List Kn) (h : DBr W d p cp L) (hl : L.length ≤ 1000) (r c k nn : Int) (s : ByteArray) (e : Int) :
   Calls Tryz.prog 27 #[.pointer (some ⟨d,0,none⟩),.int .i64 r,.int .i64 c,.agg #[.int .i64 k,.int .i64 nn,.string s,.int .i64 e]] W fun e' w'=>e' = .returned (.tuple #[]) ∧ ∃ p' c',DBr w' d p' c' (putL L r c (nm k nn s e)) ∧ (p' = p ∨ ∀ a,p' = some a → W.heap.size ≤ a.block) ∧ ExtB d W w':=by
 cases hi : inB r c with
 | false =>
   have hp : putL L r c (nm k nn s e) = L:=by unfold putL;rw [hi];rfl
   rw [hp]
   refine (dput_out W d cp p L h r c k nn s e hi).mono ?_
   rintro e' w' ⟨h1,h2,h3⟩
   exact ⟨h1,p,cp,h2,.inl rfl,h3.toB d⟩
 | true =>
   have key : Calls Tryz.prog 27 #[.pointer (some ⟨d,0,none⟩),.int .i64 r,.int .i64 c,.agg #[.int .i64 k,.int .i64 nn,.string s,.int .i64 e]] W (DPut W d (putL L r c (nm k nn s e))):=by
     by_cases hk : (nm k nn s e).k = 0
     · cases hs : atB r c L with
       | true=>exact dput_sb W d cp p L h hl r c k nn s e hi _ rfl hs hk
       | false=>exact dput_nb W d cp p L h hl r c k nn s e hi _ rfl hs hk
     · cases hs : atB r c L with
       | true=>exact dput_sv W d cp p L h hl r c k nn s e hi _ rfl hs hk
       | false=>exact dput_nv W d cp p L h hl r c k nn s e hi _ rfl hs hk
   refine key.mono ?_
   rintro e' w' ⟨h1,p',c',h2,h3,h4⟩
   exact ⟨h1,p',c',h2,.inr h3,h4⟩
end Go.Proofs.YtcfgbiaahangmaaGreatDoor

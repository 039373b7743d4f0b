import Derived.Test.YtcfgbiaahangmaaGreatDoorN14
import Derived.Deep.RegionWith
import Derived.Laws.IdiomStrings
set_option maxHeartbeats 4000000
namespace Go.Proofs.YtcfgbiaahangmaaGreatDoor
open Go.RowKit
def RdI (W : World) (v : Value) (l : List V) : Prop:=∃ base,W.ownsRow base 2 1 v l.length (l.flatMap cI)
theorem RdI.ext {W W' : World} {v : Value} {l : List V} (h : RdI W v l) (e : Ext W W') : RdI W' v l:=by
 obtain ⟨b,h⟩:=h
 exact ⟨b,ownsRow_ext h e⟩
theorem RdI.form {W : World} {v : Value} {l : List V} (h : RdI W v l) : ∃ p c,v = .slice p l.length c:=by
 obtain ⟨b,h⟩:=h
 obtain ⟨p,c,h,_⟩:=own_form h
 exact ⟨p,c,h⟩
theorem RdI.at {W : World} {p : Option Addr} {n c : Nat} {l : List V} (h : RdI W (.slice p n c) l) {i : Nat} (hi : i < l.length) : ∃ g v,p = some ⟨g,0,none⟩ ∧ l[i]? = some v ∧ g < W.heap.size ∧ W.cell? ⟨g,i,none⟩ = some (.int .i64 v.n):=by
 obtain ⟨b,h⟩:=h
 rcases h.2 with ⟨_,h0⟩ | ⟨g,cap,cur,h1,h2,h3,h4⟩
 · omega
 · cases h1
   refine ⟨g,l[i],rfl,gEq hi,(Array.getElem?_eq_some_iff.1 h3).1,?_⟩
   have:=h.cells (g:=g) rfl (i * 1 + 0) (.int .i64 l[i].n) (by rw [fm_at cI 1 cI_len l i _ 0 (gEq hi) J9];rfl)
   rw [Addr.add_lit] at this
   simpa using this
def Ac (W : World) (b : Nat) (x : Int) : Prop:=b < W.heap.size ∧ (W.cell? ⟨b,0,none⟩ = some (.int .i64 (hiOf x)) ∧ W.cell? ⟨b,1,none⟩ = some (.int .u64 (loOf x))) ∧ W.frozen? ⟨b,0,none⟩ = false ∧ W.frozen? ⟨b,1,none⟩ = false
theorem Ac.ext {W W' : World} {b : Nat} {x : Int} (h : Ac W b x) (e : Ext W W') : Ac W' b x :=
 ⟨llL h.1 e.size,⟨(e.cell.1 b 0 h.1).trans h.2.1.1,(e.cell.1 b 1 h.1).trans h.2.1.2⟩,(e.cell.2 b 0 h.1).trans h.2.2.1,(e.cell.2 b 1 h.1).trans h.2.2.2⟩
theorem Ac.set {W : World} {b : Nat} {x : Int} (h : Ac W b x) (y : Int) : Ac ((W.setCell ⟨b,0,none⟩ (.int .i64 (hiOf y))).setCell ⟨b,1,none⟩ (.int .u64 (loOf y))) b y:=by
 obtain ⟨z,⟨k0,k1⟩,f0,f1⟩:=h
 have e0:=wSa W ⟨b,0,none⟩ (.int .i64 (hiOf y)) (by rw [k0])
 have j1 : (W.setCell ⟨b,0,none⟩ (.int .i64 (hiOf y))).cell? ⟨b,1,none⟩ = some (.int .u64 (loOf x)):=J72
 have e1:=wSa _ ⟨b,1,none⟩ (.int .u64 (loOf y)) (by rw [j1])
 exact ⟨by simpa [World.setCell] using z,⟨by rw [wO _ _ _ _ J60];exact e0,e1⟩,by simpa [go_sem] using f0,by simpa [go_sem] using f1⟩
theorem Ac.far {W : World} {b c o : Nat} {x : Int} {u : Value} (h : Ac W b x) (hc : c ≠ b) : Ac (W.setCell ⟨c,o,none⟩ u) b x:=by
 obtain ⟨z,⟨k0,k1⟩,f0,f1⟩:=h
 exact ⟨by simpa [World.setCell] using z,⟨by rw [wFa _ _ _ _ hc];exact k0,by rw [wFa _ _ _ _ hc];exact k1⟩,by simpa [go_sem] using f0,by simpa [go_sem] using f1⟩
theorem badT (s : List (V × Bool)) (x : V × Bool) : bad truF (s ++ [x]) = if (bad truF s).k = 4 then bad truF s else if (truF x.1 x.2).k = 4 then truF x.1 x.2 else .blank:=bad_app truF s [x]
theorem badT_keep (s : List (V × Bool)) (x : V × Bool) (h : (truF x.1 x.2).k ≠ 4 ∨ (bad truF s).k = 4) : bad truF (s ++ [x]) = bad truF s:=by
 rw [badT]
 rcases bad_kind truF s with k | k
 · rcases h with h | h
   · rw [k,if_neg J9,if_neg h]
   · rw [if_pos h]
 · rw [if_pos k]
structure Tru (W : World) (s : List (V × Bool)) (V' : World) : Prop where
 e : Ext W V'
 w : Blk V' (W.heap.size + 1) (.int .i64 (bad truF s).k) (.int .i64 (bad truF s).n) (.string (bad truF s).s) (.int .i64 (bad truF s).e)
 z : Blk V' W.heap.size (.int .i64 0) (.int .i64 0) (.string ⟨#[]⟩) (.int .i64 0)
theorem Tru.ext {W : World} {s : List (V × Bool)} {V1 V2 : World} (h : Tru W s V1) (e : Ext V1 V2) : Tru W s V2:=⟨h.e.trans e,h.w.ext e,h.z.ext e⟩
theorem Tru.same {W : World} {s : List (V × Bool)} {V1 V2 : World} (h : Tru W s V1) (e : Ext V1 V2) (x : V × Bool) (hk : (truF x.1 x.2).k ≠ 4 ∨ (bad truF s).k = 4) : Tru W (s ++ [x]) V2:=by
 have hb:=badT_keep s x hk
 obtain ⟨a,f,g⟩:=h.ext e
 exact ⟨a,by rw [hb];exact f,g⟩
theorem Tru.err {W : World} {s : List (V × Bool)} {V1 V2 : World} (h : Tru W s V1) (e : Ext V1 V2) (x : V × Bool) (y : V) (hy : truF x.1 x.2 = y) (hk : y.k = 4) (hb4 : (bad truF s).k ≠ 4) : Tru W (s ++ [x]) (put4 V2 (W.heap.size + 1) (.int .i64 y.k) (.int .i64 y.n) (.string y.s) (.int .i64 y.e)):=by
 subst hy
 have hb : bad truF (s ++ [x]) = truF x.1 x.2:=by rw [badT,if_neg hb4,if_pos hk]
 obtain ⟨a,f,g⟩:=h.ext e
 refine ⟨?_,?_,?_⟩
 · exact (((a.setCell J60 _).setCell J60 _).setCell J60 _).setCell J60 _
 · rw [hb];exact f.set _ _ _ _
 · exact g.far J2 _ _ _ _
structure CatS (W : World) (s : List (V × Bool)) (ov : Value) (V' : World) : Prop where
 e : Ext W V'
 o : V'.ownsRow (W.heap.size + 1) 5 1 ov (allC (got texF s)).length (Lib.byteCells (allC (got texF s)))
 f : ∃ g cap,ov = .slice (some ⟨g,0,none⟩) (allC (got texF s)).length cap
 z : Blk V' W.heap.size (.int .i64 0) (.int .i64 0) (.string ⟨#[]⟩) (.int .i64 0)
 b : bad texF s = .blank
 l : (allC (got texF s)).length ≤ 300 * s.length
theorem CatS.ext {W : World} {s : List (V × Bool)} {ov : Value} {V1 V2 : World} (h : CatS W s ov V1) (e : Ext V1 V2) : CatS W s ov V2 :=
 ⟨h.e.trans e,ownsRow_ext h.o e,h.f,h.z.ext e,h.b,h.l⟩
theorem CatS.conv {W : World} {s : List (V × Bool)} {ov : Value} {V1 : World} (h : CatS W s ov V1) : (convert 189 9 ov).run Tryz.prog V1 = .ok (.string (bs (allC (got texF s)))) V1:=by
 obtain ⟨g,cap,rfl⟩:=h.f
 exact run_convert_bytes_back V1 189 9 5 ⟨g,0,none⟩ cap _ Tryz.underlying189 Tryz.underlying5 Tryz.underlying9 (fun j hj=>h.o.cells (g:=g) rfl j _ (by rw [gEq (by rw [Lib.byteCells_length];exact hj)];simp [Lib.byteCells]))
theorem bad_ok {f : V → Bool → V} (hf : ∀ v a,v.ok → (f v a).ok) {l : List (V × Bool)} (h : OkS l) : (bad f l).ok:=by
 induction l with
 | nil=>trivial
 | cons p l ih =>
   unfold bad
   split
   · exact hf _ _ (h p J60)
   · exact ih (fun q hq=>h q (by simp [hq]))
theorem orBad_ok {b v : V} (hb : b.ok) (hv : v.ok) : (orBad b v).ok:=by unfold orBad;split <;> assumption
theorem toldR_ok (b : Bool) (n : Int) (h : I64 n) : (toldR b n).ok:=by
 unfold toldR
 split
 · exact mkNum_ok n h
 · exact K81
theorem best_i (p : Int → Int → Bool) (l : List V) (b : Int) (hb : I64 b) (h : ∀ v ∈ l,I64 v.n) : I64 (bestF p b l):=by
 induction l generalizing b with
 | nil=>exact hb
 | cons v l ih =>
   show I64 (bestF p (if p v.n b then v.n else b) l)
   refine ih _ ?_ (fun u hu=>h u (by simp [hu]))
   split
   · exact h v J60
   · exact hb
theorem bestN_i (p : Int → Int → Bool) (l : List V) (h : ∀ v ∈ l,I64 v.n) : I64 (bestN p l):=by
 cases l with
 | nil=>exact I64.z
 | cons v l=>exact best_i p l v.n (h v J60) (fun u hu=>h u (by simp [hu]))
theorem AllN.i {l : List V} (h : AllN l) : ∀ v ∈ l,I64 v.n:=fun v hv=>by obtain ⟨n,rfl,h1,_⟩:=h v hv;exact h1
theorem toldV_i (x : Int) : I64 (toldV x):=by
 unfold toldV
 split
 · unfold sg64
   exact K138
 · exact I64.z
theorem meanV_i (x n : Int) : I64 (meanV x n):=by
 unfold meanV
 split
 · rename_i h
   unfold meanB at h
   simp at h
   have h0 : 0 ≤ meanQ x n:=by
     unfold meanQ
     apply Int.ediv_nonneg
     · have : 0 ≤ absI x:=J75
       omega
     · omega
   split <;> exact ⟨by omega,by omega⟩
 · exact I64.z
theorem floorV_i (a : Int) (_ : I64 a) : I64 (floorV a):=by
 unfold floorV subV
 split
 · split
   · rename_i h2
     unfold subB fitB at h2
     simp at h2
     exact K138
   · exact I64.z
 · exact I64.z
theorem rootV_i (a : Int) (h : I64 a) : I64 (rootV a):=by
 unfold rootV
 split
 · have hr:=rt_is (a.toNat * 10000)
   have h1 : rtN (a.toNat * 10000) ≤ 9223372036854775807:=by
     rcases Nat.lt_or_ge 9223372036854775807 (rtN (a.toNat * 10000)) with h2 | h2
     · have h3:=hr.1
       have h4 : 9223372036854775808 * 9223372036854775808 ≤ rtN (a.toNat * 10000) * rtN (a.toNat * 10000):=Nat.mul_le_mul h2 h2
       obtain ⟨i1,i2⟩:=h
       omega
     · exact h2
   exact K138
 · exact I64.z
theorem sgnV_i (b : Bool) (n : Nat) : I64 (sgnV b n):=by
 unfold sgnV
 split
 · rename_i h
   unfold sgnB at h
   simp at h
   split <;> exact ⟨by omega,by omega⟩
 · exact I64.z
theorem rndV_i (a d : Int) (h : I64 a) : I64 (rndV a d):=by
 unfold rndV
 split
 · split
   · exact h
   · split
     · exact I64.z
     · exact sgnV_i _ _
 · exact I64.z
theorem modV_i (a b : Int) (_ : I64 a) (hb : I64 b) : I64 (modV a b):=by
 unfold modV
 split
 · rename_i h
   have hb0 : b ≠ 0:=by unfold modB at h;simp at h;exact h.2
   have hf:=fm_bd a b hb0
   obtain ⟨i1,i2⟩:=hb
   exact K138
 · exact I64.z
theorem Fit.ok {W : World} {v : Value} {gs : List Ag} (h : Fit W v gs) : (fSum gs).ok ∧ (fCount gs).ok ∧ (∀ p,(fBest p gs).ok) ∧ (fMean gs).ok ∧ (∀ b,(fTruth b gs).ok) ∧ (fCat gs).ok:=by
 have hs:=seen_ok gs h.i
 have hb:=bad_ok numF_okk hs
 have hi:=(got_nums _ hs).i
 have hl:=h.num
 refine ⟨orBad_ok hb (toldR_ok _ _ (toldV_i _)),mkNum_ok _ ⟨by omega,by omega⟩,fun p=>orBad_ok hb (mkNum_ok _ (bestN_i p _ hi)),orBad_ok hb ?_,fun b=>orBad_ok (bad_ok truF_okk hs) ?_,orBad_ok (bad_ok texF_okk hs) (mkText_ok _)⟩
 · split
   · exact K81
   · exact toldR_ok _ _ (meanV_i _ _)
 · split
   · exact K81
   · trivial
theorem ok_n {v : V} (h : v.ok) : I64 v.n:=(nm_of v h).2
theorem neg_ok {v : V} (h : v.ok) : v.neg.ok:=by
 unfold V.neg
 rcases toNum_cases v h with ⟨m,e,⟨i1,i2⟩,cm⟩ | ⟨x,e,hx⟩
 · rw [e]
   have i3 : m ≠ -9223372036854775808:=by simpa [canB] using cm
   exact ⟨⟨by omega,by omega⟩,by simp [canB];omega⟩
 · rw [e];exact hx
theorem reckon_ok (op x y : Int) : (reckon op x y).ok:=by
 unfold reckon
 split
 · refine toldR_ok _ _ ?_
   unfold addV
   split
   · rename_i h;unfold addB fitB at h;simp at h;exact ⟨by omega,by omega⟩
   · exact I64.z
 · split
   · refine toldR_ok _ _ ?_
     unfold subV
     split
     · rename_i h;unfold subB fitB at h;simp at h;exact ⟨by omega,by omega⟩
     · exact I64.z
   · split
     · refine toldR_ok _ _ ?_
       unfold mulV
       split
       · exact sgnV_i _ _
       · exact I64.z
     · split
       · exact K81
       · refine toldR_ok _ _ ?_
         unfold divV
         split
         · exact sgnV_i _ _
         · exact I64.z
theorem arith_ok (op : Int) {a b : V} (ha : a.ok) (hb : b.ok) : (arith op a b).ok:=by
 unfold arith
 split
 · rcases toNum_cases a ha with ⟨m,e,_⟩ | ⟨x,e,hx⟩
   · rcases toNum_cases b hb with ⟨m',e',_⟩ | ⟨x',e',hx'⟩
     · rw [e,e'];exact reckon_ok op m m'
     · rw [e,e'];exact hx'
   · rw [e];exact hx
 · exact K81
theorem join_ok {a b : V} (ha : a.ok) (hb : b.ok) : (join a b).ok:=by
 have h1:=toText_ok a ha
 have h2:=toText_ok b hb
 unfold join
 generalize a.toText = x at *
 generalize b.toText = y at *
 cases x <;> cases y <;> first | exact mkText_ok _ | exact h1 | exact h2 | trivial
theorem cmpE_ok {a b : V} (ha : a.ok) (hb : b.ok) : (cmpE a b).ok:=by cases a <;> cases b <;> first | exact ha | exact hb | trivial
theorem bin_ok (s : List UInt8) {a b : V} (ha : a.ok) (hb : b.ok) : (binV s a b).ok:=by
 unfold binV
 split
 · exact arith_ok _ ha hb
 · split
   · exact join_ok ha hb
   · unfold cmpS
     split
     · exact cmpE_ok ha hb
     · trivial
theorem fits_ok {gs : List Ag} (hi : AgI gs) (h : (seen gs).length ≤ 10000000000) : (fSum gs).ok ∧ (fCount gs).ok ∧ (∀ p,(fBest p gs).ok) ∧ (fMean gs).ok ∧ (∀ b,(fTruth b gs).ok) ∧ (fCat gs).ok:=by
 have hs:=seen_ok gs hi
 have hb:=bad_ok numF_okk hs
 have hj:=(got_nums _ hs).i
 have hl : (got numF (seen gs)).length ≤ 10000000000:=Nat.le_trans (got_len _ _) h
 refine ⟨orBad_ok hb (toldR_ok _ _ (toldV_i _)),mkNum_ok _ ⟨by omega,by omega⟩,fun p=>orBad_ok hb (mkNum_ok _ (bestN_i p _ hj)),orBad_ok hb ?_,fun b=>orBad_ok (bad_ok truF_okk hs) ?_,orBad_ok (bad_ok texF_okk hs) (mkText_ok _)⟩
 · split
   · exact K81
   · exact toldR_ok _ _ (meanV_i _ _)
 · split
   · exact K81
   · trivial
theorem sg_ok {l : List Bg} (hi : AgI (gsOf l)) (i : Nat) : (sg l i).ok:=by
 unfold sg
 cases hx : l[i]? with
 | none=>exact ⟨by decide,by decide⟩
 | some a =>
   show (sgl a).ok
   unfold sgl
   split
   · exact K81
   · have:=hi a.g (by unfold gsOf;exact List.mem_map.2 ⟨a,List.mem_of_getElem? hx,rfl⟩)
     exact K173
theorem rw_n {v : V} (h : v.ok) : I64 v.rw.n:=ok_n h
theorem nuR_i {v : V} (h : v.ok) {n : Int} (e : nuR v = .ok n) : I64 n ∧ canB n = true:=by
 unfold nuR at e
 rcases toNum_cases v h with ⟨m,e',h1,h2⟩ | ⟨x,e',hx⟩
 · rw [e'] at e
   cases e
   exact ⟨h1,h2⟩
 · rw [e'] at e;cases e
theorem tolR_n {b : Bool} {n : Int} (h : I64 n) {r : Rw} (e : (tolR b n).map V.rw = .ok r) : I64 r.n:=by
 cases b with
 | true=>cases e;exact rw_n (mkNum_ok n h)
 | false=>cases e
theorem xcall_n {s : List UInt8} {l : List Bg} (hi : AgI (gsOf l)) (h : (seen (gsOf l)).length ≤ 10000000000) {r : Rw} (e : xCall s l = .ok r) : I64 r.n:=by
 obtain ⟨f1,f2,f3,f4,f5,f6⟩:=fits_ok hi h
 unfold xCall at e
 by_cases h0 : s = [83,85,77]
 · rw [if_pos h0] at e
   cases e;exact rw_n f1
 rw [if_neg h0] at e
 by_cases h1 : s = [67,79,85,78,84]
 · rw [if_pos h1] at e
   cases e;exact rw_n f2
 rw [if_neg h1] at e
 by_cases h2 : s = [77,73,78]
 · rw [if_pos h2] at e
   cases e;exact rw_n (f3 _)
 rw [if_neg h2] at e
 by_cases h3 : s = [77,65,88]
 · rw [if_pos h3] at e
   cases e;exact rw_n (f3 _)
 rw [if_neg h3] at e
 by_cases h4 : s = [65,86,69,82,65,71,69]
 · rw [if_pos h4] at e
   cases e;exact rw_n f4
 rw [if_neg h4] at e
 by_cases h5 : s = [65,78,68]
 · rw [if_pos h5] at e
   cases e;exact rw_n (f5 _)
 rw [if_neg h5] at e
 by_cases h6 : s = [79,82]
 · rw [if_pos h6] at e
   cases e;exact rw_n (f5 _)
 rw [if_neg h6] at e
 by_cases h7 : s = [67,79,78,67,65,84]
 · rw [if_pos h7] at e
   cases e;exact rw_n f6
 rw [if_neg h7] at e
 by_cases h8 : s = [73,70]
 · rw [if_pos h8] at e
   unfold xIf at e
   split at e
   · cases e
   · split at e
     · cases e;exact rw_n (sg_ok hi 1)
     · split at e
       · cases e;exact rw_n (v:=.tf false) trivial
       · cases e;exact rw_n (sg_ok hi 2)
 rw [if_neg h8] at e
 by_cases h9 : s = [78,79,84]
 · rw [if_pos h9] at e
   unfold xNot at e
   split at e
   · cases e
   · cases e;exact rw_n (v:=.tf _) trivial
 rw [if_neg h9] at e
 by_cases h10 : s = [65,66,83]
 · rw [if_pos h10] at e
   unfold xAbs at e
   split at e
   · cases e
   · rename_i n hn
     obtain ⟨⟨i1,i2⟩,c⟩:=nuR_i (sg_ok hi 0) hn
     cases e
     have h3 : n ≠ -9223372036854775808:=by simpa [canB] using c
     exact rw_n (mkNum_ok _ (by unfold szN;split <;> exact ⟨by omega,by omega⟩))
 rw [if_neg h10] at e
 by_cases h11 : s = [82,79,85,78,68]
 · rw [if_pos h11] at e
   unfold xRound at e
   split at e
   · cases e
   · rename_i a ha
     split at e
     · cases e
     · exact tolR_n (rndV_i _ _ (nuR_i (sg_ok hi 0) ha).1) e
 rw [if_neg h11] at e
 by_cases h12 : s = [77,79,68]
 · rw [if_pos h12] at e
   unfold xMod at e
   split at e
   · cases e
   · rename_i a ha
     split at e
     · cases e
     · rename_i b hb
       split at e
       · cases e
       · exact tolR_n (modV_i _ _ (nuR_i (sg_ok hi 0) ha).1 (nuR_i (sg_ok hi 1) hb).1) e
 rw [if_neg h12] at e
 by_cases h13 : s = [70,76,79,79,82]
 · rw [if_pos h13] at e
   unfold xFloor at e
   split at e
   · cases e
   · rename_i a ha
     exact tolR_n (floorV_i _ (nuR_i (sg_ok hi 0) ha).1) e
 rw [if_neg h13] at e
 by_cases h14 : s = [83,81,82,84]
 · rw [if_pos h14] at e
   unfold xSqrt at e
   split at e
   · cases e
   · rename_i a ha
     exact tolR_n (rootV_i _ (nuR_i (sg_ok hi 0) ha).1) e
 rw [if_neg h14] at e
 by_cases h15 : s = [76,69,78]
 · rw [if_pos h15] at e
   unfold xLen at e
   split at e
   · cases e
   · rename_i t ht
     cases e
     have hz : t.size ≤ 300:=by
       have:=toText_ok _ (sg_ok hi 0)
       unfold teR at ht
       generalize (sg l 0).toText = u at *
       cases u <;> simp at ht
       all_goals subst ht
       all_goals first | exact this | (show (⟨#[]⟩ : ByteArray).size ≤ 300;decide)
     exact rw_n (mkNum_ok _ ⟨by omega,by omega⟩)
 rw [if_neg h15] at e
 by_cases h16 : s = [76,69,70,84]
 · rw [if_pos h16] at e
   unfold xLeft at e
   split at e
   · cases e
   · split at e
     · cases e
     · split at e
       · cases e
       · cases e;exact rw_n (mkText_ok _)
 rw [if_neg h16] at e
 by_cases h17 : s = [73,78,68,69,88]
 · rw [if_pos h17] at e
   unfold xIndex at e
   split at e
   · cases e
   · split at e
     · cases e
     · split at e
       · rename_i b hb
         unfold pkR at e
         split at e
         · cases e
         · split at e
           · cases e
           · split at e
             · rename_i r' hr'
               cases e
               have hm:=List.mem_of_getElem? hr'
               unfold arOf at hm
               split at hm
               · exact hi b.g (by unfold gsOf;exact List.mem_map.2 ⟨b,List.mem_of_getElem? hb,rfl⟩) _ hm
               · simp at hm
                 rw [hm]
                 have:=sg_ok hi 0
                 unfold sg at this
                 rw [hb] at this
                 exact rw_n this
             · cases e
       · cases e
 rw [if_neg h17] at e
 by_cases h18 : s = [73,83,69,82,82,79,82]
 · rw [if_pos h18] at e
   cases e;exact rw_n (v:=.tf _) trivial
 rw [if_neg h18] at e
 by_cases h19 : s = [73,70,69,82,82,79,82]
 · rw [if_pos h19] at e
   unfold xIfErr at e
   split at e
   · cases e;exact rw_n (sg_ok hi 1)
   · cases e;exact rw_n (sg_ok hi 0)
 rw [if_neg h19] at e
 cases e
theorem fn_ok (s : List UInt8) {l : List Bg} (hi : AgI (gsOf l)) (h : (seen (gsOf l)).length ≤ 10000000000) : (fnV s l).ok:=by
 unfold fnV
 split
 · cases e : xCall s l with
   | error x=>exact mkErr_ok x
   | ok r=>exact nm_ok _ _ _ _ (xcall_n hi h e)
 · exact K81
theorem knB_20 (s : List UInt8) : knB s ≤ 20:=by
 have : ∀ p,kno s = some p → p.2 ≤ 20:=by
   intro p hk
   unfold kno at hk
   by_cases h1 : s ∈ kn1
   · rw [if_pos h1] at hk;cases hk;decide
   rw [if_neg h1] at hk
   by_cases h2 : s ∈ kn2
   · rw [if_pos h2] at hk;cases hk;decide
   rw [if_neg h2] at hk
   by_cases h3 : s ∈ kn3
   · rw [if_pos h3] at hk;cases hk;decide
   rw [if_neg h3] at hk
   by_cases h4 : s ∈ kn4
   · rw [if_pos h4] at hk;cases hk;decide
   rw [if_neg h4] at hk
   by_cases h5 : s ∈ kn5
   · rw [if_pos h5] at hk;cases hk;decide
   rw [if_neg h5] at hk
   cases hk
 unfold knB
 cases hk : kno s with
 | none=>decide
 | some p =>
   have:=this p hk
   show (p.2 : Int) ≤ 20
   omega
theorem rect_le {r q : Rf} (h : inB r.1 r.2.1 = true) (g : inB q.1 q.2.1 = true) :
   1 ≤ mnI r.1 q.1 ∧ mnI r.1 q.1 ≤ mxI r.1 q.1 ∧ mxI r.1 q.1 ≤ 1000 ∧ 1 ≤ mnI r.2.1 q.2.1 ∧ mnI r.2.1 q.2.1 ≤ mxI r.2.1 q.2.1 ∧ mxI r.2.1 q.2.1 ≤ 52:=by
 simp [inB] at h g
 unfold mnI mxI
 split <;> split <;> split <;> split <;> omega
theorem argA_len (M : Bov) (p q u v : Int) (h : p ≤ u ∧ q ≤ v) : ((argA M p q u v).g.l.length : Int) = (u - p + 1) * (v - q + 1):=by
 show ((areA M p q (v - q + 1).toNat (u - p + 1).toNat).length : Int) = _
 rw [areA_len,Int.natCast_mul,Int.toNat_of_nonneg J2,Int.toNat_of_nonneg J2]
theorem argR_len (M : Bov) {r q : Rf} (h : inB r.1 r.2.1 = true) (g : inB q.1 q.2.1 = true) : (argR M r q).g.l.length ≤ 52000:=by
 obtain ⟨h1,h2,h3,h4,h5,h6⟩:=rect_le h g
 have:=argA_len M (mnI r.1 q.1) (mnI r.2.1 q.2.1) (mxI r.1 q.1) (mxI r.2.1 q.2.1) ⟨h2,h5⟩
 have hm : (mxI r.1 q.1 - mnI r.1 q.1 + 1) * (mxI r.2.1 q.2.1 - mnI r.2.1 q.2.1 + 1) ≤ 1000 * 52:=Int.mul_le_mul J2 J2 J2 J2
 unfold argR
 omega
def argOk (n : Nat) (M : Bov) (x : T) : Prop:=AgI [(argX n M x).g] ∧ (argX n M x).g.l.length ≤ 52000 ∧ I64 (argX n M x).rows ∧ I64 (argX n M x).cols
theorem args_seen {l : List Bg} (h : ∀ b ∈ l,b.g.l.length ≤ 52000) (hl : l.length ≤ 20) : (seen (gsOf l)).length ≤ 10000000000:=by
 have : ∀ l : List Bg,(∀ b ∈ l,b.g.l.length ≤ 52000) → (seen (gsOf l)).length ≤ l.length * 52001:=by
   intro l
   induction l with
   | nil=>intro _;exact Nat.le_refl _
   | cons b l ih =>
     intro h
     have h1:=ih (fun x hx=>h x (by simp [hx]))
     have h2:=h b J60
     have e : seen (gsOf (b :: l)) = seen1 b.g ++ seen (gsOf l):=by simp [seen,gsOf]
     have h3 : (seen1 b.g).length ≤ 52000:=by unfold seen1;split <;> simp;omega
     rw [e,List.length_append,List.length_cons,Nat.succ_mul]
     omega
 have:=this l h
 have : l.length * 52001 ≤ 20 * 52001:=Nat.mul_le_mul hl nrf
 omega
theorem argX_ok {n : Nat} {M : Bov} (hM : BdOk M) {x : T} (hw : x.k = 5 → inB x.r.1 x.r.2.1 = true ∧ inB x.q.1 x.q.2.1 = true) (hv : x.k ≠ 5 → (evT n M x).ok) : argOk n M x:=by
 unfold argOk argX
 split
 · rename_i hk
   obtain ⟨h1,h2⟩:=hw hk
   obtain ⟨r1,r2,r3,r4,r5,r6⟩:=rect_le h1 h2
   refine ⟨fun g hg=>?_,argR_len M h1 h2,?_,?_⟩
   · simp at hg
     subst hg
     intro r hr
     obtain ⟨r',c',e⟩:=areA_mem _ _ _ _ _ _ hr
     rw [e]
     exact rw_n (hM.v _ _)
   · show I64 (mxI x.r.1 x.q.1 - mnI x.r.1 x.q.1 + 1);exact ⟨by omega,by omega⟩
   · show I64 (mxI x.r.2.1 x.q.2.1 - mnI x.r.2.1 x.q.2.1 + 1);exact ⟨by omega,by omega⟩
 · rename_i hk
   refine ⟨fun g hg=>?_,(by show 1 ≤ 52000;decide),I64.z,I64.z⟩
   simp at hg
   subst hg
   intro r hr
   simp [argV] at hr
   subst hr
   exact rw_n (hv hk)
theorem evT_ok {M : Bov} (hM : BdOk M) (n : Nat) : ∀ t,Wf t → wellT n t = true → (evT n M t).ok:=by
 induction n with
 | zero=>intro t _ h;cases h
 | succ n ih =>
   intro t hW hw
   have hx : ∀ x ∈ t.l,Wf x:=by cases hW;assumption
   have hn : I64 t.n:=by cases hW;assumption
   unfold wellT at hw
   unfold evT
   by_cases h0 : t.k = 0
   · rw [if_pos h0];exact mkNum_ok _ hn
   rw [if_neg h0] at hw ⊢
   by_cases h1 : t.k = 1
   · rw [if_pos h1];exact mkText_ok _
   rw [if_neg h1] at hw ⊢
   by_cases h2 : t.k = 2
   · rw [if_pos h2];trivial
   rw [if_neg h2] at hw ⊢
   by_cases h3 : t.k = 3
   · rw [if_pos h3];exact mkErr_ok _
   rw [if_neg h3] at hw ⊢
   by_cases h4 : t.k = 4
   · rw [if_pos h4];exact hM.v _ _
   rw [if_neg h4] at hw ⊢
   by_cases h6 : t.k = 6
   · rw [if_pos h6] at hw ⊢
     simp at hw
     split
     · rename_i x l e
       exact neg_ok (ih x (hx x J32) (hw.2 x J32))
     · trivial
   rw [if_neg h6] at hw ⊢
   by_cases h7 : t.k = 7
   · rw [if_pos h7] at hw ⊢
     simp at hw
     split
     · rename_i x y l e
       exact bin_ok _ (ih x (hx x J32) (hw.2 x J32)) (ih y (hx y J32) (hw.2 y J32))
     · trivial
   rw [if_neg h7] at hw ⊢
   by_cases h8 : t.k = 8
   · rw [if_pos h8] at hw
     simp at hw
     obtain ⟨⟨⟨_,_⟩,hB⟩,hall⟩:=hw
     have hB':=knB_20 t.s
     have hA : ∀ x ∈ t.l,argOk n M x:=fun x hm=>argX_ok hM
       (fun hk=>by have:=hall x hm;rw [if_pos hk] at this;simpa using this)
       (fun hk=>by have:=hall x hm;rw [if_neg hk] at this;exact ih x (hx x hm) this)
     refine fn_ok _ (fun g hg=>?_) (args_seen (fun b hb=>?_) J6)
     · unfold gsOf at hg
       simp at hg
       obtain ⟨x,hm,e⟩:=hg
       exact (hA x hm).1 g (by rw [← e];simp [argX])
     · simp at hb
       obtain ⟨x,hm,e⟩:=hb
       rw [← e]
       exact (hA x hm).2.1
   rw [if_neg h8] at hw
   cases hw
abbrev Rq:=Int × Int × Int × Int
def inQ (q : Rq) (r c : Int) : Bool:=hasR q.1 q.2.1 q.2.2.1 q.2.2.2 r c
def Lik (qs : List Rq) (M N : Bov) : Prop:=∀ q ∈ qs,∀ r c,inQ q r c = true → M r c = N r c
theorem rect_in {a b : Rf} (ha : inB a.1 a.2.1 = true) (hb : inB b.1 b.2.1 = true) (r c : Int) (h1 : mnI a.1 b.1 ≤ r) (h2 : r ≤ mxI a.1 b.1) (h3 : mnI a.2.1 b.2.1 ≤ c) (h4 : c ≤ mxI a.2.1 b.2.1) : inQ (rcT a b) r c = true:=by
 obtain ⟨k1,k2,k3,k4,k5,k6⟩:=rect_le ha hb
 have hr : rcB a.1 a.2.1 b.1 b.2.1 = true:=by unfold rcB;rw [ha,hb];rfl
 unfold inQ rcT
 rw [if_pos hr]
 unfold hasR canR inB
 simp
 omega
theorem argR_same {a b : Rf} {M N : Bov} (ha : inB a.1 a.2.1 = true) (hb : inB b.1 b.2.1 = true) (h : Lik [rcT a b] M N) : argR M a b = argR N a b:=by
 obtain ⟨k1,k2,k3,k4,k5,k6⟩:=rect_le ha hb
 unfold argR argA
 rw [areA_same _ _ _ _ (fun i j hi hj=>h _ J60 _ _ (rect_in ha hb _ _ J2 J2 J2 J2))]
theorem evT_same {M N : Bov} (n : Nat) : ∀ t,Hr n t → wellT n t = true → Lik (refsT n t) M N → evT n M t = evT n N t:=by
 induction n with
 | zero=>intro t _ _ _;rfl
 | succ n ih =>
   intro t hH hw h
   have hHx : ∀ x ∈ t.l,Hr n x:=hH.2
   unfold wellT at hw
   rw [evT,evT]
   unfold refsT at h
   by_cases h0 : t.k = 0
   · rw [if_pos h0,if_pos h0]
   rw [if_neg h0] at hw;rw [if_neg h0,if_neg h0]
   by_cases h1 : t.k = 1
   · rw [if_pos h1,if_pos h1]
   rw [if_neg h1] at hw;rw [if_neg h1,if_neg h1]
   by_cases h2 : t.k = 2
   · rw [if_pos h2,if_pos h2]
   rw [if_neg h2] at hw;rw [if_neg h2,if_neg h2]
   by_cases h3 : t.k = 3
   · rw [if_pos h3,if_pos h3]
   rw [if_neg h3] at hw;rw [if_neg h3,if_neg h3]
   by_cases h4 : t.k = 4
   · rw [if_pos h4,if_pos h4]
     rw [if_pos h4] at hw h
     exact h _ J60 _ _ (rect_in hw hw _ _ (by unfold mnI;split <;> omega) (by unfold mxI;split <;> omega) (by unfold mnI;split <;> omega) (by unfold mxI;split <;> omega))
   rw [if_neg h4] at hw h;rw [if_neg h4,if_neg h4]
   have h5 : t.k ≠ 5:=by
     intro h5
     rw [if_neg J2,if_neg J2,if_neg J2] at hw
     cases hw
   rw [if_neg h5] at h
   have sub : ∀ x ∈ t.l,prB t.k = true → Lik (refsT n x) M N:=fun x hx hp q hq=>h q (by rw [if_pos hp];exact List.mem_flatten.2 ⟨_,List.mem_map.2 ⟨x,hx,rfl⟩,hq⟩)
   by_cases h6 : t.k = 6
   · rw [if_pos h6,if_pos h6]
     rw [if_pos h6] at hw
     simp at hw
     have hp : prB t.k = true:=by rw [h6];rfl
     split
     · rename_i x l e
       rw [ih x (hHx x J32) (hw.2 x J32) (sub x J32 hp)]
     · rfl
   rw [if_neg h6] at hw;rw [if_neg h6,if_neg h6]
   by_cases h7 : t.k = 7
   · rw [if_pos h7,if_pos h7]
     rw [if_pos h7] at hw
     simp at hw
     have hp : prB t.k = true:=by rw [h7];rfl
     split
     · rename_i x y l e
       rw [ih x (hHx x J32) (hw.2 x J32) (sub x J32 hp),ih y (hHx y J32) (hw.2 y J32) (sub y J32 hp)]
     · rfl
   rw [if_neg h7] at hw;rw [if_neg h7,if_neg h7]
   by_cases h8 : t.k = 8
   · rw [if_pos h8] at hw
     simp at hw
     obtain ⟨_,hall⟩:=hw
     have hp : prB t.k = true:=by rw [h8];rfl
     congr 1
     refine List.map_congr_left (fun x hx=>?_)
     have hw':=hall x hx
     by_cases hk : x.k = 5
     · rw [if_pos hk,if_pos hk]
       rw [if_pos hk] at hw'
       obtain ⟨m,rfl⟩ : ∃ m,n = m + 1:=by
         cases n with
         | zero=>exact (hHx x hx).elim
         | succ m=>exact ⟨m,rfl⟩
       refine argR_same hw'.1 hw'.2 ?_
       have:=sub x hx hp
       rw [refsT,if_neg J2,if_pos hk] at this
       exact this
     · rw [if_neg hk,if_neg hk]
       rw [if_neg hk] at hw'
       rw [ih x (hHx x hx) hw' (sub x hx hp)]
   rw [if_neg h8] at hw
   cases hw
theorem expV_same {M N : Bov} (n : Nat) (t : T) (hH : Hr n t) (h : Lik (refsT n t) M N) : expV n M t = expV n N t:=by
 unfold expV
 split
 · exact evT_same n t hH (by assumption) h
 · rfl
end Go.Proofs.YtcfgbiaahangmaaGreatDoor

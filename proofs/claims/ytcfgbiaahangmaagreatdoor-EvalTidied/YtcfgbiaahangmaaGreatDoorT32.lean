import Derived.Test.YtcfgbiaahangmaaGreatDoorT31
import Derived.Deep.RegionWith
import Derived.Laws.IdiomStrings
set_option maxHeartbeats 4000000
namespace Go.Proofs.YtcfgbiaahangmaaGreatDoor
open Go.RowKit
def RdI (W : World) (v : Value) (l : List V) : Prop:=∃ base,W.ownsRow base 2 1 v l.length (l.flatMap cI)
theorem RdI.ext {W W' : World} {v : Value} {l : List V} (h : RdI W v l) (e : Ext W W') : RdI W' v l:=by
 obtain ⟨b,h⟩:=h
 exact ⟨b,ownsRow_ext h e⟩
theorem RdI.form {W : World} {v : Value} {l : List V} (h : RdI W v l) : ∃ p c,v = .slice p l.length c:=by
 obtain ⟨b,h⟩:=h
 obtain ⟨p,c,h,_⟩:=own_form h
 exact ⟨p,c,h⟩
theorem RdI.at {W : World} {p : Option Addr} {n c : Nat} {l : List V} (h : RdI W (.slice p n c) l) {i : Nat} (hi : i < l.length) : ∃ g v,p = some ⟨g,0,none⟩ ∧ l[i]? = some v ∧ g < W.heap.size ∧ W.cell? ⟨g,i,none⟩ = some (.int .i64 v.n):=by
 obtain ⟨b,h⟩:=h
 rcases h.2 with ⟨_,h0⟩ | ⟨g,cap,cur,h1,h2,h3,h4⟩
 · omega
 · cases h1
   refine ⟨g,l[i],rfl,gEq hi,(Array.getElem?_eq_some_iff.1 h3).1,?_⟩
   have:=h.cells (g:=g) rfl (i * 1 + 0) (.int .i64 l[i].n) (by rw [fm_at cI 1 cI_len l i _ 0 (gEq hi) J6];rfl)
   rw [Addr.add_lit] at this
   simpa using this
def Ac (W : World) (b : Nat) (x : Int) : Prop:=b < W.heap.size ∧ (W.cell? ⟨b,0,none⟩ = some (.int .i64 (hiOf x)) ∧ W.cell? ⟨b,1,none⟩ = some (.int .u64 (loOf x))) ∧ W.frozen? ⟨b,0,none⟩ = false ∧ W.frozen? ⟨b,1,none⟩ = false
theorem Ac.ext {W W' : World} {b : Nat} {x : Int} (h : Ac W b x) (e : Ext W W') : Ac W' b x :=
 ⟨llL h.1 e.size,⟨(e.cell.1 b 0 h.1).trans h.2.1.1,(e.cell.1 b 1 h.1).trans h.2.1.2⟩,(e.cell.2 b 0 h.1).trans h.2.2.1,(e.cell.2 b 1 h.1).trans h.2.2.2⟩
theorem Ac.set {W : World} {b : Nat} {x : Int} (h : Ac W b x) (y : Int) : Ac ((W.setCell ⟨b,0,none⟩ (.int .i64 (hiOf y))).setCell ⟨b,1,none⟩ (.int .u64 (loOf y))) b y:=by
 obtain ⟨z,⟨k0,k1⟩,f0,f1⟩:=h
 have e0:=wSa W ⟨b,0,none⟩ (.int .i64 (hiOf y)) (by rw [k0])
 have j1 : (W.setCell ⟨b,0,none⟩ (.int .i64 (hiOf y))).cell? ⟨b,1,none⟩ = some (.int .u64 (loOf x)):=J72
 have e1:=wSa _ ⟨b,1,none⟩ (.int .u64 (loOf y)) (by rw [j1])
 exact ⟨by simpa [World.setCell] using z,⟨by rw [wO _ _ _ _ J60];exact e0,e1⟩,by simpa [go_sem] using f0,by simpa [go_sem] using f1⟩
theorem Ac.far {W : World} {b c o : Nat} {x : Int} {u : Value} (h : Ac W b x) (hc : c ≠ b) : Ac (W.setCell ⟨c,o,none⟩ u) b x:=by
 obtain ⟨z,⟨k0,k1⟩,f0,f1⟩:=h
 exact ⟨by simpa [World.setCell] using z,⟨by rw [wFa _ _ _ _ hc];exact k0,by rw [wFa _ _ _ _ hc];exact k1⟩,by simpa [go_sem] using f0,by simpa [go_sem] using f1⟩
theorem badT (s : List (V × Bool)) (x : V × Bool) : bad truF (s ++ [x]) = if (bad truF s).k = 4 then bad truF s else if (truF x.1 x.2).k = 4 then truF x.1 x.2 else .blank:=bad_app truF s [x]
theorem badT_keep (s : List (V × Bool)) (x : V × Bool) (h : (truF x.1 x.2).k ≠ 4 ∨ (bad truF s).k = 4) : bad truF (s ++ [x]) = bad truF s:=by
 rw [badT]
 rcases bad_kind truF s with k | k
 · rcases h with h | h
   · rw [k,if_neg J6,if_neg h]
   · rw [if_pos h]
 · rw [if_pos k]
structure Tru (W : World) (s : List (V × Bool)) (V' : World) : Prop where
 e : Ext W V'
 w : Blk V' (W.heap.size + 1) (.int .i64 (bad truF s).k) (.int .i64 (bad truF s).n) (.string (bad truF s).s) (.int .i64 (bad truF s).e)
 z : Blk V' W.heap.size (.int .i64 0) (.int .i64 0) (.string ⟨#[]⟩) (.int .i64 0)
theorem Tru.ext {W : World} {s : List (V × Bool)} {V1 V2 : World} (h : Tru W s V1) (e : Ext V1 V2) : Tru W s V2:=⟨h.e.trans e,h.w.ext e,h.z.ext e⟩
theorem Tru.same {W : World} {s : List (V × Bool)} {V1 V2 : World} (h : Tru W s V1) (e : Ext V1 V2) (x : V × Bool) (hk : (truF x.1 x.2).k ≠ 4 ∨ (bad truF s).k = 4) : Tru W (s ++ [x]) V2:=by
 have hb:=badT_keep s x hk
 obtain ⟨a,f,g⟩:=h.ext e
 exact ⟨a,by rw [hb];exact f,g⟩
theorem Tru.err {W : World} {s : List (V × Bool)} {V1 V2 : World} (h : Tru W s V1) (e : Ext V1 V2) (x : V × Bool) (y : V) (hy : truF x.1 x.2 = y) (hk : y.k = 4) (hb4 : (bad truF s).k ≠ 4) : Tru W (s ++ [x]) (put4 V2 (W.heap.size + 1) (.int .i64 y.k) (.int .i64 y.n) (.string y.s) (.int .i64 y.e)):=by
 subst hy
 have hb : bad truF (s ++ [x]) = truF x.1 x.2:=by rw [badT,if_neg hb4,if_pos hk]
 obtain ⟨a,f,g⟩:=h.ext e
 refine ⟨?_,?_,?_⟩
 · exact (((a.setCell J60 _).setCell J60 _).setCell J60 _).setCell J60 _
 · rw [hb];exact f.set _ _ _ _
 · exact g.far J2 _ _ _ _
structure CatS (W : World) (s : List (V × Bool)) (ov : Value) (V' : World) : Prop where
 e : Ext W V'
 o : V'.ownsRow (W.heap.size + 1) 5 1 ov (allC (got texF s)).length (Lib.byteCells (allC (got texF s)))
 f : ∃ g cap,ov = .slice (some ⟨g,0,none⟩) (allC (got texF s)).length cap
 z : Blk V' W.heap.size (.int .i64 0) (.int .i64 0) (.string ⟨#[]⟩) (.int .i64 0)
 b : bad texF s = .blank
 l : (allC (got texF s)).length ≤ 300 * s.length
theorem CatS.ext {W : World} {s : List (V × Bool)} {ov : Value} {V1 V2 : World} (h : CatS W s ov V1) (e : Ext V1 V2) : CatS W s ov V2 :=
 ⟨h.e.trans e,ownsRow_ext h.o e,h.f,h.z.ext e,h.b,h.l⟩
theorem CatS.conv {W : World} {s : List (V × Bool)} {ov : Value} {V1 : World} (h : CatS W s ov V1) : (convert 189 9 ov).run Tryz.prog V1 = .ok (.string (bs (allC (got texF s)))) V1:=by
 obtain ⟨g,cap,rfl⟩:=h.f
 exact run_convert_bytes_back V1 189 9 5 ⟨g,0,none⟩ cap _ Tryz.underlying189 Tryz.underlying5 Tryz.underlying9 (fun j hj=>h.o.cells (g:=g) rfl j _ (by rw [gEq (by rw [Lib.byteCells_length];exact hj)];simp [Lib.byteCells]))
theorem bad_ok {f : V → Bool → V} (hf : ∀ v a,v.ok → (f v a).ok) {l : List (V × Bool)} (h : OkS l) : (bad f l).ok:=by
 induction l with
 | nil=>trivial
 | cons p l ih =>
   unfold bad
   split
   · exact hf _ _ (h p J60)
   · exact ih (fun q hq=>h q (by simp [hq]))
theorem orBad_ok {b v : V} (hb : b.ok) (hv : v.ok) : (orBad b v).ok:=by unfold orBad;split <;> assumption
theorem toldR_ok (b : Bool) (n : Int) (h : I64 n) : (toldR b n).ok:=by
 unfold toldR
 split
 · exact mkNum_ok n h
 · exact K79
theorem best_i (p : Int → Int → Bool) (l : List V) (b : Int) (hb : I64 b) (h : ∀ v ∈ l,I64 v.n) : I64 (bestF p b l):=by
 induction l generalizing b with
 | nil=>exact hb
 | cons v l ih =>
   show I64 (bestF p (if p v.n b then v.n else b) l)
   refine ih _ ?_ (fun u hu=>h u (by simp [hu]))
   split
   · exact h v J60
   · exact hb
theorem bestN_i (p : Int → Int → Bool) (l : List V) (h : ∀ v ∈ l,I64 v.n) : I64 (bestN p l):=by
 cases l with
 | nil=>exact I64.z
 | cons v l=>exact best_i p l v.n (h v J60) (fun u hu=>h u (by simp [hu]))
theorem AllN.i {l : List V} (h : AllN l) : ∀ v ∈ l,I64 v.n:=fun v hv=>by obtain ⟨n,rfl,h1,_⟩:=h v hv;exact h1
theorem toldV_i (x : Int) : I64 (toldV x):=by
 unfold toldV
 split
 · unfold sg64
   exact K130
 · exact I64.z
theorem meanV_i (x n : Int) : I64 (meanV x n):=by
 unfold meanV
 split
 · rename_i h
   unfold meanB at h
   simp at h
   have h0 : 0 ≤ meanQ x n:=by
     unfold meanQ
     apply Int.ediv_nonneg
     · have : 0 ≤ absI x:=J91
       omega
     · omega
   split <;> exact ⟨by omega,by omega⟩
 · exact I64.z
theorem floorV_i (a : Int) (_ : I64 a) : I64 (floorV a):=by
 unfold floorV subV
 split
 · split
   · rename_i h2
     unfold subB fitB at h2
     simp at h2
     exact K130
   · exact I64.z
 · exact I64.z
theorem rootV_i (a : Int) (h : I64 a) : I64 (rootV a):=by
 unfold rootV
 split
 · have hr:=rt_is (a.toNat * 10000)
   have h1 : rtN (a.toNat * 10000) ≤ 9223372036854775807:=by
     rcases Nat.lt_or_ge 9223372036854775807 (rtN (a.toNat * 10000)) with h2 | h2
     · have h3:=hr.1
       have h4 : 9223372036854775808 * 9223372036854775808 ≤ rtN (a.toNat * 10000) * rtN (a.toNat * 10000):=Nat.mul_le_mul h2 h2
       obtain ⟨i1,i2⟩:=h
       omega
     · exact h2
   exact K130
 · exact I64.z
theorem sgnV_i (b : Bool) (n : Nat) : I64 (sgnV b n):=by
 unfold sgnV
 split
 · rename_i h
   unfold sgnB at h
   simp at h
   split <;> exact ⟨by omega,by omega⟩
 · exact I64.z
theorem rndV_i (a d : Int) (h : I64 a) : I64 (rndV a d):=by
 unfold rndV
 split
 · split
   · exact h
   · split
     · exact I64.z
     · exact sgnV_i _ _
 · exact I64.z
theorem modV_i (a b : Int) (_ : I64 a) (hb : I64 b) : I64 (modV a b):=by
 unfold modV
 split
 · rename_i h
   have hb0 : b ≠ 0:=by unfold modB at h;simp at h;exact h.2
   have hf:=fm_bd a b hb0
   obtain ⟨i1,i2⟩:=hb
   exact K130
 · exact I64.z
theorem Fit.ok {W : World} {v : Value} {gs : List Ag} (h : Fit W v gs) : (fSum gs).ok ∧ (fCount gs).ok ∧ (∀ p,(fBest p gs).ok) ∧ (fMean gs).ok ∧ (∀ b,(fTruth b gs).ok) ∧ (fCat gs).ok:=by
 have hs:=seen_ok gs h.i
 have hb:=bad_ok numF_okk hs
 have hi:=(got_nums _ hs).i
 have hl:=h.num
 refine ⟨orBad_ok hb (toldR_ok _ _ (toldV_i _)),mkNum_ok _ ⟨by omega,by omega⟩,fun p=>orBad_ok hb (mkNum_ok _ (bestN_i p _ hi)),orBad_ok hb ?_,fun b=>orBad_ok (bad_ok truF_okk hs) ?_,orBad_ok (bad_ok texF_okk hs) (mkText_ok _)⟩
 · split
   · exact K79
   · exact toldR_ok _ _ (meanV_i _ _)
 · split
   · exact K79
   · trivial
end Go.Proofs.YtcfgbiaahangmaaGreatDoor

import Derived.Test.YtcfgbiaahangmaaGreatDoorB17
import Derived.Deep.RegionWith
set_option maxHeartbeats 1000000
namespace Go.Proofs.YtcfgbiaahangmaaGreatDoor
open Go.RowKit
def cI (v : V) : List Value:=[.int .i64 v.n]
theorem cI_len (v : V) : (cI v).length = 1:=rfl
theorem own_app2 {TS T : TypeId} {k bytes : Nat} (hT : Elt TS T k bytes) {ops : Array Oper} {rest : List Oper} {o : Oper} {a : Act} {Q : Exit → Act → World → Prop} (W w : World) (s x : Operand) (v va : Value) (n m : Nat) (xs news : List Value) (base : Nat) (hgd : o.guard = none)
   (ho : o.op = .call { callee:=.builtin .append,args:=#[s,x],argTypes:=#[TS,TS] })
   (hs : a.eval s = v) (hx : a.eval x = va) (hB : W.ownsRow base T k v n xs) (hR : RowC W va m k news) (h1c : ∀ u ∈ news,u.oneCell' = true) (hm : n + m ≤ maxLen) (hby : (n + m) * bytes ≤ 140737488355328) (hE : Ext w W) (hb : w.heap.size ≤ base) (hb2 : base ≤ W.heap.size)
   (h : ∀ v' W',W'.ownsRow base T k v' (n + m) (xs ++ news) → Ext w W' → W.grownBy W' v.ownBlock → (v'.ownBlock = v.ownBlock ∨ v'.ownBlock = some W.heap.size) → wpList Tryz.prog ops Q rest (a.put o.dst v') W') : wpList Tryz.prog ops Q (o :: rest) a W:=by
 obtain ⟨hl,p,c,rfl,hR⟩:=hR
 obtain ⟨i,z,hi,hz,h1,h2,h3⟩:=hT.i
 rcases hR with ⟨rfl,rfl⟩ | ⟨ad,rfl,hR⟩
 · have hn : news = []:=List.eq_nil_of_length_eq_zero J46
   subst hn
   obtain ⟨p,cap,rfl,hc⟩:=own_form hB
   refine Lib.wpList_append_run W hgd s x _ _ ho _ _ hs hx _ _ (run_append_noneG hT W o.type p n cap c hc) ?_
   exact h _ W (by simpa using hB) hE ⟨rfl,rfl,rfl,Nat.le_refl _,fun _ _ _=>rfl⟩ (.inl rfl)
 · refine wpList_append_own_at W hgd s x TS ho base T i z k bytes hT.u hi hz h1 h2 h3 hT.k0 v n xs hs hB ad m c news hx hl hR h1c hm hby hb2 ?_
   intro v' W' h3 h4 _ h5
   exact h v' W' h3 (ext_grownG hB hb hE h4) h4 h5
theorem Blk.grown {W W' : World} {q : Nat} {x0 x1 x2 x3 : Value} {row : Option Nat} (B : Blk W q x0 x1 x2 x3) (hg : W.grownBy W' row) (hq : row ≠ some q) : Blk W' q x0 x1 x2 x3:=by
 have e:=hg.block q B.1 (fun h=>hq h.symm)
 exact B.cells hg.size (fun o=>⟨World.cell?_of_block (w:=W) e,World.frozen?_of_block (w:=W) e⟩)
def RdO (B : Nat) (V : World) (v : Value) (l : List Rw) (i : Nat) : Prop:=(∃ p c,v = .slice p l.length c) ∧ (RdV B V v l ∨ (l.length = 1 ∧ i = 0 ∧ RdV V.heap.size V v l) ∨ i = l.length)
theorem RdO.next {B i : Nat} {V V' : World} {v : Value} {l : List Rw} (h : RdO B V v l i) (hi : i < l.length) (e : Below B V V') : RdO B V' v l (i + 1):=by
 refine ⟨h.1,?_⟩
 rcases h.2 with h | ⟨h1,h2,_⟩ | h
 · exact .inl (h.low e)
 · exact .inr (.inr J2)
 · omega
theorem RdO.at {B i n c : Nat} {V : World} {p : Option Addr} {l : List Rw} (h : RdO B V (.slice p n c) l i) (hi : i < l.length) :
   ∃ b off r,p = some ⟨b,off,none⟩ ∧ l[i]? = some r ∧ b < V.heap.size ∧
     V.cell? ⟨b,off + i * 4,none⟩ = some (.int .i64 r.k) ∧ V.cell? ⟨b,off + i * 4 + 1,none⟩ = some (.int .i64 r.n) ∧ V.cell? ⟨b,off + i * 4 + 2,none⟩ = some (.string r.s) ∧ V.cell? ⟨b,off + i * 4 + 3,none⟩ = some (.int .i64 r.e):=by
 rcases h.2 with h | ⟨_,_,h⟩ | h
 · obtain ⟨b,off,r,h1,h2,_,h3⟩:=h.at hi
   exact ⟨b,off,r,h1,h2,h3⟩
 · obtain ⟨b,off,r,h1,h2,_,h3⟩:=h.at hi
   exact ⟨b,off,r,h1,h2,h3⟩
 · omega
theorem RdO.of {B : Nat} {V : World} {p : Option Addr} {n c : Nat} {l : List Rw} (h : RdV B V (.slice p n c) l ∨ (l.length = 1 ∧ RdV V.heap.size V (.slice p n c) l)) : RdO B V (.slice p n c) l 0 ∧ n = l.length:=by
 rcases h with h | ⟨h1,h⟩
 · have:=h.len;subst this;exact ⟨⟨⟨_,_,rfl⟩,.inl h⟩,rfl⟩
 · have:=h.len;subst this;exact ⟨⟨⟨_,_,rfl⟩,.inr (.inl ⟨h1,rfl,h⟩)⟩,rfl⟩
structure Nums (W : World) (s : List (V × Bool)) (ov : Value) (V' : World) : Prop where
 e : Ext W V'
 o : V'.ownsRow W.heap.size 2 1 ov (got numF s).length ((got numF s).flatMap cI)
 q : ov.ownBlock ≠ some (W.heap.size + 2)
 r : ov.ownBlock ≠ some W.heap.size
 w : Blk V' (W.heap.size + 2) (.int .i64 (bad numF s).k) (.int .i64 (bad numF s).n) (.string (bad numF s).s) (.int .i64 (bad numF s).e)
 z : Blk V' W.heap.size (.int .i64 0) (.int .i64 0) (.string ⟨#[]⟩) (.int .i64 0)
theorem Nums.ext {W : World} {s : List (V × Bool)} {ov : Value} {V1 V2 : World} (h : Nums W s ov V1) (e : Ext V1 V2) : Nums W s ov V2 :=
 ⟨h.e.trans e,ownsRow_ext h.o e,h.q,h.r,h.w.ext e,h.z.ext e⟩
theorem got_s (s : List (V × Bool)) (x : V × Bool) : got numF (s ++ [x]) = if goes (numF x.1 x.2) then got numF s ++ [numF x.1 x.2] else got numF s:=by
 rw [got_app]
 show got numF s ++ (if goes (numF x.1 x.2) then [numF x.1 x.2] else []) = _
 split
 · rfl
 · simp
theorem bad_s (s : List (V × Bool)) (x : V × Bool) : bad numF (s ++ [x]) = if (bad numF s).k = 4 then bad numF s else if (numF x.1 x.2).k = 4 then numF x.1 x.2 else .blank:=bad_app numF s [x]
theorem bad_keep (s : List (V × Bool)) (x : V × Bool) (h : (numF x.1 x.2).k ≠ 4 ∨ (bad numF s).k = 4) : bad numF (s ++ [x]) = bad numF s:=by
 rw [bad_s]
 rcases bad_kind numF s with k | k
 · rcases h with h | h
   · rw [k,if_neg J9,if_neg h]
   · rw [if_pos h]
 · rw [if_pos k]
theorem Nums.more {W : World} {s : List (V × Bool)} {ov : Value} {V1 WA W' : World} {v' : Value} (h : Nums W s ov V1) (e : Ext V1 WA) (x : V × Bool) (y : V) (hy : numF x.1 x.2 = y) (hk : y.k = 2)
   (k1 : W'.ownsRow W.heap.size 2 1 v' ((got numF s).length + 1) ((got numF s).flatMap cI ++ [.int .i64 y.n])) (k2 : Ext W W') (k3 : WA.grownBy W' ov.ownBlock) (k4 : v'.ownBlock = ov.ownBlock ∨ v'.ownBlock = some WA.heap.size) : Nums W (s ++ [x]) v' W':=by
 subst hy
 have hg : got numF (s ++ [x]) = got numF s ++ [numF x.1 x.2]:=by rw [got_s,if_pos J49]
 have hb : bad numF (s ++ [x]) = bad numF s:=bad_keep s x (.inl J11)
 have hz : W.heap.size + 2 < WA.heap.size:=llL h.w.1 e.size
 refine ⟨k2,?_,?_,?_,?_,?_⟩
 · rw [hg];simpa [cI] using k1
 · rcases k4 with k | k
   · rw [k];exact h.q
   · rw [k];intro q;simp at q;omega
 · rcases k4 with k | k
   · rw [k];exact h.r
   · rw [k];intro q;simp at q;omega
 · rw [hb];exact (h.w.ext e).grown k3 h.q
 · exact (h.z.ext e).grown k3 h.r
theorem Nums.same {W : World} {s : List (V × Bool)} {ov : Value} {V1 V2 : World} (h : Nums W s ov V1) (e : Ext V1 V2) (x : V × Bool) (hk : (numF x.1 x.2).k = 0 ∨ ((numF x.1 x.2).k = 4 ∧ (bad numF s).k = 4)) : Nums W (s ++ [x]) ov V2:=by
 have hg : got numF (s ++ [x]) = got numF s:=by
   rw [got_s]
   rcases hk with hk | ⟨hk,_⟩
   · rw [if_neg J49]
   · rw [if_neg J49]
 have hb : bad numF (s ++ [x]) = bad numF s:=by
   rcases hk with hk | ⟨_,hk⟩
   · exact bad_keep s x (.inl J11)
   · exact bad_keep s x (.inr hk)
 obtain ⟨a,b,c,d,f,g⟩:=h.ext e
 exact ⟨a,by rw [hg];exact b,c,d,by rw [hb];exact f,g⟩
theorem own_far {X : World} {base n k b o : Nat} {T : TypeId} {ov u : Value} {xs : List Value} (hX : X.ownsRow base T k ov n xs) (c : ov.ownBlock ≠ some b) : (X.setCell ⟨b,o,none⟩ u).ownsRow base T k ov n xs:=by
 refine ⟨hX.1,?_⟩
 rcases hX.2 with hX | ⟨gg,cap,cur,h1,h2,h3,h4⟩
 · exact .inl hX
 · refine .inr ⟨gg,cap,cur,h1,h2,?_,h4⟩
   rw [Below.heap_setCell _ _ _ _ (by intro q;apply c;rw [h1];show some gg = _;rw [show gg = b from q])]
   exact h3
theorem Nums.err {W : World} {s : List (V × Bool)} {ov : Value} {V1 V2 : World} (h : Nums W s ov V1) (e : Ext V1 V2) (x : V × Bool) (y : V) (hy : numF x.1 x.2 = y) (hk : y.k = 4) (hb4 : (bad numF s).k ≠ 4) : Nums W (s ++ [x]) ov (put4 V2 (W.heap.size + 2) (.int .i64 y.k) (.int .i64 y.n) (.string y.s) (.int .i64 y.e)):=by
 subst hy
 have hg : got numF (s ++ [x]) = got numF s:=by rw [got_s,if_neg J49]
 have hb : bad numF (s ++ [x]) = numF x.1 x.2:=by rw [bad_s,if_neg hb4,if_pos hk]
 obtain ⟨a,b,c,d,f,g⟩:=h.ext e
 have far : ∀ (X : World) (u : Value) (o : Nat),X.ownsRow W.heap.size 2 1 ov (got numF s).length ((got numF s).flatMap cI) → (X.setCell ⟨W.heap.size + 2,o,none⟩ u).ownsRow W.heap.size 2 1 ov (got numF s).length ((got numF s).flatMap cI):=by
   intro X u o hX
   refine ⟨hX.1,?_⟩
   rcases hX.2 with hX | ⟨gg,cap,cur,h1,h2,h3,h4⟩
   · exact .inl hX
   · refine .inr ⟨gg,cap,cur,h1,h2,?_,h4⟩
     rw [Below.heap_setCell _ _ _ _ (by intro q;apply c;rw [h1];show some gg = _;rw [show gg = W.heap.size + 2 from q])]
     exact h3
 refine ⟨?_,?_,c,d,?_,?_⟩
 · exact (((a.setCell J58 _).setCell J58 _).setCell J58 _).setCell J58 _
 · rw [hg];exact far _ _ _ (far _ _ _ (far _ _ _ (far _ _ _ b)))
 · rw [hb];exact f.set _ _ _ _
 · exact g.far J2 _ _ _ _
def RdI (W : World) (v : Value) (l : List V) : Prop:=∃ base,W.ownsRow base 2 1 v l.length (l.flatMap cI)
theorem RdI.ext {W W' : World} {v : Value} {l : List V} (h : RdI W v l) (e : Ext W W') : RdI W' v l:=by
 obtain ⟨b,h⟩:=h
 exact ⟨b,ownsRow_ext h e⟩
theorem RdI.form {W : World} {v : Value} {l : List V} (h : RdI W v l) : ∃ p c,v = .slice p l.length c:=by
 obtain ⟨b,h⟩:=h
 obtain ⟨p,c,h,_⟩:=own_form h
 exact ⟨p,c,h⟩
theorem RdI.at {W : World} {p : Option Addr} {n c : Nat} {l : List V} (h : RdI W (.slice p n c) l) {i : Nat} (hi : i < l.length) : ∃ g v,p = some ⟨g,0,none⟩ ∧ l[i]? = some v ∧ g < W.heap.size ∧ W.cell? ⟨g,i,none⟩ = some (.int .i64 v.n):=by
 obtain ⟨b,h⟩:=h
 rcases h.2 with ⟨_,h0⟩ | ⟨g,cap,cur,h1,h2,h3,h4⟩
 · omega
 · cases h1
   refine ⟨g,l[i],rfl,gEq hi,(Array.getElem?_eq_some_iff.1 h3).1,?_⟩
   have:=h.cells (g:=g) rfl (i * 1 + 0) (.int .i64 l[i].n) (by rw [fm_at cI 1 cI_len l i _ 0 (gEq hi) J9];rfl)
   rw [Addr.add_lit] at this
   simpa using this
def Ac (W : World) (b : Nat) (x : Int) : Prop:=b < W.heap.size ∧ (W.cell? ⟨b,0,none⟩ = some (.int .i64 (hiOf x)) ∧ W.cell? ⟨b,1,none⟩ = some (.int .u64 (loOf x))) ∧ W.frozen? ⟨b,0,none⟩ = false ∧ W.frozen? ⟨b,1,none⟩ = false
theorem Ac.ext {W W' : World} {b : Nat} {x : Int} (h : Ac W b x) (e : Ext W W') : Ac W' b x :=
 ⟨llL h.1 e.size,⟨(e.cell.1 b 0 h.1).trans h.2.1.1,(e.cell.1 b 1 h.1).trans h.2.1.2⟩,(e.cell.2 b 0 h.1).trans h.2.2.1,(e.cell.2 b 1 h.1).trans h.2.2.2⟩
theorem Ac.set {W : World} {b : Nat} {x : Int} (h : Ac W b x) (y : Int) : Ac ((W.setCell ⟨b,0,none⟩ (.int .i64 (hiOf y))).setCell ⟨b,1,none⟩ (.int .u64 (loOf y))) b y:=by
 obtain ⟨z,⟨k0,k1⟩,f0,f1⟩:=h
 have e0:=wSa W ⟨b,0,none⟩ (.int .i64 (hiOf y)) (by rw [k0])
 have j1 : (W.setCell ⟨b,0,none⟩ (.int .i64 (hiOf y))).cell? ⟨b,1,none⟩ = some (.int .u64 (loOf x)):=J70
 have e1:=wSa _ ⟨b,1,none⟩ (.int .u64 (loOf y)) (by rw [j1])
 exact ⟨by simpa [World.setCell] using z,⟨by rw [wO _ _ _ _ J58];exact e0,e1⟩,by simpa [go_sem] using f0,by simpa [go_sem] using f1⟩
theorem Ac.far {W : World} {b c o : Nat} {x : Int} {u : Value} (h : Ac W b x) (hc : c ≠ b) : Ac (W.setCell ⟨c,o,none⟩ u) b x:=by
 obtain ⟨z,⟨k0,k1⟩,f0,f1⟩:=h
 exact ⟨by simpa [World.setCell] using z,⟨by rw [wFa _ _ _ _ hc];exact k0,by rw [wFa _ _ _ _ hc];exact k1⟩,by simpa [go_sem] using f0,by simpa [go_sem] using f1⟩
end Go.Proofs.YtcfgbiaahangmaaGreatDoor

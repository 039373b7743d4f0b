import Derived.Test.YtcfgbiaahangmaaGreatDoorN13
set_option maxHeartbeats 1000000
namespace Go.Proofs.YtcfgbiaahangmaaGreatDoor
open Go.RowKit
theorem fm_len {α : Type} (c : α → List Value) (k : Nat) (hc : ∀ x,(c x).length = k) (l : List α) : (l.flatMap c).length = l.length * k:=by
 induction l with
 | nil=>simp
 | cons x l ih=>rw [List.flatMap_cons,List.length_append,hc,ih,List.length_cons,Nat.succ_mul];omega
theorem fm_at {α : Type} (c : α → List Value) (k : Nat) (hc : ∀ x,(c x).length = k) : ∀ (l : List α) (i : Nat) (x : α) (j : Nat),l[i]? = some x → j < k → (l.flatMap c)[i * k + j]? = (c x)[j]?
 | [],i,x,j,h,_=>by simp at h
 | y :: l,0,x,j,h,hj=>by
   simp at h;subst h
   rw [List.flatMap_cons,Nat.zero_mul,Nat.zero_add,List.getElem?_append_left (by rw [hc];exact hj)]
 | y :: l,i + 1,x,j,h,hj=>by
   have ih:=fm_at c k hc l i x j J55 hj
   rw [List.flatMap_cons,List.getElem?_append_right (by rw [hc,Nat.succ_mul];omega),hc,← ih]
   congr 1
   rw [Nat.succ_mul];omega
theorem fm_get {α : Type} (c : α → List Value) (k : Nat) (hc : ∀ x,(c x).length = k) (hk : 0 < k) (l : List α) (j : Nat) (u : Value) (h : (l.flatMap c)[j]? = some u) : ∃ x,l[j / k]? = some x ∧ (c x)[j % k]? = some u:=by
 have hj : j < l.length * k:=by rw [← fm_len c k hc];exact (List.getElem?_eq_some_iff.1 h).1
 have hi : j / k < l.length:=by rw [Nat.div_lt_iff_lt_mul hk];exact hj
 refine ⟨l[j / k],gEq hi,?_⟩
 rw [← fm_at c k hc l (j / k) _ (j % k) (gEq hi) (Nat.mod_lt _ hk),Nat.mul_comm,Nat.div_add_mod]
 exact h
def cV (r : Rw) : List Value:=[.int .i64 r.k,.int .i64 r.n,.string r.s,.int .i64 r.e]
def cA (q : Ag × Int × Int × Value) : List Value:=[.bool q.1.area,.int .i64 q.2.1,.int .i64 q.2.2.1,q.2.2.2]
theorem cV_len (r : Rw) : (cV r).length = 4:=rfl
theorem eltV : Elt 111 33 4 40:=by
 refine ⟨Tryz.underlying111,?_,by decide⟩
 have h1 : (Tryz.prog.info? 33).isSome = true:=J3
 have h2 : (Tryz.prog.info? 33).bind (fun i=>i.zero) = some (.agg #[.int .i64 0,.int .i64 0,.string ⟨#[]⟩,.int .i64 0]):=J3
 have h3 : (Tryz.prog.info? 33).map (fun i=>(i.size,i.bytes)) = some (4,40):=J3
 cases h : Tryz.prog.info? 33 with
 | none=>rw [h] at h1;cases h1
 | some i =>
   exact K129
theorem eltA : Elt 107 113 4 48:=by
 refine ⟨Tryz.underlying107,?_,by decide⟩
 have h1 : (Tryz.prog.info? 113).isSome = true:=J3
 have h2 : (Tryz.prog.info? 113).bind (fun i=>i.zero) = some (.agg #[.bool false,.int .i64 0,.int .i64 0,.slice none 0 0]):=J3
 have h3 : (Tryz.prog.info? 113).map (fun i=>(i.size,i.bytes)) = some (4,48):=J3
 cases h : Tryz.prog.info? 113 with
 | none=>rw [h] at h1;cases h1
 | some i =>
   exact K129
theorem RdV.row {B : Nat} {W : World} {v : Value} {l : List Rw} (h : RdV B W v l) : RowC W v l.length 4 (l.flatMap cV):=by
 obtain ⟨p,c,h1,h2,h3⟩:=h
 refine ⟨fm_len cV 4 cV_len l,p,c,h1,?_⟩
 rcases h3 with rfl | ⟨b,off,rfl,_,_,h6⟩
 · exact K144
 · refine .inr ⟨_,rfl,fun j u hu=>?_⟩
   obtain ⟨r,hr,hu⟩:=fm_get cV 4 cV_len J9 l j u hu
   obtain ⟨k0,k1,k2,k3⟩:=h6 _ r hr
   rw [Addr.add_lit]
   have hj:=Nat.div_add_mod j 4
   have hm:=Nat.mod_lt j (show 0 < 4 by decide)
   match hmm : j % 4,hu with
   | 0,hu=>simp [cV] at hu;subst hu;rw [show off + j = off + j / 4 * 4 by omega];exact k0
   | 1,hu=>simp [cV] at hu;subst hu;rw [show off + j = off + j / 4 * 4 + 1 by omega];exact k1
   | 2,hu=>simp [cV] at hu;subst hu;rw [show off + j = off + j / 4 * 4 + 2 by omega];exact k2
   | 3,hu=>simp [cV] at hu;subst hu;rw [show off + j = off + j / 4 * 4 + 3 by omega];exact k3
   | q + 4,_=>omega
theorem own_rdV {W : World} {base : Nat} {v : Value} {l : List Rw} (h : W.ownsRow base 33 4 v l.length (l.flatMap cV)) : RdV W.heap.size W v l:=by
 rcases h.2 with ⟨rfl,h0⟩ | ⟨g,cap,cur,rfl,h2,h3,h4,h5⟩
 · exact K150
 · have hg : g < W.heap.size:=(Array.getElem?_eq_some_iff.1 h3).1
   refine ⟨_,cap,rfl,h4,.inr ⟨g,0,rfl,hg,hg,fun i r hr=>?_⟩⟩
   have k:=fun j (hj : j < 4) u (hu : (cV r)[j]? = some u)=>h.cells (g:=g) rfl (i * 4 + j) u (by rw [fm_at cV 4 cV_len l i r j hr hj];exact hu)
   simp only [Addr.add_lit] at k
   exact ⟨k 0 J9 _ rfl,k 1 J9 _ rfl,k 2 J9 _ rfl,k 3 J9 _ rfl⟩
def cI (v : V) : List Value:=[.int .i64 v.n]
theorem cI_len (v : V) : (cI v).length = 1:=rfl
theorem own_app2 {TS T : TypeId} {k bytes : Nat} (hT : Elt TS T k bytes) {ops : Array Oper} {rest : List Oper} {o : Oper} {a : Act} {Q : Exit → Act → World → Prop} (W w : World) (s x : Operand) (v va : Value) (n m : Nat) (xs news : List Value) (base : Nat) (hgd : o.guard = none)
   (ho : o.op = .call { callee:=.builtin .append,args:=#[s,x],argTypes:=#[TS,TS] })
   (hs : a.eval s = v) (hx : a.eval x = va) (hB : W.ownsRow base T k v n xs) (hR : RowC W va m k news) (h1c : ∀ u ∈ news,u.oneCell' = true) (hm : n + m ≤ maxLen) (hby : (n + m) * bytes ≤ 140737488355328) (hE : Ext w W) (hb : w.heap.size ≤ base) (hb2 : base ≤ W.heap.size)
   (h : ∀ v' W',W'.ownsRow base T k v' (n + m) (xs ++ news) → Ext w W' → W.grownBy W' v.ownBlock → (v'.ownBlock = v.ownBlock ∨ v'.ownBlock = some W.heap.size) → wpList Tryz.prog ops Q rest (a.put o.dst v') W') : wpList Tryz.prog ops Q (o :: rest) a W:=by
 obtain ⟨hl,p,c,rfl,hR⟩:=hR
 obtain ⟨i,z,hi,hz,h1,h2,h3⟩:=hT.i
 rcases hR with ⟨rfl,rfl⟩ | ⟨ad,rfl,hR⟩
 · have hn : news = []:=List.eq_nil_of_length_eq_zero J50
   subst hn
   obtain ⟨p,cap,rfl,hc⟩:=own_form hB
   refine Lib.wpList_append_run W hgd s x _ _ ho _ _ hs hx _ _ (run_append_noneG hT W o.type p n cap c hc) ?_
   exact h _ W (by simpa using hB) hE ⟨rfl,rfl,rfl,Nat.le_refl _,fun _ _ _=>rfl⟩ (.inl rfl)
 · refine wpList_append_own_at W hgd s x TS ho base T i z k bytes hT.u hi hz h1 h2 h3 hT.k0 v n xs hs hB ad m c news hx hl hR h1c hm hby hb2 ?_
   intro v' W' h3 h4 _ h5
   exact h v' W' h3 (ext_grownG hB hb hE h4) h4 h5
theorem Blk.grown {W W' : World} {q : Nat} {x0 x1 x2 x3 : Value} {row : Option Nat} (B : Blk W q x0 x1 x2 x3) (hg : W.grownBy W' row) (hq : row ≠ some q) : Blk W' q x0 x1 x2 x3:=by
 have e:=hg.block q B.1 (fun h=>hq h.symm)
 exact B.cells hg.size (fun o=>⟨World.cell?_of_block (w:=W) e,World.frozen?_of_block (w:=W) e⟩)
def RdO (B : Nat) (V : World) (v : Value) (l : List Rw) (i : Nat) : Prop:=(∃ p c,v = .slice p l.length c) ∧ (RdV B V v l ∨ (l.length = 1 ∧ i = 0 ∧ RdV V.heap.size V v l) ∨ i = l.length)
theorem RdO.next {B i : Nat} {V V' : World} {v : Value} {l : List Rw} (h : RdO B V v l i) (hi : i < l.length) (e : Below B V V') : RdO B V' v l (i + 1):=by
 refine ⟨h.1,?_⟩
 rcases h.2 with h | ⟨h1,h2,_⟩ | h
 · exact .inl (h.low e)
 · exact .inr (.inr J2)
 · omega
theorem RdO.at {B i n c : Nat} {V : World} {p : Option Addr} {l : List Rw} (h : RdO B V (.slice p n c) l i) (hi : i < l.length) :
   ∃ b off r,p = some ⟨b,off,none⟩ ∧ l[i]? = some r ∧ b < V.heap.size ∧
     V.cell? ⟨b,off + i * 4,none⟩ = some (.int .i64 r.k) ∧ V.cell? ⟨b,off + i * 4 + 1,none⟩ = some (.int .i64 r.n) ∧ V.cell? ⟨b,off + i * 4 + 2,none⟩ = some (.string r.s) ∧ V.cell? ⟨b,off + i * 4 + 3,none⟩ = some (.int .i64 r.e):=by
 rcases h.2 with h | ⟨_,_,h⟩ | h
 · obtain ⟨b,off,r,h1,h2,_,h3⟩:=h.at hi
   exact ⟨b,off,r,h1,h2,h3⟩
 · obtain ⟨b,off,r,h1,h2,_,h3⟩:=h.at hi
   exact ⟨b,off,r,h1,h2,h3⟩
 · omega
theorem RdO.of {B : Nat} {V : World} {p : Option Addr} {n c : Nat} {l : List Rw} (h : RdV B V (.slice p n c) l ∨ (l.length = 1 ∧ RdV V.heap.size V (.slice p n c) l)) : RdO B V (.slice p n c) l 0 ∧ n = l.length:=by
 rcases h with h | ⟨h1,h⟩
 · have:=h.len;subst this;exact ⟨⟨⟨_,_,rfl⟩,.inl h⟩,rfl⟩
 · have:=h.len;subst this;exact ⟨⟨⟨_,_,rfl⟩,.inr (.inl ⟨h1,rfl,h⟩)⟩,rfl⟩
structure Nums (W : World) (s : List (V × Bool)) (ov : Value) (V' : World) : Prop where
 e : Ext W V'
 o : V'.ownsRow W.heap.size 2 1 ov (got numF s).length ((got numF s).flatMap cI)
 q : ov.ownBlock ≠ some (W.heap.size + 2)
 r : ov.ownBlock ≠ some W.heap.size
 w : Blk V' (W.heap.size + 2) (.int .i64 (bad numF s).k) (.int .i64 (bad numF s).n) (.string (bad numF s).s) (.int .i64 (bad numF s).e)
 z : Blk V' W.heap.size (.int .i64 0) (.int .i64 0) (.string ⟨#[]⟩) (.int .i64 0)
theorem Nums.ext {W : World} {s : List (V × Bool)} {ov : Value} {V1 V2 : World} (h : Nums W s ov V1) (e : Ext V1 V2) : Nums W s ov V2 :=
 ⟨h.e.trans e,ownsRow_ext h.o e,h.q,h.r,h.w.ext e,h.z.ext e⟩
theorem got_s (s : List (V × Bool)) (x : V × Bool) : got numF (s ++ [x]) = if goes (numF x.1 x.2) then got numF s ++ [numF x.1 x.2] else got numF s:=by
 rw [got_app]
 show got numF s ++ (if goes (numF x.1 x.2) then [numF x.1 x.2] else []) = _
 split
 · rfl
 · simp
theorem bad_s (s : List (V × Bool)) (x : V × Bool) : bad numF (s ++ [x]) = if (bad numF s).k = 4 then bad numF s else if (numF x.1 x.2).k = 4 then numF x.1 x.2 else .blank:=bad_app numF s [x]
theorem bad_keep (s : List (V × Bool)) (x : V × Bool) (h : (numF x.1 x.2).k ≠ 4 ∨ (bad numF s).k = 4) : bad numF (s ++ [x]) = bad numF s:=by
 rw [bad_s]
 rcases bad_kind numF s with k | k
 · rcases h with h | h
   · rw [k,if_neg J9,if_neg h]
   · rw [if_pos h]
 · rw [if_pos k]
theorem Nums.more {W : World} {s : List (V × Bool)} {ov : Value} {V1 WA W' : World} {v' : Value} (h : Nums W s ov V1) (e : Ext V1 WA) (x : V × Bool) (y : V) (hy : numF x.1 x.2 = y) (hk : y.k = 2)
   (k1 : W'.ownsRow W.heap.size 2 1 v' ((got numF s).length + 1) ((got numF s).flatMap cI ++ [.int .i64 y.n])) (k2 : Ext W W') (k3 : WA.grownBy W' ov.ownBlock) (k4 : v'.ownBlock = ov.ownBlock ∨ v'.ownBlock = some WA.heap.size) : Nums W (s ++ [x]) v' W':=by
 subst hy
 have hg : got numF (s ++ [x]) = got numF s ++ [numF x.1 x.2]:=by rw [got_s,if_pos J52]
 have hb : bad numF (s ++ [x]) = bad numF s:=bad_keep s x (.inl J11)
 have hz : W.heap.size + 2 < WA.heap.size:=llL h.w.1 e.size
 refine ⟨k2,?_,?_,?_,?_,?_⟩
 · rw [hg];simpa [cI] using k1
 · rcases k4 with k | k
   · rw [k];exact h.q
   · rw [k];intro q;simp at q;omega
 · rcases k4 with k | k
   · rw [k];exact h.r
   · rw [k];intro q;simp at q;omega
 · rw [hb];exact (h.w.ext e).grown k3 h.q
 · exact (h.z.ext e).grown k3 h.r
theorem Nums.same {W : World} {s : List (V × Bool)} {ov : Value} {V1 V2 : World} (h : Nums W s ov V1) (e : Ext V1 V2) (x : V × Bool) (hk : (numF x.1 x.2).k = 0 ∨ ((numF x.1 x.2).k = 4 ∧ (bad numF s).k = 4)) : Nums W (s ++ [x]) ov V2:=by
 have hg : got numF (s ++ [x]) = got numF s:=by
   rw [got_s]
   rcases hk with hk | ⟨hk,_⟩
   · rw [if_neg J52]
   · rw [if_neg J52]
 have hb : bad numF (s ++ [x]) = bad numF s:=by
   rcases hk with hk | ⟨_,hk⟩
   · exact bad_keep s x (.inl J11)
   · exact bad_keep s x (.inr hk)
 obtain ⟨a,b,c,d,f,g⟩:=h.ext e
 exact ⟨a,by rw [hg];exact b,c,d,by rw [hb];exact f,g⟩
theorem own_far {X : World} {base n k b o : Nat} {T : TypeId} {ov u : Value} {xs : List Value} (hX : X.ownsRow base T k ov n xs) (c : ov.ownBlock ≠ some b) : (X.setCell ⟨b,o,none⟩ u).ownsRow base T k ov n xs:=by
 refine ⟨hX.1,?_⟩
 rcases hX.2 with hX | ⟨gg,cap,cur,h1,h2,h3,h4⟩
 · exact .inl hX
 · refine .inr ⟨gg,cap,cur,h1,h2,?_,h4⟩
   rw [Below.heap_setCell _ _ _ _ (by intro q;apply c;rw [h1];show some gg = _;rw [show gg = b from q])]
   exact h3
theorem Nums.err {W : World} {s : List (V × Bool)} {ov : Value} {V1 V2 : World} (h : Nums W s ov V1) (e : Ext V1 V2) (x : V × Bool) (y : V) (hy : numF x.1 x.2 = y) (hk : y.k = 4) (hb4 : (bad numF s).k ≠ 4) : Nums W (s ++ [x]) ov (put4 V2 (W.heap.size + 2) (.int .i64 y.k) (.int .i64 y.n) (.string y.s) (.int .i64 y.e)):=by
 subst hy
 have hg : got numF (s ++ [x]) = got numF s:=by rw [got_s,if_neg J52]
 have hb : bad numF (s ++ [x]) = numF x.1 x.2:=by rw [bad_s,if_neg hb4,if_pos hk]
 obtain ⟨a,b,c,d,f,g⟩:=h.ext e
 have far : ∀ (X : World) (u : Value) (o : Nat),X.ownsRow W.heap.size 2 1 ov (got numF s).length ((got numF s).flatMap cI) → (X.setCell ⟨W.heap.size + 2,o,none⟩ u).ownsRow W.heap.size 2 1 ov (got numF s).length ((got numF s).flatMap cI):=by
   intro X u o hX
   refine ⟨hX.1,?_⟩
   rcases hX.2 with hX | ⟨gg,cap,cur,h1,h2,h3,h4⟩
   · exact .inl hX
   · refine .inr ⟨gg,cap,cur,h1,h2,?_,h4⟩
     rw [Below.heap_setCell _ _ _ _ (by intro q;apply c;rw [h1];show some gg = _;rw [show gg = W.heap.size + 2 from q])]
     exact h3
 refine ⟨?_,?_,c,d,?_,?_⟩
 · exact (((a.setCell J60 _).setCell J60 _).setCell J60 _).setCell J60 _
 · rw [hg];exact far _ _ _ (far _ _ _ (far _ _ _ (far _ _ _ b)))
 · rw [hb];exact f.set _ _ _ _
 · exact g.far J2 _ _ _ _
end Go.Proofs.YtcfgbiaahangmaaGreatDoor

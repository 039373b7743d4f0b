import Derived.Test.YtcfgbiaahangmaaGreatDoorN34
import Derived.ProofKit
import Derived.OpenShut
import Derived.Deep.DeepHandedRow
import Derived.Stop.LaidErr
import Derived.MakeChecks
set_option maxHeartbeats 6000000
set_option maxRecDepth 100000
namespace Go.Proofs.YtcfgbiaahangmaaGreatDoor
open Go.Proofs.Tryz
open Go.RowKit
theorem rparts10_any (k : Int) (w : World) : Calls Tryz.prog 44 #[.int .i64 k] w fun e w'=>e = .returned (.bool (prB k)) ∧ w' = w:=by
 by_cases k6 : k = 6
 · have e6 : (k == 6) = true:=by rw [k6];rfl
   have HX : Hid (prB k = true):=by show _ = _;unfold prB;rw [k6];rfl
   clear k6
   exact K110
 by_cases k7 : k = 7
 · have e6 : (k == 6) = false:=by simpa using k6
   have e7 : (k == 7) = true:=by rw [k7];rfl
   have HX : Hid (prB k = true):=by show _ = _;unfold prB;rw [k7];rfl
   clear k6 k7
   exact K110
 · have e6 : (k == 6) = false:=by simpa using k6
   have e7 : (k == 7) = false:=by simpa using k7
   have HX : Hid (prB k = (k == 8)):=by show _ = _;unfold prB;rw [Bool.eq_iff_iff];simp [k6,k7]
   clear k6 k7
   exact K110
theorem OwY.isL {w : World} {base : Nat} {P : Nat → Prop} {v : Value} {ps : List (T × Value)} (h : OwY w base v ps) (hb : ∀ k,base ≤ k → P k) (hx : ∀ p ∈ ps,IsL w P p.2 p.1.l) : IsL w P v (ps.map Prod.fst):=by
 obtain ⟨_,h1⟩:=h
 rcases h1 with ⟨h1,h0⟩ | ⟨g,cap,cur,h1,h3,h4,h5,h6,h7,h8⟩
 · have : ps = []:=List.eq_nil_of_length_eq_zero h0
   subst this h1
   exact .nil
 · subst h1
   refine .mk g 0 cap ps.length _ (fun i=>match ps[i]? with | some p=>p.2 | none=>.slice none 0 0) J60 h5 (hb g h3) (heap_lt h4) ?_ ?_
   · exact K58
   · intro i t hi
     rw [List.getElem?_map,Option.map_eq_some_iff] at hi
     obtain ⟨p,hp,rfl⟩:=hi
     simp only [hp]
     exact hx p (List.mem_of_getElem? hp)
theorem OwY.ext {w w' : World} {base : Nat} {v : Value} {ps : List (T × Value)} (h : OwY w base v ps) (e : Ext w w') : OwY w' base v ps:=by
 exact K68
theorem OwY.zero {W W' : World} {base g : Nat} (hW : W' = W.alloc (.cells #[] 43)) (hg : g = W.heap.size) (hb : base ≤ g) : OwY W' base (.slice (some ⟨g,0,none⟩) 0 0) []:=(OwX.zero hW hg hb).1
def RrQ (W : World) (l : List Rc) (e : Ending) (w' : World) : Prop:=∃ g c,e = .returned (.slice (some ⟨g,0,none⟩) l.length c) ∧ g < w'.heap.size ∧ (∀ j u,(flatR l)[j]? = some u → w'.cell? ⟨g,j,none⟩ = some u) ∧ Ext W w'
theorem RrQ.one {W w : World} (q : Rc) (h : Ext W w) : RrQ W [q] (.returned (.slice (some ⟨w.heap.size,0,none⟩) 1 1)) (w.alloc (.cells #[.int .i64 q.1,.int .i64 q.2.1,.int .i64 q.2.2.1,.int .i64 q.2.2.2] 54)):=by
 refine ⟨w.heap.size,1,rfl,by simp,?_,h.alloc _⟩
 intro j u hu
 rw [cell_of_row _ _ _ _ _ (0,0) (new_top _ _),← hu,← Array.getElem?_toList];rfl
theorem rrefs_4 (n : Nat) (t : T) (hk : t.k = 4) (W : World) (lv : Value) : Calls Tryz.prog 20 #[.agg #[.int .i64 t.k,.int .i64 t.n,.string (bs t.s),.int .i64 t.e,.int .i64 t.r.1,.int .i64 t.r.2.1,.bool t.r.2.2.1,.bool t.r.2.2.2,.int .i64 t.q.1,.int .i64 t.q.2.1,.bool t.q.2.2.1,.bool t.q.2.2.2,lv]] W (RrQ W (refsT (n + 1) t)):=by
 have HX : Hid (refsT (n + 1) t = [rcT t.r t.r]):=by show _ = _;simp [refsT,hk]
 have c1:=fun V=>rrect_any t.r.1 t.r.2.1 t.r.1 t.r.2.1 t.r.2.2.1 t.r.2.2.2 t.r.2.2.1 t.r.2.2.2 V
 rw [rcD_T] at c1
 have e4 : (t.k == 4) = true:=J71
 obtain ⟨q,hq⟩ : ∃ q,rcT t.r t.r = q:=⟨_,rfl⟩
 exact K87
theorem rrefs_5 (n : Nat) (t : T) (hk : t.k = 5) (W : World) (lv : Value) : Calls Tryz.prog 20 #[.agg #[.int .i64 t.k,.int .i64 t.n,.string (bs t.s),.int .i64 t.e,.int .i64 t.r.1,.int .i64 t.r.2.1,.bool t.r.2.2.1,.bool t.r.2.2.2,.int .i64 t.q.1,.int .i64 t.q.2.1,.bool t.q.2.2.1,.bool t.q.2.2.2,lv]] W (RrQ W (refsT (n + 1) t)):=by
 have HX : Hid (refsT (n + 1) t = [rcT t.r t.q]):=by show _ = _;simp [refsT,hk]
 have c1:=fun V=>rrect_any t.r.1 t.r.2.1 t.q.1 t.q.2.1 t.r.2.2.1 t.r.2.2.2 t.q.2.2.1 t.q.2.2.2 V
 rw [rcD_T] at c1
 have e4 : (t.k == 4) = false:=J71
 have e5 : (t.k == 5) = true:=J71
 obtain ⟨q,hq⟩ : ∃ q,rcT t.r t.q = q:=⟨_,rfl⟩
 exact K87
def RrC (n : Nat) (t : T) : Prop:=∀ (W : World) (P : Nat → Prop) (pp : Option Addr) (ln cl : Nat),IsL W P (.slice pp ln cl) t.l → (refsT n t).length ≤ 100000 → Calls Tryz.prog 20 #[.agg #[.int .i64 t.k,.int .i64 t.n,.string (bs t.s),.int .i64 t.e,.int .i64 t.r.1,.int .i64 t.r.2.1,.bool t.r.2.2.1,.bool t.r.2.2.2,.int .i64 t.q.1,.int .i64 t.q.2.1,.bool t.q.2.2.1,.bool t.q.2.2.2,.slice pp ln cl]] W (RrQ W (refsT n t))
theorem rrefs_n (n : Nat) (t : T) (hk4 : t.k ≠ 4) (hk5 : t.k ≠ 5) (hl : t.l.length ≤ 100000) (ih : ∀ x ∈ t.l,RrC n x) (hb : prB t.k = true) : RrC (n + 1) t:=by
 intro W P pp ln cl hL hn
 have e4 : (t.k == 4) = false:=by simpa using hk4
 have e5 : (t.k == 5) = false:=by simpa using hk5
 have cP:=fun V=>rparts10_any t.k V
 rw [hb] at cP
 have hln : ln = t.l.length:=by
   exact K171
 have HX : Hid (refsT (n + 1) t = (t.l.map (refsT n)).flatten):=J115
 have HI : Hid (IsL W P (.slice pp ln cl) t.l):=hL
 have HLN : Hid (ln = t.l.length):=hln
 have HN : Hid ((refsT (n + 1) t).length ≤ 100000):=hn
 have HIH : Hid (∀ x ∈ t.l,RrC n x):=ih
 have hl2 : ln ≤ 100000:=J2
 clear hL hn hb hln hk4 hk5 ih hl
 go_enter func20,ntmps20
 go_wp2_with fail
 go_loopw [3,4] (fun l iv wr=>∃ j : Nat,j ≤ ln ∧ iv = .int .i64 (j : Int) ∧ (∃ g c,l = .slice (some ⟨g,0,none⟩) ((t.l.take j).map (refsT n)).flatten.length c) ∧ OwR wr (W.heap.size + 1) l ((t.l.take j).map (refsT n)).flatten ∧ BlkX wr W.heap.size t (.slice pp ln cl) ∧ Ext W wr) (fun _ iv _=>ln - (intOf iv).toNat)
 case atStart =>
   refine ⟨0,Nat.zero_le _,rfl,⟨_,_,rfl⟩,?_,(blk13_top rfl (xr.alloc _)),(xr.alloc _).alloc _⟩
   refine ⟨rfl,.inr ⟨W.heap.size + 1,0,#[],rfl,Nat.le_refl _,?_,Nat.le_refl _,Nat.zero_le _,rfl,rfl⟩⟩
   have e9 : (W.alloc (.cells #[.int .i64 t.k,.int .i64 t.n,.string (bs t.s),.int .i64 t.e,.int .i64 t.r.1,.int .i64 t.r.2.1,.bool t.r.2.2.1,.bool t.r.2.2.2,.int .i64 t.q.1,.int .i64 t.q.2.1,.bool t.q.2.2.1,.bool t.q.2.2.2,.slice pp ln cl] 43)).heap.size = W.heap.size + 1:=J60
   rw [← e9];exact new_top _ _
 case round =>
   obtain ⟨j,hj,rfl,⟨g,c,rfl⟩,hO,hB,hE⟩:=hrel
   obtain ⟨rs,hrs⟩ : ∃ rs,((t.l.take j).map (refsT n)).flatten = rs:=⟨_,rfl⟩
   have HRS : Hid (((t.l.take j).map (refsT n)).flatten = rs):=hrs
   rw [hrs] at hO ⊢
   have HS : Hid (OwR wr (W.heap.size + 1) (.slice (some ⟨g,0,none⟩) rs.length c) rs ∧ BlkX wr W.heap.size t (.slice pp ln cl) ∧ Ext W wr):=⟨hO,hB,hE⟩
   obtain ⟨qb,⟨lb0,lb1,lb2,lb3,lb4,lb5,lb6,lb7,lb8,lb9,lb10,lb11,lb12⟩,gb0,gb1,gb2,gb3,gb4,gb5,gb6,gb7,gb8,gb9,gb10,gb11,gb12⟩:=hB
   clear hO hE hrs
   by_cases hlt : j < ln
   · have hltI : (j : Int) < (ln : Int):=J2
     obtain ⟨gb,off,x,lv,hpp,hx1,hA1,hgb0,hA2,hLx,hce0⟩:=HI.out.at (i:=j) J47
     have hce : ∀ i u,(cellsT x lv)[i]? = some u → wr.cell? ⟨gb,off + j * 13 + i,none⟩ = some u:=fun i u hu=>(HS.out.2.2.cell.1 gb _ hgb0).trans (hce0 i u hu)
     have hgb : gb < wr.heap.size:=llL hgb0 HS.out.2.2.size
     clear hA1 hA2 hce0 hgb0
     cases hpp
     obtain ⟨pp,cl',hlv,hcl⟩:=hLx.form
     obtain ⟨ln',hln'⟩ : ∃ ln',x.l.length = ln':=⟨_,rfl⟩
     rw [hln'] at hlv
     subst hlv
     have HX1 : Hid (t.l[j]? = some x):=hx1
     have HLE : Hid (rs.length + (refsT n x).length ≤ 100000):=by
       have h1:=HN.out
       rw [HX.out] at h1
       have h2:=flat_le (refsT n) t.l j x hx1
       rw [HRS.out] at h2
       show _ ≤ _
       omega
     have HC : Hid (∀ V,Ext wr V → Calls Tryz.prog 20 #[.agg #[.int .i64 x.k,.int .i64 x.n,.string (bs x.s),.int .i64 x.e,.int .i64 x.r.1,.int .i64 x.r.2.1,.bool x.r.2.2.1,.bool x.r.2.2.2,.int .i64 x.q.1,.int .i64 x.q.2.1,.bool x.q.2.2.1,.bool x.q.2.2.2,.slice pp ln' cl']] V (RrQ V (refsT n x))):=fun V e=>HIH.out x (List.mem_of_getElem? hx1) V P pp ln' cl' (hLx.ext (HS.out.2.2.trans e)) (by have:=HLE.out;omega)
     have e0 : wr.cell? ⟨gb,off + j * 13,none⟩ = some (.int .i64 x.k):=hce 0 _ rfl
     have e1 : wr.cell? ⟨gb,off + j * 13 + 1,none⟩ = some (.int .i64 x.n):=hce 1 _ rfl
     have e2 : wr.cell? ⟨gb,off + j * 13 + 2,none⟩ = some (.string (bs x.s)):=hce 2 _ rfl
     have e3 : wr.cell? ⟨gb,off + j * 13 + 3,none⟩ = some (.int .i64 x.e):=hce 3 _ rfl
     have e4 : wr.cell? ⟨gb,off + j * 13 + 4,none⟩ = some (.int .i64 x.r.1):=hce 4 _ rfl
     have e5 : wr.cell? ⟨gb,off + j * 13 + 5,none⟩ = some (.int .i64 x.r.2.1):=hce 5 _ rfl
     have e6 : wr.cell? ⟨gb,off + j * 13 + 6,none⟩ = some (.bool x.r.2.2.1):=hce 6 _ rfl
     have e7 : wr.cell? ⟨gb,off + j * 13 + 7,none⟩ = some (.bool x.r.2.2.2):=hce 7 _ rfl
     have e8 : wr.cell? ⟨gb,off + j * 13 + 8,none⟩ = some (.int .i64 x.q.1):=hce 8 _ rfl
     have e9 : wr.cell? ⟨gb,off + j * 13 + 9,none⟩ = some (.int .i64 x.q.2.1):=hce 9 _ rfl
     have e10 : wr.cell? ⟨gb,off + j * 13 + 10,none⟩ = some (.bool x.q.2.2.1):=hce 10 _ rfl
     have e11 : wr.cell? ⟨gb,off + j * 13 + 11,none⟩ = some (.bool x.q.2.2.2):=hce 11 _ rfl
     have e12 : wr.cell? ⟨gb,off + j * 13 + 12,none⟩ = some (.slice pp ln' cl'):=hce 12 _ rfl
     clear hx1 hLx hce hcl hln'
     go_wp2_with fail
     refine (cP _).mono ?_
     rintro e w0 ⟨rfl,rfl⟩
     go_wp2_with fail
     refine (HC.out _ xr).mono ?_
     rintro e w3 ⟨g3,c3,rfl,hg3,hc3,E3⟩
     obtain ⟨m,hm⟩ : ∃ m,refsT n x = m:=⟨_,rfl⟩
     have HM : Hid (refsT n x = m):=hm
     rw [hm] at HLE hc3 ⊢
     have HS3 : Hid (OwR w3 (W.heap.size + 1) (.slice (some ⟨g,0,none⟩) rs.length c) rs ∧ BlkX w3 W.heap.size t (.slice (some ⟨gb,off,none⟩) ln cl) ∧ Ext W w3 ∧ W.heap.size < w3.heap.size):=⟨HS.out.1.ext E3,HS.out.2.1.ext E3,HS.out.2.2.trans E3,(HS.out.2.1.ext E3).1⟩
     have HC3 : Hid (∀ j u,(flatR m)[j]? = some u → w3.cell? ⟨g3,j,none⟩ = some u):=hc3
     clear hc3 E3 hm HC qb lb0 lb1 lb2 lb3 lb4 lb5 lb6 lb7 lb8 lb9 lb10 lb11 lb12 gb0 gb1 gb2 gb3 gb4 gb5 gb6 gb7 gb8 gb9 gb10 gb11 gb12 e0 e1 e2 e3 e4 e5 e6 e7 e8 e9 e10 e11 e12
     go_wp2_with (at_builtin;refine rc_append _ (W.heap.size + 1) _ _ (.slice (some ⟨g,0,none⟩) rs.length c) g3 c3 rs m rfl rfl J25 J25 HS3.out.1 ?cR (by have:=HLE.out;omega) (by have:=HS3.out.2.2.2;omega) ?_)
     case cR =>
       intro i u hu
       rw [Addr.add_lit,Nat.zero_add];exact HC3.out i u hu
     intro v' w4 k1 k2 k3
     obtain ⟨g4,c4,hv'⟩ : ∃ g cp,v' = .slice (some ⟨g,0,none⟩) (rs ++ m).length cp:=by
       rcases k1.2 with ⟨hv,_⟩ | ⟨g,cp,_,hv,_⟩
       · exact absurd hv k3
       · exact ⟨g,cp,hv⟩
     subst hv'
     have H4 : Hid (OwR w4 (W.heap.size + 1) (.slice (some ⟨g4,0,none⟩) (rs ++ m).length c4) (rs ++ m) ∧ BlkX w4 W.heap.size t (.slice (some ⟨gb,off,none⟩) ln cl) ∧ Ext W w4):=⟨k1,Blk13.keep HS3.out.2.1 (k2.block W.heap.size HS3.out.2.2.2 (fun e=>HS3.out.1.far (Nat.lt_succ_self _) e.symm)),ext_grownR k2 HS3.out.1 HS3.out.2.2.1 J2⟩
     clear k1 k2 k3
     go_wp2_with fail
     go_roundw
     case rel =>
       refine ⟨j + 1,by omega,by go_num,?_⟩
       rw [flat_take _ _ _ _ HX1.out,HRS.out,HM.out]
       exact ⟨⟨_,_,rfl⟩,H4.out.1,H4.out.2.1,H4.out.2.2⟩
     case measure=>show ln - ((j : Int) + 1).toNat < ln - ((j : Int)).toNat;omega
   · have hltI : ¬ (j : Int) < (ln : Int):=J2
     have hjl : j = ln:=J2
     have HE : Hid (refsT (n + 1) t = rs):=by
       have h1:=HRS.out
       rw [hjl,HLN.out,List.take_length] at h1
       show _ = _
       rw [HX.out];exact h1
     clear hlt hjl
     go_wp2_with fail
     refine (cP _).mono ?_
     rintro e w0 ⟨rfl,rfl⟩
     go_wp2_with fail
     go_ret
     rw [HE.out]
     rcases HS.out.1.rd with ⟨h1,_⟩ | ⟨g1,c1,h1,h2,h3⟩
     · cases h1
     · cases h1
       exact ⟨_,_,rfl,h2,h3,HS.out.2.2⟩
theorem rrefs_0 (n : Nat) (t : T) (hk4 : t.k ≠ 4) (hk5 : t.k ≠ 5) (hb : prB t.k = false) : RrC (n + 1) t:=by
 intro W P pp ln cl hL hn
 have e4 : (t.k == 4) = false:=by simpa using hk4
 have e5 : (t.k == 5) = false:=by simpa using hk5
 have cP:=fun V=>rparts10_any t.k V
 rw [hb] at cP
 have HX : Hid (refsT (n + 1) t = []):=J115
 clear hL hn hb hk4 hk5
 go_enter func20,ntmps20
 go_wp2_with fail
 go_loopw [3,4] (fun l iv wr=>iv = .int .i64 0 ∧ l = .slice (some ⟨W.heap.size + 1,0,none⟩) 0 0 ∧ W.heap.size + 1 < wr.heap.size ∧ BlkX wr W.heap.size t (.slice pp ln cl) ∧ Ext W wr) (fun _ _ _=>0)
 case atStart=>exact ⟨rfl,rfl,by simp,(blk13_top rfl (xr.alloc _)),(xr.alloc _).alloc _⟩
 case round =>
   obtain ⟨rfl,rfl,hz,hB,hE⟩:=hrel
   have HS : Hid (W.heap.size + 1 < wr.heap.size ∧ Ext W wr):=⟨hz,hE⟩
   obtain ⟨qb,⟨lb0,lb1,lb2,lb3,lb4,lb5,lb6,lb7,lb8,lb9,lb10,lb11,lb12⟩,gb0,gb1,gb2,gb3,gb4,gb5,gb6,gb7,gb8,gb9,gb10,gb11,gb12⟩:=hB
   clear hz hE
   go_wp2_with fail
   refine (cP _).mono ?_
   rintro e w0 ⟨rfl,rfl⟩
   go_wp2_with fail
   go_ret
   rw [HX.out]
   exact ⟨_,_,rfl,HS.out.1,fun j u hu=>by simp [flatR] at hu,HS.out.2⟩
theorem rrefs_any (n : Nat) : ∀ t : T,Hr n t → RrC n t:=by
 induction n with
 | zero=>intro t h;cases h
 | succ n ih =>
   intro t hr
   by_cases h4 : t.k = 4
   · intro W P pp ln cl _ _;exact rrefs_4 n t h4 W _
   by_cases h5 : t.k = 5
   · intro W P pp ln cl _ _;exact rrefs_5 n t h5 W _
   cases hb : prB t.k with
   | true=>exact rrefs_n n t h4 h5 hr.1 (fun x hx=>ih x (hr.2 x hx)) hb
   | false=>exact rrefs_0 n t h4 h5 hb
theorem sum_le_map (f g : T → Nat) (l : List T) (h : ∀ x ∈ l,f x ≤ g x) : (l.map f).sum ≤ (l.map g).sum:=by
 induction l with
 | nil=>exact Nat.le_refl _
 | cons a l ih =>
   have h1:=ih (fun x hx=>h x (List.mem_cons_of_mem _ hx))
   have h0:=h a List.mem_cons_self
   simp only [List.map_cons,List.sum_cons]
   omega
theorem refs_len (n : Nat) : ∀ t : T,(refsT n t).length ≤ szT n t:=by
 induction n with
 | zero=>intro t;exact Nat.zero_le _
 | succ n ih =>
   intro t
   rw [refsT,szT]
   split
   · simp
   · split
     · simp
     · split
       · rw [List.length_flatten,List.map_map]
         have:=sum_le_map (List.length ∘ refsT n) (szT n) t.l (fun x _=>ih x)
         omega
       · exact Nat.zero_le _
theorem flatR_ij (l : List Rc) (i j : Nat) (q : Rc) (u : Value) (hi : l[i]? = some q) (hj : (cellsR q)[j]? = some u) : (flatR l)[i * 4 + j]? = some u:=by
 induction l generalizing i with
 | nil=>cases hi
 | cons a l ih =>
   have e : flatR (a :: l) = cellsR a ++ flatR l:=rfl
   rw [e]
   have hj4 : j < 4:=(List.getElem?_eq_some_iff.mp hj).1
   cases i with
   | zero =>
     simp only [List.getElem?_cons_zero,Option.some.injEq] at hi
     subst hi
     rw [List.getElem?_append_left (by show 0 * 4 + j < 4;omega),Nat.zero_mul,Nat.zero_add];exact hj
   | succ i =>
     simp only [List.getElem?_cons_succ] at hi
     rw [List.getElem?_append_right (by show 4 ≤ (i + 1) * 4 + j;omega)]
     have : (i + 1) * 4 + j - (cellsR a).length = i * 4 + j:=by show (i + 1) * 4 + j - 4 = _;omega
     rw [this];exact ih i hi
theorem RdR.at {w : World} {p : Option Addr} {n c : Nat} {l : List Rc} (h : RdR w (.slice p n c) l) {i : Nat} (hi : i < l.length) :
   ∃ g q,p = some ⟨g,0,none⟩ ∧ n = l.length ∧ l[i]? = some q ∧ g < w.heap.size ∧ ∀ j u,(cellsR q)[j]? = some u → w.cell? ⟨g,i * 4 + j,none⟩ = some u:=by
 rcases h with ⟨_,h⟩ | ⟨g,c',h1,h2,h3⟩
 · rw [h] at hi;simp at hi
 · cases h1
   exact ⟨g,l[i],rfl,rfl,gEq hi,h2,fun j u hu=>h3 _ u (flatR_ij l i j _ u (gEq hi) hu)⟩
theorem RdR.form {w : World} {v : Value} {l : List Rc} (h : RdR w v l) : ∃ p c,v = .slice p l.length c:=by
 rcases h with ⟨h,h0⟩ | ⟨g,c,h,_⟩
 · rw [h,h0];exact ⟨_,_,rfl⟩
 · exact ⟨_,_,h⟩
theorem RrQ.rd {W w : World} {l : List Rc} {e : Ending} (h : RrQ W l e w) : ∃ p c,e = .returned (.slice p l.length c) ∧ RdR w (.slice p l.length c) l ∧ Ext W w:=by
 obtain ⟨g,c,h1,h2,h3,h4⟩:=h
 exact ⟨_,_,h1,.inr ⟨g,c,rfl,h2,h3⟩,h4⟩
open Go.ChangeShapes Go.WideShapes Go.ChangeAt Go.RowKit
theorem ownK : ownKnob Tryz.prog.godebug = none:=J3
def flat : Nat → DataW Unit → List Value
 | _ + 1,.lit (.int k z)=>[.int k z]
 | _ + 1,.lit (.string l)=>[.string ⟨l.toArray⟩]
 | n + 1,.agg ds=>ds.flatMap (flat n)
 | _,_=>[]
def layIn (cs : List Value) : Obj → Obj
 | .cells _ t frozen=>.cells cs.toArray t frozen
 | o=>o
theorem gNames : Tryz.prog.globalNamed "cadastre/value.names" = some 0:=J3
theorem gNamesType : (Tryz.prog.globals[0]?).map (·.type) = some 130:=J3
theorem cellsNames : Tryz.prog.cellsOf 130 = 6:=J3
theorem cellsStr : Tryz.prog.cellsOf 9 = 1:=J3
theorem names_of {W : World} {rest : List (String × DataW Unit)} (h : laidMet Tryz.prog (("cadastre/value.names",Rows.laid_cadastre_value_names) :: rest) W) : Nm W:=by
 obtain ⟨ps,⟨g',t',cs,fuel,p,q,hg',ht',hvar,hd,_,_⟩,_⟩:=h
 obtain rfl:=Option.some.inj (gNames.symm.trans hg')
 obtain rfl:=Option.some.inj (gNamesType.symm.trans ht')
 have hcell:=World.var?_cell gNames hvar
 have hsz : 0 < W.heap.size:=by
   have h0:=hvar
   simp only [World.var?,gNames,Option.bind_some] at h0
   cases hb : W.heap[0]? with
   | none=>rw [hb] at h0;cases h0
   | some o=>exact (Array.getElem?_eq_some_iff.1 hb).1
 cases fuel with
 | zero=>simp [DataW.trod] at hd
 | succ fuel =>
   simp only [DataW.trod,Tryz.underlying130,cellsStr,cellsNames,Nat.mul_one] at hd
   split at hd
   · obtain ⟨xs,hm,hx⟩:=Option.map_eq_some_iff.1 hd
     have hxs : xs.map (·.1) = ([.lit (.string []),.lit (.string [35,82,69,70,33]),.lit (.string [35,86,65,76,85,69,33]),.lit (.string [35,68,73,86,47,48,33]),.lit (.string [35,78,85,77,33]),.lit (.string [35,67,89,67,76,69,33])] : List (DataW Unit)):=by
       have:=congrArg Prod.fst hx
       simpa [Rows.laid_cadastre_value_names] using this
     have key : ∀ (i : Nat) (l : List UInt8),i < 6 → (xs.map (·.1))[i]? = some (DataW.lit (.string l)) → W.cell? ⟨0,i,none⟩ = some (.string ⟨l.toArray⟩):=by
       intro i l hi hl
       obtain ⟨b,hb,hf⟩:=Lib.mapM_at hm i i (by simp [hi])
       obtain ⟨s,hc,rfl,_⟩:=DataW.trod_string Tryz.underlying9 hf
       have h1 : cs.toList[i]? = some (.string s):=by
         have:=congrArg (·[0]?) hc
         simpa [List.getElem?_take,List.getElem?_drop] using this
       have h2 : (xs.map (·.1))[i]? = some (DataW.lit (.string s.data.toList) : DataW Unit):=by simp [hb]
       rw [hl] at h2
       simp only [Option.some.injEq,DataW.lit.injEq,Lit.string.injEq] at h2
       rw [hcell i,h2]
       simpa using h1
     rw [hxs] at key
     exact ⟨hsz,key 0 _ J9 rfl,key 1 _ J9 rfl,key 2 _ J9 rfl,key 3 _ J9 rfl,key 4 _ J9 rfl,key 5 _ J9 rfl⟩
   · cases hd
def laidListE : List (String × DataW Unit):=Rows.evalTidiedRow.laid
def layAllE (h : Array Obj) : Array Obj:=[(5,flat 4 Rows.laid_math_bits_deBruijn32tab),(6,flat 4 Rows.laid_math_bits_deBruijn64tab),(4,flat 4 Rows.laid_internal_strconv_uint64pow10),(8,flat 4 Rows.laid_unicode_utf8_acceptRanges),(0,flat 4 Rows.laid_cadastre_value_names),(7,flat 4 Rows.laid_unicode_utf8_first)].foldl (fun h x=>h.modify x.1 (layIn x.2)) h
noncomputable def laidWorldE (os : Os) : World :=
 { World.holding Tryz.prog os ⟨#[],#[],[]⟩ with heap:=layAllE (World.holding Tryz.prog os ⟨#[],#[],[]⟩).heap }
theorem nm_ofE {W : World} (h : laidMetH Tryz.prog laidListE W) : Nm W:=by
 rw [MakeChecks.laidMetH_plain _ _ _ J3] at h
 exact names_of (laidMet.tail (laidMet.tail (laidMet.tail (laidMet.tail (show laidMet Tryz.prog (_ :: _ :: _ :: _ :: _ :: _) W from h)))))
theorem gPow : Tryz.prog.globalNamed "internal/strconv.uint64pow10" = some 4:=J3
theorem gPowType : (Tryz.prog.globals[4]?).map (·.type) = some 271:=J3
theorem cellsPow : Tryz.prog.cellsOf 271 = 20:=J3
theorem cellsU64 : Tryz.prog.cellsOf 129 = 1:=J3
theorem tab_ofE {W : World} (h : laidMetH Tryz.prog laidListE W) : Tab W:=by
 rw [MakeChecks.laidMetH_plain _ _ _ J3] at h
 exact Lib.tabIs_of_head gPow gPowType Tryz.underlying271 Tryz.underlying129 cellsU64 cellsPow (laidMet.tail (laidMet.tail (show laidMet Tryz.prog (_ :: _ :: _ :: _) W from h)))
end Go.Proofs.YtcfgbiaahangmaaGreatDoor

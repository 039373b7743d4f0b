import Derived.Test.YtcfgbiaahangmaaGreatDoorC18
import Derived.Deep.RegionWith
set_option maxHeartbeats 4000000
namespace Go.Proofs.YtcfgbiaahangmaaGreatDoor
open Go.RowKit
def RdI (W:World) (v:Value) (l:List V):Prop:=∃ base,W.ownsRow base 2 1 v l.length (l.flatMap cI)
theorem RdI.ext {W W':World} {v:Value} {l:List V} (h:RdI W v l) (e:Ext W W'):RdI W' v l:=by
 obtain ⟨b,h⟩:=h
 exact ⟨b,ownsRow_ext h e⟩
theorem RdI.form {W:World} {v:Value} {l:List V} (h:RdI W v l):∃ p c,v = .slice p l.length c:=by
 obtain ⟨b,h⟩:=h
 obtain ⟨p,c,h,_⟩:=own_form h
 exact ⟨p,c,h⟩
theorem RdI.at {W:World} {p:Option Addr} {n c:Nat} {l:List V} (h:RdI W (.slice p n c) l) {i:Nat} (hi:i < l.length):∃ g v,p = some ⟨g,0,none⟩∧l[i]? = some v∧g < W.heap.size∧W.cell? ⟨g,i,none⟩ = some (.int .i64 v.n):=by
 obtain ⟨b,h⟩:=h
 rcases h.2 with ⟨_,h0⟩ | ⟨g,cap,cur,h1,h2,h3,h4⟩
 · omega
 · cases h1
   refine ⟨g,l[i],rfl,gEq hi,(Array.getElem?_eq_some_iff.1 h3).1,?_⟩
   have:=h.cells (g:=g) rfl (i * 1+0) (.int .i64 l[i].n) (by rw [fm_at cI 1 cI_len l i _ 0 (gEq hi) J9];rfl)
   rw [Addr.add_lit] at this
   simpa using this
def Ac (W:World) (b:Nat) (x:Int):Prop:=b < W.heap.size∧(W.cell? ⟨b,0,none⟩ = some (.int .i64 (hiOf x))∧W.cell? ⟨b,1,none⟩ = some (.int .u64 (loOf x)))∧W.frozen? ⟨b,0,none⟩ = false∧W.frozen? ⟨b,1,none⟩ = false
theorem Ac.ext {W W':World} {b:Nat} {x:Int} (h:Ac W b x) (e:Ext W W'):Ac W' b x :=
 ⟨llL h.1 e.size,⟨(e.cell.1 b 0 h.1).trans h.2.1.1,(e.cell.1 b 1 h.1).trans h.2.1.2⟩,(e.cell.2 b 0 h.1).trans h.2.2.1,(e.cell.2 b 1 h.1).trans h.2.2.2⟩
theorem Ac.set {W:World} {b:Nat} {x:Int} (h:Ac W b x) (y:Int):Ac ((W.setCell ⟨b,0,none⟩ (.int .i64 (hiOf y))).setCell ⟨b,1,none⟩ (.int .u64 (loOf y))) b y:=by
 obtain ⟨z,⟨k0,k1⟩,f0,f1⟩:=h
 have e0:=wSa W ⟨b,0,none⟩ (.int .i64 (hiOf y)) (by rw [k0])
 have j1:(W.setCell ⟨b,0,none⟩ (.int .i64 (hiOf y))).cell? ⟨b,1,none⟩ = some (.int .u64 (loOf x)):=J77
 have e1:=wSa _ ⟨b,1,none⟩ (.int .u64 (loOf y)) (by rw [j1])
 exact ⟨by simpa [World.setCell] using z,⟨by rw [wO _ _ _ _ J65];exact e0,e1⟩,by simpa [go_sem] using f0,by simpa [go_sem] using f1⟩
theorem Ac.far {W:World} {b c o:Nat} {x:Int} {u:Value} (h:Ac W b x) (hc:c≠b):Ac (W.setCell ⟨c,o,none⟩ u) b x:=by
 obtain ⟨z,⟨k0,k1⟩,f0,f1⟩:=h
 exact ⟨by simpa [World.setCell] using z,⟨by rw [wFa _ _ _ _ hc];exact k0,by rw [wFa _ _ _ _ hc];exact k1⟩,by simpa [go_sem] using f0,by simpa [go_sem] using f1⟩
theorem badT (s:List (V × Bool)) (x:V × Bool):bad truF (s ++ [x]) = if (bad truF s).k = 4 then bad truF s else if (truF x.1 x.2).k = 4 then truF x.1 x.2 else .blank:=bad_app truF s [x]
theorem badT_keep (s:List (V × Bool)) (x:V × Bool) (h:(truF x.1 x.2).k≠4∨(bad truF s).k = 4):bad truF (s ++ [x]) = bad truF s:=by
 rw [badT]
 rcases bad_kind truF s with k | k
 · rcases h with h | h
   · rw [k,if_neg J9,if_neg h]
   · rw [if_pos h]
 · rw [if_pos k]
structure Tru (W:World) (s:List (V × Bool)) (V':World):Prop where
 e:Ext W V'
 w:Blk V' (W.heap.size+1) (.int .i64 (bad truF s).k) (.int .i64 (bad truF s).n) (.string (bad truF s).s) (.int .i64 (bad truF s).e)
 z:Blk V' W.heap.size (.int .i64 0) (.int .i64 0) (.string ⟨#[]⟩) (.int .i64 0)
theorem Tru.ext {W:World} {s:List (V × Bool)} {V1 V2:World} (h:Tru W s V1) (e:Ext V1 V2):Tru W s V2:=⟨h.e.trans e,h.w.ext e,h.z.ext e⟩
theorem Tru.same {W:World} {s:List (V × Bool)} {V1 V2:World} (h:Tru W s V1) (e:Ext V1 V2) (x:V × Bool) (hk:(truF x.1 x.2).k≠4∨(bad truF s).k = 4):Tru W (s ++ [x]) V2:=by
 have hb:=badT_keep s x hk
 obtain ⟨a,f,g⟩:=h.ext e
 exact ⟨a,by rw [hb];exact f,g⟩
theorem Tru.err {W:World} {s:List (V × Bool)} {V1 V2:World} (h:Tru W s V1) (e:Ext V1 V2) (x:V × Bool) (y:V) (hy:truF x.1 x.2 = y) (hk:y.k = 4) (hb4:(bad truF s).k≠4):Tru W (s ++ [x]) (put4 V2 (W.heap.size+1) (.int .i64 y.k) (.int .i64 y.n) (.string y.s) (.int .i64 y.e)):=by
 subst hy
 have hb:bad truF (s ++ [x]) = truF x.1 x.2:=by rw [badT,if_neg hb4,if_pos hk]
 obtain ⟨a,f,g⟩:=h.ext e
 refine ⟨?_,?_,?_⟩
 · exact (((a.setCell J65 _).setCell J65 _).setCell J65 _).setCell J65 _
 · rw [hb];exact f.set _ _ _ _
 · exact g.far J2 _ _ _ _
end Go.Proofs.YtcfgbiaahangmaaGreatDoor

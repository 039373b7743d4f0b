import Derived.Test.YtcfgbiaahangmaaGreatDoorB24
set_option maxHeartbeats 6000000
namespace Go.Proofs.YtcfgbiaahangmaaGreatDoor
open Go.RowKit
theorem IsL.two {P : Nat → Prop} {W : World} {x y : T} {lx ly : Value} (hx : IsL W P lx x.l) (hy : IsL W P ly y.l) (hP : P W.heap.size) :
   IsL (W.alloc (.cells #[.int .i64 x.k,.int .i64 x.n,.string (bs x.s),.int .i64 x.e,.int .i64 x.r.1,.int .i64 x.r.2.1,.bool x.r.2.2.1,.bool x.r.2.2.2,.int .i64 x.q.1,.int .i64 x.q.2.1,.bool x.q.2.2.1,.bool x.q.2.2.2,lx,.int .i64 y.k,.int .i64 y.n,.string (bs y.s),.int .i64 y.e,.int .i64 y.r.1,.int .i64 y.r.2.1,.bool y.r.2.2.1,.bool y.r.2.2.2,.int .i64 y.q.1,.int .i64 y.q.2.1,.bool y.q.2.2.1,.bool y.q.2.2.2,ly] 43)) P (.slice (some ⟨W.heap.size,0,none⟩) 2 2) [x,y]:=by
 refine .mk W.heap.size 0 2 2 [x,y] (fun i=>if i = 0 then lx else ly) rfl nrf hP J58 ?_ ?_
 · intro i t j u hi hj
   rw [cell_of_row _ _ _ _ _ (0,0) (new_top W _),Nat.zero_add,← Array.getElem?_toList]
   have e : (#[.int .i64 x.k,.int .i64 x.n,.string (bs x.s),.int .i64 x.e,.int .i64 x.r.1,.int .i64 x.r.2.1,.bool x.r.2.2.1,.bool x.r.2.2.2,.int .i64 x.q.1,.int .i64 x.q.2.1,.bool x.q.2.2.1,.bool x.q.2.2.2,lx,.int .i64 y.k,.int .i64 y.n,.string (bs y.s),.int .i64 y.e,.int .i64 y.r.1,.int .i64 y.r.2.1,.bool y.r.2.2.1,.bool y.r.2.2.2,.int .i64 y.q.1,.int .i64 y.q.2.1,.bool y.q.2.2.1,.bool y.q.2.2.2,ly] : Array Value).toList = cellsT x lx ++ cellsT y ly:=rfl
   rw [e]
   match i with
   | 0 =>
     simp at hi
     subst hi
     have hl : j < (cellsT x lx).length:=(List.getElem?_eq_some_iff.mp hj).1
     rw [Nat.zero_mul,Nat.zero_add,List.getElem?_append_left hl]
     exact hj
   | 1 =>
     simp at hi
     subst hi
     rw [List.getElem?_append_right (by rw [cellsT_length];omega),cellsT_length,show 1 * 13 + j - 13 = j by omega]
     exact hj
   | i + 2=>simp at hi
 · intro i t hi
   match i with
   | 0=>simp at hi;subst hi;exact hx.ext (xr.alloc _)
   | 1=>simp at hi;subst hi;exact hy.ext (xr.alloc _)
   | i + 2=>simp at hi
end Go.Proofs.YtcfgbiaahangmaaGreatDoor

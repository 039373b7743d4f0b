/-
 Two trees in a new block; a tree's cells put elsewhere.
-/
import Derived.Test.YtcggiljlilbdfaaGreatDoorQ21
namespace Go.Proofs.YtcggiljlilbdfaaGreatDoor
open Go.RowKit
set_option maxHeartbeats 6000000

theorem putX_La {P : Nat → Prop} {W : World} {o : Obj} {g : Nat} {t : T} {lv v : Value} {l : List T} (hL : IsL (W.alloc o) P v l) (hP : ∀ k, P k → k ≠ g) : IsL ((putX W g t lv).alloc o) P v l := by
 refine hL.keep (by simp [putX_size]) (fun k hk hs => ?_) (fun _ h _ => h)
 have hk2 := hP k hk
 simp at hs
 rcases Nat.lt_or_ge k W.heap.size with hl | hl
 · show ((putX W g t lv).heap.push o)[k]? = (W.heap.push o)[k]?
   rw [Array.getElem?_push_lt (by rw [putX_size]; exact hl), Array.getElem?_push_lt hl, ← Array.getElem?_eq_getElem, ← Array.getElem?_eq_getElem, putX_heap W g k t lv hk2]
 · have : k = W.heap.size := by omega
   subst this
   show ((putX W g t lv).heap.push o)[W.heap.size]? = (W.heap.push o)[W.heap.size]?
   have e := putX_size W g t lv
   rw [← e, Array.getElem?_push_size, e, Array.getElem?_push_size]
/-- Two trees in a new block. -/
theorem IsL.two {P : Nat → Prop} {W : World} {x y : T} {lx ly : Value} (hx : IsL W P lx x.l) (hy : IsL W P ly y.l) (hP : P W.heap.size) :
   IsL (W.alloc (.cells #[.int .i64 x.k, .int .i64 x.n, .string (bs x.s), .int .i64 x.e, .int .i64 x.r.1, .int .i64 x.r.2.1, .bool x.r.2.2.1, .bool x.r.2.2.2, .int .i64 x.q.1, .int .i64 x.q.2.1, .bool x.q.2.2.1, .bool x.q.2.2.2, lx, .int .i64 y.k, .int .i64 y.n, .string (bs y.s), .int .i64 y.e, .int .i64 y.r.1, .int .i64 y.r.2.1, .bool y.r.2.2.1, .bool y.r.2.2.2, .int .i64 y.q.1, .int .i64 y.q.2.1, .bool y.q.2.2.1, .bool y.q.2.2.2, ly] 29)) P (.slice (some ⟨W.heap.size, 0, none⟩) 2 2) [x, y] := by
 refine .mk W.heap.size 0 2 2 [x, y] (fun i => if i = 0 then lx else ly) rfl (Nat.le_refl _) hP (by simp) ?_ ?_
 · intro i t j u hi hj
   rw [cell_of_row _ _ _ _ _ (0, 0) (new_top W _), Nat.zero_add, ← Array.getElem?_toList]
   have e : (#[.int .i64 x.k, .int .i64 x.n, .string (bs x.s), .int .i64 x.e, .int .i64 x.r.1, .int .i64 x.r.2.1, .bool x.r.2.2.1, .bool x.r.2.2.2, .int .i64 x.q.1, .int .i64 x.q.2.1, .bool x.q.2.2.1, .bool x.q.2.2.2, lx, .int .i64 y.k, .int .i64 y.n, .string (bs y.s), .int .i64 y.e, .int .i64 y.r.1, .int .i64 y.r.2.1, .bool y.r.2.2.1, .bool y.r.2.2.2, .int .i64 y.q.1, .int .i64 y.q.2.1, .bool y.q.2.2.1, .bool y.q.2.2.2, ly] : Array Value).toList = cellsT x lx ++ cellsT y ly := rfl
   rw [e]
   match i with
   | 0 =>
     simp at hi
     subst hi
     have hl : j < (cellsT x lx).length := (List.getElem?_eq_some_iff.mp hj).1
     rw [Nat.zero_mul, Nat.zero_add, List.getElem?_append_left hl]
     exact hj
   | 1 =>
     simp at hi
     subst hi
     rw [List.getElem?_append_right (by rw [cellsT_length]; omega), cellsT_length, show 1 * 13 + j - 13 = j by omega]
     exact hj
   | i + 2 => simp at hi
 · intro i t hi
   match i with
   | 0 => simp at hi; subst hi; exact hx.ext ((Ext.refl _).alloc _)
   | 1 => simp at hi; subst hi; exact hy.ext ((Ext.refl _).alloc _)
   | i + 2 => simp at hi
end Go.Proofs.YtcggiljlilbdfaaGreatDoor

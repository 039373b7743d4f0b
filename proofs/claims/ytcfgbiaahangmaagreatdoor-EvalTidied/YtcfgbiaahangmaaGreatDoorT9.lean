import Derived.Test.YtcfgbiaahangmaaGreatDoorT8
import Derived.Shelf.Strings.BuilderX
import Derived.Lib.Builder
import Derived.Laws.AppendOwn
import Derived.Lib.OwnKind
import Derived.Lib.AppendStr
import Derived.Lib.AppendIntMem
import Derived.Lib.UnsafeStr
import Derived.Lib.Replace
import Derived.Lib.ReplaceLaws
import Derived.Lib.CountLaws
set_option maxHeartbeats 6000000
namespace Go.Proofs.YtcfgbiaahangmaaGreatDoor
open Go.RowKit
theorem byte_info : ∃ i,Tryz.prog.info? 5 = some i ∧ i.zero = some (.int .u8 0) ∧ i.size = 1 ∧ i.bytes = 1:=by
 exact K93
def Ok9 (b : Nat) (w w' : World) : Prop:=Lib.OthersKept 5 (some b) w w' ∧ w.heap.size ≤ w'.heap.size
theorem Ok9.trans {b : Nat} {x y z : World} (h : Ok9 b x y) (k : Ok9 b y z) : Ok9 b x z:=⟨h.1.trans k.1,Nat.le_trans h.2 k.2⟩
theorem Ok9.refl (b : Nat) (w : World) : Ok9 b w w:=⟨Lib.OthersKept.refl _ _ _,Nat.le_refl _⟩
theorem txt_ne (c : UInt8) (r : List UInt8) (h : c ≠ 34) : txt (c :: r) = (txt r).map (fun x=>(c :: x.1,x.2 + 1)):=by
 cases r with
 | nil=>simp [txt,h]
 | cons d r=>rw [txt,if_neg h]
theorem txt_two (r : List UInt8) : txt (34 :: 34 :: r) = (txt r).map (fun x=>(34 :: x.1,x.2 + 2)):=by simp [txt]
theorem txt_end (r : List UInt8) (h : r.head? ≠ some 34) : txt (34 :: r) = some ([],1):=by
 cases r with
 | nil=>simp [txt]
 | cons d r=>rw [txt,if_pos rfl,if_neg J56]
def TxA (l : List UInt8) (k j : Nat) (acc : List UInt8) : Prop:=k + 1 ≤ j ∧ acc.length ≤ j ∧ txt (l.drop (k + 1)) = (txt (l.drop j)).map (fun x=>(acc ++ x.1,x.2 + (j - (k + 1))))
theorem TxA.start (l : List UInt8) (k : Nat) : TxA l k (k + 1) []:=by
 refine ⟨Nat.le_refl _,Nat.zero_le _,?_⟩
 cases txt (l.drop (k + 1)) <;> simp
theorem TxA.one {l : List UInt8} {k j : Nat} {acc : List UInt8} (h : TxA l k j acc) (hj : j < l.length) (hc : l[j] ≠ 34) : TxA l k (j + 1) (acc ++ [l[j]]):=by
 obtain ⟨h0,h1,h2⟩:=h
 refine ⟨by omega,by simp;omega,?_⟩
 rw [h2,List.drop_eq_getElem_cons hj,txt_ne _ _ hc]
 cases txt (l.drop (j + 1)) with
 | none=>rfl
 | some x=>simp;omega
theorem TxA.two {l : List UInt8} {k j : Nat} {acc : List UInt8} (h : TxA l k j acc) (hj : j + 1 < l.length) (hc : l[j] = 34) (hd : l[j + 1] = 34) : TxA l k (j + 1 + 1) (acc ++ [34]):=by
 obtain ⟨h0,h1,h2⟩:=h
 refine ⟨by omega,by simp;omega,?_⟩
 rw [h2,List.drop_eq_getElem_cons (by omega : j < l.length),List.drop_eq_getElem_cons hj,hc,hd,txt_two]
 cases txt (l.drop (j + 1 + 1)) with
 | none=>rfl
 | some x=>simp;omega
theorem TxA.none {l : List UInt8} {k j : Nat} {acc : List UInt8} (h : TxA l k j acc) (hj : l.length ≤ j) : txtR (l.drop k) = .error 4:=by
 have e:=h.2.2
 rw [List.drop_eq_nil_of_le hj] at e
 unfold txtR
 rw [List.tail_drop,e];rfl
theorem TxA.done {l : List UInt8} {k j : Nat} {acc : List UInt8} (h : TxA l k j acc) (hj : j < l.length) (hc : l[j] = 34) (hd : (l.drop (j + 1)).head? ≠ some 34) : txtR (l.drop k) = .ok (1,acc,0,0,j + 1 - k):=by
 obtain ⟨h0,h1,e⟩:=h
 rw [List.drop_eq_getElem_cons hj,hc,txt_end _ hd] at e
 unfold txtR
 rw [List.tail_drop,e]
 simp;omega
theorem new_top (w : World) (o : Obj) : (w.alloc o).heap[w.heap.size]? = some o:=by show (w.heap.push o)[w.heap.size]? = some o;simp
def Mx (w : World) : Prop:=1 < w.heap.size ∧ ∃ m,w.cell? ⟨1,0,none⟩ = some (.int .i64 m)
theorem Mx.ext {w w' : World} (h : Mx w) (e : Ext w w') : Mx w':=by
 obtain ⟨h1,m,h2⟩:=h
 exact ⟨llL h1 e.sz,m,(e.cell.1 _ _ h1).trans h2⟩
def Tab9 (w : World) : Prop:=Tab w ∧ NmL w ∧ Mx w
theorem Tab9.ext {w w' : World} (h : Tab9 w) (e : Ext w w') : Tab9 w':=⟨h.1.ext e,h.2.1.ext e,h.2.2.ext e⟩
theorem Ok9.blk {b g : Nat} {w w' : World} {cs : Array Value} {T : TypeId} (h : Ok9 b w w') (hb : w.heap[g]? = some (.cells cs T (0,0))) (hg : g ≠ b) (hT : T ≠ 5) : w'.heap[g]? = some (.cells cs T (0,0)) :=
 h.1 g _ hb (fun e=>hg (Option.some.inj e)) (fun c fz e=>by cases e;exact hT rfl)
end Go.Proofs.YtcfgbiaahangmaaGreatDoor

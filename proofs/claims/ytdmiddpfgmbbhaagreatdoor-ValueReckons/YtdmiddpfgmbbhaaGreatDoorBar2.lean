/-
  The moves of a bar where more than one operation may come up. No program in sight.
-/
import Derived.Test.YtdmiddpfgmbbhaaGreatDoorBar
namespace Go.Proofs.YtdmiddpfgmbbhaaGreatDoor
open Go

section
variable {P : Program} {ops : Array Oper} {Q : Exit → Act → World → Prop} {md : Region.Mode} {B : Nat → Bool} {S : World → Prop}
/-- Each of rs may come up next. -/
def Bars (P : Program) (md : Region.Mode) (ops : Array Oper) (Q : Exit → Act → World → Prop) (B : Nat → Bool) (S : World → Prop) (n : Nat) (l : Array Bool) (a : Act) (w : World) (rs : List Nat) : Prop :=
  ∀ i ∈ rs, wpOp P ops Q i (fun x v => (B i = false → S v) ∧ wpBar P md ops Q B S n (l.setIfInBounds i true) x v) a w
theorem Bars.nil {n : Nat} {l : Array Bool} {a : Act} {w : World} : Bars P md ops Q B S n l a w [] := fun _ h => by cases h
theorem Bars.cons {n : Nat} {l : Array Bool} {a : Act} {w : World} {i : Nat} {o : Oper} {rs : List Nat} (ho : ops[i]? = some o)
    (h : ∀ K : Act → World → Prop, Shut (∀ a w, (B i = false → S w) → wpBar P md ops Q B S n (l.setIfInBounds i true) a w → K a w) → if Region.wanted o (yielded ops a.tmps) = true then Oper.wp P o a w K Q else K (a.put o.dst undef) w)
    (hs : Bars P md ops Q B S n l a w rs) : Bars P md ops Q B S n l a w (i :: rs) := fun j hj => by
  rcases List.mem_cons.1 hj with rfl | hj
  · exact wpOp_step ho fun K hK => h K fun a w hS hW => hK a w ⟨hS, hW⟩
  · exact hs j hj
theorem bar_list {rs : List Nat} {n : Nat} {l : Array Bool} {a : Act} {w : World} (hr : Region.ready md ops l = rs) (hne : rs ≠ []) (h : Bars P md ops Q B S n l a w rs) : wpBar P md ops Q B S (n + 1) l a w :=
  ⟨fun h0 => absurd (hr.symm.trans h0) hne, fun i hi => h i (hr ▸ hi)⟩
/-- As bar_take, the operation off the list: so it is laid out. -/
theorem bar_takeL {i : Nat} {oi : Oper} {v : Value} {n : Nat} {l : Array Bool} {a : Act} {w : World} (hi : ops.toList[i]? = some oi) (hs : Region.noSelect ops = true) (hf : Region.free md ops l i = true)
    (hr : (Region.ready md ops l).contains i = true) (hw : waitsB md ops B i l = true) (hQ : ∀ c a w, Q (.panic c) (a.put oi.dst v) w → Q (.panic c) a w) (hy : YieldsIf P ops S oi v a) (hS : S w)
    (h : wpBar P md ops Q B S n (l.setIfInBounds i true) (a.put oi.dst v) w) : wpBar P md ops Q B S (n + 1) l a w :=
  bar_take (by rw [← Array.getElem?_toList]; exact hi) hs hf hr hw hQ hy hS h
theorem bar_oneL {i : Nat} {o : Oper} {n : Nat} {l : Array Bool} {a : Act} {w : World} (hr : Region.ready md ops l = [i]) (ho : ops.toList[i]? = some o)
    (h : ∀ K : Act → World → Prop, Shut (∀ a w, (B i = false → S w) → wpBar P md ops Q B S n (l.setIfInBounds i true) a w → K a w) → if Region.wanted o (yielded ops a.tmps) = true then Oper.wp P o a w K Q else K (a.put o.dst undef) w) :
    wpBar P md ops Q B S (n + 1) l a w := bar_one hr (by rw [← Array.getElem?_toList]; exact ho) h
end
end Go.Proofs.YtdmiddpfgmbbhaaGreatDoor

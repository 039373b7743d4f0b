/-
  The contracts of package num's Digits and Print.
-/
import Derived.Test.YtfppjnigbodphaaDoorDecC
import Derived.Lib.LaidTab
import Derived.Lib.TrimByte
import Derived.Sort.Grow
namespace Go.Proofs.YtfppjnigbodphaaDoor
open Go.RowKit
set_option maxHeartbeats 1000000

/-- The library's table of powers of ten is there. -/
def Tab (w : World) : Prop := Lib.TabIs Tryd.prog w "internal/strconv.uint64pow10" .u64 Lib.pow10Tab
theorem var_ext {P : Program} {w w' : World} {n : String} {cs : Array Value} (h : w.var? P n = some cs) (e : Ext w w') : w'.var? P n = some cs := by
  unfold World.var? at h ⊢
  cases hg : P.globalNamed n with
  | none => rw [hg] at h; cases h
  | some g =>
    rw [hg] at h
    simp only [Option.bind_some] at h ⊢
    by_cases hb : g < w.heap.size
    · rw [e.block g hb]; exact h
    · rw [show w.heap[g]? = none from by simp; omega] at h; cases h
theorem Tab.ext {w w' : World} (h : Tab w) (e : Ext w w') : Tab w' := var_ext h e
theorem ext_grow (w : World) (k : Nat) (os : Array Obj) : Ext w (Sort.grow (w.drewN k) os) :=
  ((Ext.refl w).drewN k).trans ⟨rfl, rfl, rfl, by simp [Sort.grow], fun i hi => by show (w.heap ++ os)[i]? = w.heap[i]?; exact Array.getElem?_append_left hi⟩

/-- How a number is written: its whole part, what stands behind the dot. -/
def fracL (r : Nat) : List UInt8 := Lib.trimRightB ((Lib.decDigits (10000 + r)).drop 1) 48
def bodyL (n : Nat) : List UInt8 := Lib.decDigits (n / 10000) ++ (if fracL (n % 10000) = [] then [] else 46 :: fracL (n % 10000))
def printL (a : Int) : List UInt8 := if canB a then (if a < 0 then 45 :: bodyL a.natAbs else bodyL a.natAbs) else [110, 111, 110, 101]

theorem dec_size (u k : Nat) (h : u < 10 ^ (k + 1)) : 1 ≤ (⟨(Lib.decDigits u).toArray⟩ : ByteArray).size ∧ (⟨(Lib.decDigits u).toArray⟩ : ByteArray).size ≤ k + 1 := by
  rw [← size_list]; exact dec_len u k h
theorem trim_len (l : List UInt8) (c : UInt8) : (Lib.trimRightB l c).length ≤ l.length := by
  unfold Lib.trimRightB
  rw [List.length_reverse]
  have := List.dropWhile_sublist (fun x => x == c) (l := l.reverse)
  simpa using this.length_le
theorem ext_one (l : List UInt8) : ((⟨l.toArray⟩ : ByteArray).extract 1 (⟨l.toArray⟩ : ByteArray).size).data.toList = l.drop 1 := by
  rw [Lib.extract_data, ← size_list]
  exact List.take_of_length_le (by simp)
end Go.Proofs.YtfppjnigbodphaaDoor

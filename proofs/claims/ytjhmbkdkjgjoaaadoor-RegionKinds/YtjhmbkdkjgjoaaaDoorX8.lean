/-
 A struct of 5 fields in a block of its own: laid, kept, stored; the end of a function whose result lies in one.
 The contracts of package lex's word, sign and failure: a word, or a panic that tells the place and why.
 Lists of words in a world: slices of structs of five fields, read and owned; append.
 A struct of 13 fields in a block of its own: laid, kept, stored; the end of a function whose result lies in one.
 Trees in memory, and the reader's own block: what a step of it leaves as it was.
 Cells of a sheet as plain data; which runs of formulas that were filled down they have. Plain mathematics: no program in sight.
 Lists in memory of the call's own, of whatever elements: append.
 Lists of structs in memory, whatever their fields: read, owned, sorted.
-/
import Derived.Test.YtjhmbkdkjgjoaaaDoorX1
import Derived.Test.YtjhmbkdkjgjoaaaDoorX7
import Derived.Test.YtjhmbkdkjgjoaaaDoorShelf
import Derived.Defers
import Derived.Deep.AppendLies
import Derived.Laws.OwnMore
import Derived.WalkLawsBesides
import Derived.Laws.StructEq
import Derived.Shelf.SlicesE.Kit
import Derived.Test.YtjhmbkdkjgjoaaaDoorX6
import Derived.Test.YtjhmbkdkjgjoaaaDoorProg
import Derived.Lib.AppendZeros
import Derived.Deep.DeepCutAuto
import Derived.Deep.Light
import Derived.Deep.CutBlock
namespace Go.Proofs.YtjhmbkdkjgjoaaaDoor
open Go.RowKit
set_option maxHeartbeats 1000000

def Blk5 (W : World) (b : Nat) (x0 x1 x2 x3 x4 : Value) : Prop := b < W.heap.size ∧
 (W.cell? ⟨b, 0, none⟩ = some x0 ∧ W.cell? ⟨b, 1, none⟩ = some x1 ∧ W.cell? ⟨b, 2, none⟩ = some x2 ∧ W.cell? ⟨b, 3, none⟩ = some x3 ∧ W.cell? ⟨b, 4, none⟩ = some x4) ∧
 (W.frozen? ⟨b, 0, none⟩ = false ∧ W.frozen? ⟨b, 1, none⟩ = false ∧ W.frozen? ⟨b, 2, none⟩ = false ∧ W.frozen? ⟨b, 3, none⟩ = false ∧ W.frozen? ⟨b, 4, none⟩ = false)
theorem blk5_top {w w1 : World} {x0 x1 x2 x3 x4 : Value} {T : TypeId} {b : Nat} (hb : b = w.heap.size) (E : Ext (w.alloc (.cells #[x0, x1, x2, x3, x4] T)) w1) : Blk5 w1 b x0 x1 x2 x3 x4 := by
 subst hb
 have hs : w.heap.size < (w.alloc (.cells #[x0, x1, x2, x3, x4] T)).heap.size := by simp
 have k := fun o => E.cell.1 w.heap.size o hs
 have f := fun o => E.cell.2 w.heap.size o hs
 refine ⟨Nat.lt_of_lt_of_le hs E.sz, ⟨(k 0).trans ?_, (k 1).trans ?_, (k 2).trans ?_, (k 3).trans ?_, (k 4).trans ?_⟩, (f 0).trans ?_, (f 1).trans ?_, (f 2).trans ?_, (f 3).trans ?_, (f 4).trans ?_⟩
 all_goals simp [go_sem]
theorem Blk5.ext {w w' : World} {b : Nat} {x0 x1 x2 x3 x4 : Value} (h : Blk5 w b x0 x1 x2 x3 x4) (e : Ext w w') : Blk5 w' b x0 x1 x2 x3 x4 := by
 obtain ⟨z, ⟨k0, k1, k2, k3, k4⟩, f0, f1, f2, f3, f4⟩ := h
 have k := fun o => e.cell.1 b o z
 have f := fun o => e.cell.2 b o z
 exact ⟨Nat.lt_of_lt_of_le z e.sz, ⟨(k 0).trans k0, (k 1).trans k1, (k 2).trans k2, (k 3).trans k3, (k 4).trans k4⟩, (f 0).trans f0, (f 1).trans f1, (f 2).trans f2, (f 3).trans f3, (f 4).trans f4⟩
theorem Blk5.far1 {w : World} {b c : Nat} {x0 x1 x2 x3 x4 : Value} (h : Blk5 w b x0 x1 x2 x3 x4) (hc : c ≠ b) (o : Nat) (v : Value) : Blk5 (w.setCell ⟨c, o, none⟩ v) b x0 x1 x2 x3 x4 := by
 obtain ⟨z, ⟨k0, k1, k2, k3, k4⟩, f0, f1, f2, f3, f4⟩ := h
 refine ⟨by simpa [World.setCell] using z, ⟨?_, ?_, ?_, ?_, ?_⟩, ?_, ?_, ?_, ?_, ?_⟩
 · rw [World.cell?_setCell_far _ _ _ _ hc]; exact k0
 · rw [World.cell?_setCell_far _ _ _ _ hc]; exact k1
 · rw [World.cell?_setCell_far _ _ _ _ hc]; exact k2
 · rw [World.cell?_setCell_far _ _ _ _ hc]; exact k3
 · rw [World.cell?_setCell_far _ _ _ _ hc]; exact k4
 · rw [World.frozen?_setCell]; exact f0
 · rw [World.frozen?_setCell]; exact f1
 · rw [World.frozen?_setCell]; exact f2
 · rw [World.frozen?_setCell]; exact f3
 · rw [World.frozen?_setCell]; exact f4
theorem Blk5.far {w : World} {b c : Nat} {x0 x1 x2 x3 x4 : Value} (h : Blk5 w b x0 x1 x2 x3 x4) (hc : c ≠ b) (y0 y1 y2 y3 y4 : Value) :
   Blk5 (((((w.setCell ⟨c, 0, none⟩ y0).setCell ⟨c, 1, none⟩ y1).setCell ⟨c, 2, none⟩ y2).setCell ⟨c, 3, none⟩ y3).setCell ⟨c, 4, none⟩ y4) b x0 x1 x2 x3 x4 := (((((h.far1 hc _ _).far1 hc _ _).far1 hc _ _).far1 hc _ _).far1 hc _ _)
theorem Blk5.put0 {w : World} {b : Nat} {x0 x1 x2 x3 x4 : Value} (h : Blk5 w b x0 x1 x2 x3 x4) (v : Value) : Blk5 (w.setCell ⟨b, 0, none⟩ v) b v x1 x2 x3 x4 := by
 obtain ⟨z, ⟨k0, k1, k2, k3, k4⟩, f0, f1, f2, f3, f4⟩ := h
 have e := World.cell?_setCell_same w ⟨b, 0, none⟩ v (by rw [k0])
 refine ⟨by simpa [World.setCell] using z, ⟨e, ?_, ?_, ?_, ?_⟩, ?_, ?_, ?_, ?_, ?_⟩
 · rw [World.cell?_setCell_other _ _ _ _ (by simp)]; exact k1
 · rw [World.cell?_setCell_other _ _ _ _ (by simp)]; exact k2
 · rw [World.cell?_setCell_other _ _ _ _ (by simp)]; exact k3
 · rw [World.cell?_setCell_other _ _ _ _ (by simp)]; exact k4
 · rw [World.frozen?_setCell]; exact f0
 · rw [World.frozen?_setCell]; exact f1
 · rw [World.frozen?_setCell]; exact f2
 · rw [World.frozen?_setCell]; exact f3
 · rw [World.frozen?_setCell]; exact f4
theorem Blk5.put1 {w : World} {b : Nat} {x0 x1 x2 x3 x4 : Value} (h : Blk5 w b x0 x1 x2 x3 x4) (v : Value) : Blk5 (w.setCell ⟨b, 1, none⟩ v) b x0 v x2 x3 x4 := by
 obtain ⟨z, ⟨k0, k1, k2, k3, k4⟩, f0, f1, f2, f3, f4⟩ := h
 have e := World.cell?_setCell_same w ⟨b, 1, none⟩ v (by rw [k1])
 refine ⟨by simpa [World.setCell] using z, ⟨?_, e, ?_, ?_, ?_⟩, ?_, ?_, ?_, ?_, ?_⟩
 · rw [World.cell?_setCell_other _ _ _ _ (by simp)]; exact k0
 · rw [World.cell?_setCell_other _ _ _ _ (by simp)]; exact k2
 · rw [World.cell?_setCell_other _ _ _ _ (by simp)]; exact k3
 · rw [World.cell?_setCell_other _ _ _ _ (by simp)]; exact k4
 · rw [World.frozen?_setCell]; exact f0
 · rw [World.frozen?_setCell]; exact f1
 · rw [World.frozen?_setCell]; exact f2
 · rw [World.frozen?_setCell]; exact f3
 · rw [World.frozen?_setCell]; exact f4
theorem Blk5.put2 {w : World} {b : Nat} {x0 x1 x2 x3 x4 : Value} (h : Blk5 w b x0 x1 x2 x3 x4) (v : Value) : Blk5 (w.setCell ⟨b, 2, none⟩ v) b x0 x1 v x3 x4 := by
 obtain ⟨z, ⟨k0, k1, k2, k3, k4⟩, f0, f1, f2, f3, f4⟩ := h
 have e := World.cell?_setCell_same w ⟨b, 2, none⟩ v (by rw [k2])
 refine ⟨by simpa [World.setCell] using z, ⟨?_, ?_, e, ?_, ?_⟩, ?_, ?_, ?_, ?_, ?_⟩
 · rw [World.cell?_setCell_other _ _ _ _ (by simp)]; exact k0
 · rw [World.cell?_setCell_other _ _ _ _ (by simp)]; exact k1
 · rw [World.cell?_setCell_other _ _ _ _ (by simp)]; exact k3
 · rw [World.cell?_setCell_other _ _ _ _ (by simp)]; exact k4
 · rw [World.frozen?_setCell]; exact f0
 · rw [World.frozen?_setCell]; exact f1
 · rw [World.frozen?_setCell]; exact f2
 · rw [World.frozen?_setCell]; exact f3
 · rw [World.frozen?_setCell]; exact f4
theorem Blk5.put3 {w : World} {b : Nat} {x0 x1 x2 x3 x4 : Value} (h : Blk5 w b x0 x1 x2 x3 x4) (v : Value) : Blk5 (w.setCell ⟨b, 3, none⟩ v) b x0 x1 x2 v x4 := by
 obtain ⟨z, ⟨k0, k1, k2, k3, k4⟩, f0, f1, f2, f3, f4⟩ := h
 have e := World.cell?_setCell_same w ⟨b, 3, none⟩ v (by rw [k3])
 refine ⟨by simpa [World.setCell] using z, ⟨?_, ?_, ?_, e, ?_⟩, ?_, ?_, ?_, ?_, ?_⟩
 · rw [World.cell?_setCell_other _ _ _ _ (by simp)]; exact k0
 · rw [World.cell?_setCell_other _ _ _ _ (by simp)]; exact k1
 · rw [World.cell?_setCell_other _ _ _ _ (by simp)]; exact k2
 · rw [World.cell?_setCell_other _ _ _ _ (by simp)]; exact k4
 · rw [World.frozen?_setCell]; exact f0
 · rw [World.frozen?_setCell]; exact f1
 · rw [World.frozen?_setCell]; exact f2
 · rw [World.frozen?_setCell]; exact f3
 · rw [World.frozen?_setCell]; exact f4
theorem Blk5.put4 {w : World} {b : Nat} {x0 x1 x2 x3 x4 : Value} (h : Blk5 w b x0 x1 x2 x3 x4) (v : Value) : Blk5 (w.setCell ⟨b, 4, none⟩ v) b x0 x1 x2 x3 v := by
 obtain ⟨z, ⟨k0, k1, k2, k3, k4⟩, f0, f1, f2, f3, f4⟩ := h
 have e := World.cell?_setCell_same w ⟨b, 4, none⟩ v (by rw [k4])
 refine ⟨by simpa [World.setCell] using z, ⟨?_, ?_, ?_, ?_, e⟩, ?_, ?_, ?_, ?_, ?_⟩
 · rw [World.cell?_setCell_other _ _ _ _ (by simp)]; exact k0
 · rw [World.cell?_setCell_other _ _ _ _ (by simp)]; exact k1
 · rw [World.cell?_setCell_other _ _ _ _ (by simp)]; exact k2
 · rw [World.cell?_setCell_other _ _ _ _ (by simp)]; exact k3
 · rw [World.frozen?_setCell]; exact f0
 · rw [World.frozen?_setCell]; exact f1
 · rw [World.frozen?_setCell]; exact f2
 · rw [World.frozen?_setCell]; exact f3
 · rw [World.frozen?_setCell]; exact f4
theorem Blk5.set {w : World} {b : Nat} {o0 o1 o2 o3 o4 : Value} (h : Blk5 w b o0 o1 o2 o3 o4) (x0 x1 x2 x3 x4 : Value) :
   Blk5 (((((w.setCell ⟨b, 0, none⟩ x0).setCell ⟨b, 1, none⟩ x1).setCell ⟨b, 2, none⟩ x2).setCell ⟨b, 3, none⟩ x3).setCell ⟨b, 4, none⟩ x4) b x0 x1 x2 x3 x4 := (((((h.put0 _).put1 _).put2 _).put3 _).put4 _)
theorem Blk5.dr {w : World} {b : Nat} {x0 x1 x2 x3 x4 : Value} (h : Blk5 w b x0 x1 x2 x3 x4) : Blk5 w.drew b x0 x1 x2 x3 x4 := h.ext (Ext.drew (Ext.refl _))
theorem Blk5.al {w : World} {b : Nat} {x0 x1 x2 x3 x4 : Value} (o : Obj) (h : Blk5 w b x0 x1 x2 x3 x4) : Blk5 (w.alloc o) b x0 x1 x2 x3 x4 := h.ext (Ext.alloc (Ext.refl _) _)
/-- The end of a function whose result, and others beside it, lies in a block of its own. -/
theorem fin5 (v : Value) {fn : Func} {Q : Ending → World → Prop} {a : Act} {w W : World} {b : Nat} {x0 x1 x2 x3 x4 : Value}
   (B : Blk5 W b x0 x1 x2 x3 x4) (hd : a.defers = []) (E : Ext w W)
   (hr : W.cell? ⟨b, 0, none⟩ = some x0 → W.cell? ⟨b, 1, none⟩ = some x1 → W.cell? ⟨b, 2, none⟩ = some x2 → W.cell? ⟨b, 3, none⟩ = some x3 → W.cell? ⟨b, 4, none⟩ = some x4 → (results fn a.tmps).run Tryd.prog W = .ok v W)
   (hQ : Ext w W → Q (.returned v) W) : bodyPost Tryd.prog fn Q .ret a W :=
 bodyPost_ret (hr B.2.1.1 B.2.1.2.1 B.2.1.2.2.1 B.2.1.2.2.2.1 B.2.1.2.2.2.2) hd (hQ E)

open Go.RowKit
set_option maxHeartbeats 1000000

theorem byte_ne {c : UInt8} (n : Nat) (hn : n < 256) : ((c.toNat : Int) == (n : Int)) = (c == UInt8.ofNat n) := by
 rw [Bool.eq_iff_iff]; simp; constructor
 · intro h; refine UInt8.toNat_inj.mp ?_; rw [UInt8.toNat_ofNat']; omega
 · rintro rfl; rw [UInt8.toNat_ofNat']; omega
theorem sub_list (s : ByteArray) (i j : Nat) : (s.extract i j).data.toList = (s.data.toList.drop i).take (j - i) := by
 rw [Lib.extract_data]
theorem sub_bs (s : ByteArray) (i n : Nat) : s.extract i (i + n) = bs ((s.data.toList.drop i).take n) := by
 have h := sub_list s i (i + n)
 rw [Nat.add_sub_cancel_left] at h
 rw [← h]; rfl
/-! ### What is sought in a table -/
theorem find_here {α : Type} {l : List α} {q : α → Bool} {j : Nat} {x : α} (h : (l.take j).find? q = none) (hx : l[j]? = some x) (hq : q x = true) : l.find? q = some x := by
 have hj : j < l.length := (List.getElem?_eq_some_iff.mp hx).1
 have e : l = l.take j ++ x :: l.drop (j + 1) := by
   rw [List.getElem?_eq_getElem hj] at hx
   cases hx
   rw [← List.drop_eq_getElem_cons hj, List.take_append_drop]
 rw [e, List.find?_append, h]; simp [hq]
theorem find_on {α : Type} {l : List α} {q : α → Bool} {j : Nat} {x : α} (h : (l.take j).find? q = none) (hx : l[j]? = some x) (hq : q x = false) : (l.take (j + 1)).find? q = none := by
 rw [List.take_add_one, hx, List.find?_append, h]; simp [hq]
theorem find_end {α : Type} {l : List α} {q : α → Bool} {j : Nat} (h : (l.take j).find? q = none) (hj : l.length ≤ j) : l.find? q = none := by
 rwa [List.take_of_length_le hj] at h

/-- The errors' names, and the signs, lie where the program's text lays them. -/
def NmL (w : World) : Prop := 0 < w.heap.size ∧
 w.cell? ⟨0, 0, none⟩ = some (.string ⟨#[]⟩) ∧ w.cell? ⟨0, 1, none⟩ = some (.string ⟨#[35, 82, 69, 70, 33]⟩) ∧ w.cell? ⟨0, 2, none⟩ = some (.string ⟨#[35, 86, 65, 76, 85, 69, 33]⟩) ∧
 w.cell? ⟨0, 3, none⟩ = some (.string ⟨#[35, 68, 73, 86, 47, 48, 33]⟩) ∧ w.cell? ⟨0, 4, none⟩ = some (.string ⟨#[35, 78, 85, 77, 33]⟩) ∧ w.cell? ⟨0, 5, none⟩ = some (.string ⟨#[35, 67, 89, 67, 76, 69, 33]⟩)
theorem NmL.ext {w w' : World} (h : NmL w) (e : Ext w w') : NmL w' := by
 obtain ⟨hs, h0, h1, h2, h3, h4, h5⟩ := h
 have k := fun o => e.cell.1 0 o hs
 exact ⟨Nat.lt_of_lt_of_le hs e.sz, (k 0).trans h0, (k 1).trans h1, (k 2).trans h2, (k 3).trans h3, (k 4).trans h4, (k 5).trans h5⟩

open Go.RowKit
set_option maxHeartbeats 1000000

def flatT : List Tk → List Value
 | [] => []
 | t :: r => .int .i64 t.1 :: .int .i64 t.2.1 :: .string (bs t.2.2.1) :: .int .i64 t.2.2.2.1 :: .int .i64 t.2.2.2.2 :: flatT r
theorem flatT_append (a b : List Tk) : flatT (a ++ b) = flatT a ++ flatT b := by
 induction a with
 | nil => rfl
 | cons s r ih => simp [flatT, ih]
theorem flatT_length (a : List Tk) : (flatT a).length = a.length * 5 := by
 induction a with
 | nil => rfl
 | cons s r ih => simp [flatT, ih]; omega
theorem flatT_one (a : List Tk) : ∀ u ∈ flatT a, u.oneCell' = true := by
 induction a with
 | nil => simp [flatT]
 | cons s r ih => intro u hu; simp [flatT] at hu; rcases hu with rfl | rfl | rfl | rfl | rfl | hu; rfl; rfl; rfl; rfl; rfl; exact ih u hu
theorem flatT_at : ∀ (a : List Tk) (i : Nat) (t : Tk), a[i]? = some t → (flatT a)[i * 5]? = some (.int .i64 t.1) ∧ (flatT a)[i * 5 + 1]? = some (.int .i64 t.2.1) ∧ (flatT a)[i * 5 + 2]? = some (.string (bs t.2.2.1)) ∧ (flatT a)[i * 5 + 3]? = some (.int .i64 t.2.2.2.1) ∧ (flatT a)[i * 5 + 4]? = some (.int .i64 t.2.2.2.2)
 | [], _, _, h => by simp at h
 | t :: r, 0, s, h => by simp at h; subst h; simp [flatT]
 | t :: r, i + 1, s, h => by
   have ih := flatT_at r i s (by simpa using h)
   have e : (i + 1) * 5 = i * 5 + 1 + 1 + 1 + 1 + 1 := by omega
   have e1 : (i + 1) * 5 + 1 = i * 5 + 1 + 1 + 1 + 1 + 1 + 1 := by omega
   have e2 : (i + 1) * 5 + 2 = i * 5 + 2 + 1 + 1 + 1 + 1 + 1 := by omega
   have e3 : (i + 1) * 5 + 3 = i * 5 + 3 + 1 + 1 + 1 + 1 + 1 := by omega
   have e4 : (i + 1) * 5 + 4 = i * 5 + 4 + 1 + 1 + 1 + 1 + 1 := by omega
   rw [e1, e2, e3, e4, e]
   simpa [flatT] using ih

/-- v holds the words l. -/
def RdT (w : World) (v : Value) (l : List Tk) : Prop :=
 (v = .slice none 0 0 ∧ l = []) ∨ ∃ b off c, v = .slice (some ⟨b, off, none⟩) l.length c ∧ l.length ≤ c ∧ b < w.heap.size ∧
   ∀ j u, (flatT l)[j]? = some u → w.cell? ⟨b, off + j, none⟩ = some u
theorem RdT.ext {w w' : World} {v : Value} {l : List Tk} (h : RdT w v l) (e : Ext w w') : RdT w' v l := by
 rcases h with h | ⟨b, off, c, rfl, h1, h2, h3⟩
 · exact .inl h
 · exact .inr ⟨b, off, c, rfl, h1, Nat.lt_of_lt_of_le h2 e.size, fun j u hu => (e.cell.1 b _ h2).trans (h3 j u hu)⟩
theorem RdT.nil (w : World) : RdT w (.slice none 0 0) [] := .inl ⟨rfl, rfl⟩
theorem RdT.form {w : World} {v : Value} {l : List Tk} (h : RdT w v l) : ∃ p c, v = .slice p l.length c ∧ l.length ≤ c := by
 rcases h with ⟨rfl, rfl⟩ | ⟨b, off, c, rfl, h, _⟩
 · exact ⟨_, _, rfl, Nat.le_refl _⟩
 · exact ⟨_, _, rfl, h⟩
theorem RdT.at {w : World} {p : Option Addr} {c n : Nat} {l : List Tk} (h : RdT w (.slice p n c) l) {k : Nat} (hk : k < l.length) :
   ∃ b off t, p = some ⟨b, off, none⟩ ∧ l[k]? = some t ∧ n = l.length ∧ ∀ w', Ext w w' → w'.cell? ⟨b, off + k * 5, none⟩ = some (.int .i64 t.1) ∧ w'.cell? ⟨b, off + k * 5 + 1, none⟩ = some (.int .i64 t.2.1) ∧ w'.cell? ⟨b, off + k * 5 + 2, none⟩ = some (.string (bs t.2.2.1)) ∧ w'.cell? ⟨b, off + k * 5 + 3, none⟩ = some (.int .i64 t.2.2.2.1) ∧ w'.cell? ⟨b, off + k * 5 + 4, none⟩ = some (.int .i64 t.2.2.2.2) := by
 rcases h with ⟨_, h2⟩ | ⟨b, off, c', h1, h2, h3, h4⟩
 · rw [h2] at hk; simp at hk
 · simp at h1
   obtain ⟨rfl, rfl, rfl⟩ := h1
   refine ⟨b, off, l[k], rfl, List.getElem?_eq_getElem hk, rfl, fun w' e => ?_⟩
   obtain ⟨k0, k1, k2, k3, k4⟩ := flatT_at l k l[k] (List.getElem?_eq_getElem hk)
   exact ⟨(e.cell.1 b _ h3).trans (h4 _ _ k0), (e.cell.1 b _ h3).trans (h4 _ _ k1), (e.cell.1 b _ h3).trans (h4 _ _ k2), (e.cell.1 b _ h3).trans (h4 _ _ k3), (e.cell.1 b _ h3).trans (h4 _ _ k4)⟩

theorem info_tk : ∃ i, Tryd.prog.info? 59 = some i ∧ i.zero = some (.agg #[.int .i64 0, .int .i64 0, .string ⟨#[]⟩, .int .i64 0, .int .i64 0]) ∧ i.size = 5 ∧ i.bytes = 48 := by
 have h2 : (Tryd.prog.info? 59).bind (fun i => i.zero) = some (.agg #[.int .i64 0, .int .i64 0, .string ⟨#[]⟩, .int .i64 0, .int .i64 0]) := by kernel_rfl
 have h3 : (Tryd.prog.info? 59).map (fun i => (i.size, i.bytes)) = some (5, 48) := by kernel_rfl
 cases h : Tryd.prog.info? 59 with
 | none => rw [h] at h2; cases h2
 | some i =>
   rw [h] at h2 h3
   simp at h2 h3
   exact ⟨i, rfl, h2, h3.1, h3.2⟩

/-- v holds the words l in a block of the call's own, from base on. -/
def OwT (w : World) (base : Nat) (v : Value) (l : List Tk) : Prop := w.ownsRow base 59 5 v l.length (flatT l)
theorem heap_lt {w : World} {g : Nat} {o : Obj} (h : w.heap[g]? = some o) : g < w.heap.size := by
 rcases Nat.lt_or_ge g w.heap.size with k | k
 · exact k
 · rw [Array.getElem?_eq_none k] at h; cases h
theorem OwT.ext {w w' : World} {base : Nat} {v : Value} {l : List Tk} (h : OwT w base v l) (e : Ext w w') : OwT w' base v l := by
 refine ⟨h.1, ?_⟩
 rcases h.2 with h2 | ⟨g, cap, cur, h1, h2, h3, h4⟩
 · exact .inl h2
 · exact .inr ⟨g, cap, cur, h1, h2, (e.block g (heap_lt h3)).trans h3, h4⟩
/-- .. whatever turns in another block. -/
theorem OwT.set {w : World} {base : Nat} {v : Value} {l : List Tk} (h : OwT w base v l) {p : Addr} (hp : p.block < base) (u : Value) : OwT (w.setCell p u) base v l := by
 refine ⟨h.1, ?_⟩
 rcases h.2 with h2 | ⟨g, cap, cur, h1, h2, h3, h4⟩
 · exact .inl h2
 · refine .inr ⟨g, cap, cur, h1, h2, ?_, h4⟩
   rw [Below.heap_setCell _ _ _ _ (by omega)]; exact h3
theorem OwT.nil (w : World) (base : Nat) : OwT w base (.slice none 0 0) [] := ⟨rfl, .inl ⟨rfl, rfl⟩⟩
theorem OwT.rd {w : World} {base : Nat} {v : Value} {l : List Tk} (h : OwT w base v l) : RdT w v l := by
 rcases h.2 with ⟨h1, h2⟩ | ⟨g, cap, cur, h1, h2, h3, h4, h5, h6, h7⟩
 · exact .inl ⟨h1, List.eq_nil_of_length_eq_zero h2⟩
 · refine .inr ⟨g, 0, cap, h1, by omega, heap_lt h3, fun j u hu => ?_⟩
   have hj : j < (flatT l).length := (List.getElem?_eq_some_iff.mp hu).1
   rw [flatT_length] at hj
   rw [cell_of_row w g _ cur _ (0, 0) h3, Nat.zero_add, ← Array.getElem?_toList]
   rw [← h7, List.getElem?_take] at hu
   rwa [if_pos (by omega)] at hu
theorem OwT.far {w : World} {base : Nat} {v : Value} {l : List Tk} (h : OwT w base v l) {b : Nat} (hb : b < base) : v.ownBlock ≠ some b := by
 rcases h.2 with ⟨h1, h2⟩ | ⟨g, cap, cur, h1, h2, h3⟩
 · rw [h1]; simp [Value.ownBlock]
 · rw [h1]; simp [Value.ownBlock]; omega

/-- append of one word that lies in a new block, at the operation. -/
theorem tk_append {ops : Array Oper} {rest : List Oper} {o : Oper} {a : Act} {Q : Exit → Act → World → Prop} (W : World) (base : Nat) (s x : Operand) (v : Value) (b : Nat) (l : List Tk) (t : Tk) (hgd : o.guard = none)
   (ho : o.op = .call { callee := .builtin .append, args := #[s, x], argTypes := #[51, 51] })
   (hs : a.eval s = v) (hx : a.eval x = .slice (some ⟨b, 0, none⟩) 1 1) (hB : OwT W base v l)
   (hR : ∀ j u, (flatT [t])[j]? = some u → W.cell? ((⟨b, 0, none⟩ : Addr).add j) = some u) (hlen : l.length ≤ 100000) (hbase : base ≤ W.heap.size)
   (h : ∀ v' W', OwT W' base v' (l ++ [t]) → W.grownBy W' v.ownBlock → (∃ g cap, v' = .slice (some ⟨g, 0, none⟩) (l.length + 1) cap) → wpList Tryd.prog ops Q rest (a.put o.dst v') W') : wpList Tryd.prog ops Q (o :: rest) a W := by
 obtain ⟨i, hi, hz, h1, h2⟩ := info_tk
 refine wpList_append_own_at W hgd s x 51 ho base 59 i _ 5 48 Tryd.underlying51 hi hz h1 h2 rfl (by decide) v l.length (flatT l) hs hB ⟨b, 0, none⟩ 1 1 (flatT [t]) hx (flatT_length [t]) hR (flatT_one [t]) (by unfold maxLen; omega) (by omega) hbase ?_
 intro v' W' h3 h4 _ _
 rw [← flatT_append] at h3
 have h5 : OwT W' base v' (l ++ [t]) := by unfold OwT; rw [List.length_append]; exact h3
 refine h v' W' h5 h4 ?_
 rcases h3.2 with ⟨_, h0⟩ | ⟨g, cap, cur, hv, _⟩
 · omega
 · exact ⟨g, cap, hv⟩
theorem grown_cell {W W' : World} {v : Value} (h : W.grownBy W' v.ownBlock) {b : Nat} (hb : b < W.heap.size) (hne : v.ownBlock ≠ some b) (o : Nat) : W'.cell? ⟨b, o, none⟩ = W.cell? ⟨b, o, none⟩ ∧ W'.frozen? ⟨b, o, none⟩ = W.frozen? ⟨b, o, none⟩ := by
 have e := h.block b hb hne.symm
 simp only [World.cell?, World.frozen?, e]
 exact ⟨trivial, trivial⟩
/-- Of what lay below base nothing turns when a list grows. -/
theorem grown_ext {w W W' : World} {base : Nat} {v : Value} {l : List Tk} (h : W.grownBy W' v.ownBlock) (hB : OwT W base v l) (hE : Ext w W) (hb : w.heap.size ≤ base) : Ext w W' := by
 refine ⟨h.os.trans hE.os, h.tape.trans hE.tape, h.output.trans hE.output, Nat.le_trans hE.size h.size, fun k hk => ?_⟩
 exact (h.block k (Nat.lt_of_lt_of_le hk hE.size) (fun e => hB.far (Nat.lt_of_lt_of_le hk hb) e.symm)).trans (hE.block k hk)

open Go.RowKit
set_option maxHeartbeats 1000000

def Blk13 (W : World) (b : Nat) (x0 x1 x2 x3 x4 x5 x6 x7 x8 x9 x10 x11 x12 : Value) : Prop := b < W.heap.size ∧
 (W.cell? ⟨b, 0, none⟩ = some x0 ∧ W.cell? ⟨b, 1, none⟩ = some x1 ∧ W.cell? ⟨b, 2, none⟩ = some x2 ∧ W.cell? ⟨b, 3, none⟩ = some x3 ∧ W.cell? ⟨b, 4, none⟩ = some x4 ∧ W.cell? ⟨b, 5, none⟩ = some x5 ∧ W.cell? ⟨b, 6, none⟩ = some x6 ∧ W.cell? ⟨b, 7, none⟩ = some x7 ∧ W.cell? ⟨b, 8, none⟩ = some x8 ∧ W.cell? ⟨b, 9, none⟩ = some x9 ∧ W.cell? ⟨b, 10, none⟩ = some x10 ∧ W.cell? ⟨b, 11, none⟩ = some x11 ∧ W.cell? ⟨b, 12, none⟩ = some x12) ∧
 (W.frozen? ⟨b, 0, none⟩ = false ∧ W.frozen? ⟨b, 1, none⟩ = false ∧ W.frozen? ⟨b, 2, none⟩ = false ∧ W.frozen? ⟨b, 3, none⟩ = false ∧ W.frozen? ⟨b, 4, none⟩ = false ∧ W.frozen? ⟨b, 5, none⟩ = false ∧ W.frozen? ⟨b, 6, none⟩ = false ∧ W.frozen? ⟨b, 7, none⟩ = false ∧ W.frozen? ⟨b, 8, none⟩ = false ∧ W.frozen? ⟨b, 9, none⟩ = false ∧ W.frozen? ⟨b, 10, none⟩ = false ∧ W.frozen? ⟨b, 11, none⟩ = false ∧ W.frozen? ⟨b, 12, none⟩ = false)
theorem blk13_top {w w1 : World} {x0 x1 x2 x3 x4 x5 x6 x7 x8 x9 x10 x11 x12 : Value} {T : TypeId} {b : Nat} (hb : b = w.heap.size) (E : Ext (w.alloc (.cells #[x0, x1, x2, x3, x4, x5, x6, x7, x8, x9, x10, x11, x12] T)) w1) : Blk13 w1 b x0 x1 x2 x3 x4 x5 x6 x7 x8 x9 x10 x11 x12 := by
 subst hb
 have hs : w.heap.size < (w.alloc (.cells #[x0, x1, x2, x3, x4, x5, x6, x7, x8, x9, x10, x11, x12] T)).heap.size := by simp
 have k := fun o => E.cell.1 w.heap.size o hs
 have f := fun o => E.cell.2 w.heap.size o hs
 refine ⟨Nat.lt_of_lt_of_le hs E.sz, ⟨(k 0).trans ?_, (k 1).trans ?_, (k 2).trans ?_, (k 3).trans ?_, (k 4).trans ?_, (k 5).trans ?_, (k 6).trans ?_, (k 7).trans ?_, (k 8).trans ?_, (k 9).trans ?_, (k 10).trans ?_, (k 11).trans ?_, (k 12).trans ?_⟩, (f 0).trans ?_, (f 1).trans ?_, (f 2).trans ?_, (f 3).trans ?_, (f 4).trans ?_, (f 5).trans ?_, (f 6).trans ?_, (f 7).trans ?_, (f 8).trans ?_, (f 9).trans ?_, (f 10).trans ?_, (f 11).trans ?_, (f 12).trans ?_⟩
 all_goals simp [go_sem]
theorem Blk13.ext {w w' : World} {b : Nat} {x0 x1 x2 x3 x4 x5 x6 x7 x8 x9 x10 x11 x12 : Value} (h : Blk13 w b x0 x1 x2 x3 x4 x5 x6 x7 x8 x9 x10 x11 x12) (e : Ext w w') : Blk13 w' b x0 x1 x2 x3 x4 x5 x6 x7 x8 x9 x10 x11 x12 := by
 obtain ⟨z, ⟨k0, k1, k2, k3, k4, k5, k6, k7, k8, k9, k10, k11, k12⟩, f0, f1, f2, f3, f4, f5, f6, f7, f8, f9, f10, f11, f12⟩ := h
 have k := fun o => e.cell.1 b o z
 have f := fun o => e.cell.2 b o z
 exact ⟨Nat.lt_of_lt_of_le z e.sz, ⟨(k 0).trans k0, (k 1).trans k1, (k 2).trans k2, (k 3).trans k3, (k 4).trans k4, (k 5).trans k5, (k 6).trans k6, (k 7).trans k7, (k 8).trans k8, (k 9).trans k9, (k 10).trans k10, (k 11).trans k11, (k 12).trans k12⟩, (f 0).trans f0, (f 1).trans f1, (f 2).trans f2, (f 3).trans f3, (f 4).trans f4, (f 5).trans f5, (f 6).trans f6, (f 7).trans f7, (f 8).trans f8, (f 9).trans f9, (f 10).trans f10, (f 11).trans f11, (f 12).trans f12⟩
theorem Blk13.far1 {w : World} {b c : Nat} {x0 x1 x2 x3 x4 x5 x6 x7 x8 x9 x10 x11 x12 : Value} (h : Blk13 w b x0 x1 x2 x3 x4 x5 x6 x7 x8 x9 x10 x11 x12) (hc : c ≠ b) (o : Nat) (v : Value) : Blk13 (w.setCell ⟨c, o, none⟩ v) b x0 x1 x2 x3 x4 x5 x6 x7 x8 x9 x10 x11 x12 := by
 obtain ⟨z, ⟨k0, k1, k2, k3, k4, k5, k6, k7, k8, k9, k10, k11, k12⟩, f0, f1, f2, f3, f4, f5, f6, f7, f8, f9, f10, f11, f12⟩ := h
 refine ⟨by simpa [World.setCell] using z, ⟨?_, ?_, ?_, ?_, ?_, ?_, ?_, ?_, ?_, ?_, ?_, ?_, ?_⟩, ?_, ?_, ?_, ?_, ?_, ?_, ?_, ?_, ?_, ?_, ?_, ?_, ?_⟩
 all_goals first | (rw [World.cell?_setCell_far _ _ _ _ hc]; assumption) | (rw [World.frozen?_setCell]; assumption)
theorem Blk13.far {w : World} {b c : Nat} {x0 x1 x2 x3 x4 x5 x6 x7 x8 x9 x10 x11 x12 : Value} (h : Blk13 w b x0 x1 x2 x3 x4 x5 x6 x7 x8 x9 x10 x11 x12) (hc : c ≠ b) (y0 y1 y2 y3 y4 y5 y6 y7 y8 y9 y10 y11 y12 : Value) :
   Blk13 (((((((((((((w.setCell ⟨c, 0, none⟩ y0).setCell ⟨c, 1, none⟩ y1).setCell ⟨c, 2, none⟩ y2).setCell ⟨c, 3, none⟩ y3).setCell ⟨c, 4, none⟩ y4).setCell ⟨c, 5, none⟩ y5).setCell ⟨c, 6, none⟩ y6).setCell ⟨c, 7, none⟩ y7).setCell ⟨c, 8, none⟩ y8).setCell ⟨c, 9, none⟩ y9).setCell ⟨c, 10, none⟩ y10).setCell ⟨c, 11, none⟩ y11).setCell ⟨c, 12, none⟩ y12) b x0 x1 x2 x3 x4 x5 x6 x7 x8 x9 x10 x11 x12 := (((((((((((((h.far1 hc _ _).far1 hc _ _).far1 hc _ _).far1 hc _ _).far1 hc _ _).far1 hc _ _).far1 hc _ _).far1 hc _ _).far1 hc _ _).far1 hc _ _).far1 hc _ _).far1 hc _ _).far1 hc _ _)
theorem Blk13.put0 {w : World} {b : Nat} {x0 x1 x2 x3 x4 x5 x6 x7 x8 x9 x10 x11 x12 : Value} (h : Blk13 w b x0 x1 x2 x3 x4 x5 x6 x7 x8 x9 x10 x11 x12) (v : Value) : Blk13 (w.setCell ⟨b, 0, none⟩ v) b v x1 x2 x3 x4 x5 x6 x7 x8 x9 x10 x11 x12 := by
 obtain ⟨z, ⟨k0, k1, k2, k3, k4, k5, k6, k7, k8, k9, k10, k11, k12⟩, f0, f1, f2, f3, f4, f5, f6, f7, f8, f9, f10, f11, f12⟩ := h
 have e := World.cell?_setCell_same w ⟨b, 0, none⟩ v (by rw [k0])
 refine ⟨by simpa [World.setCell] using z, ⟨e, ?_, ?_, ?_, ?_, ?_, ?_, ?_, ?_, ?_, ?_, ?_, ?_⟩, ?_, ?_, ?_, ?_, ?_, ?_, ?_, ?_, ?_, ?_, ?_, ?_, ?_⟩
 all_goals first | (rw [World.cell?_setCell_other _ _ _ _ (by simp)]; assumption) | (rw [World.frozen?_setCell]; assumption)
theorem Blk13.put1 {w : World} {b : Nat} {x0 x1 x2 x3 x4 x5 x6 x7 x8 x9 x10 x11 x12 : Value} (h : Blk13 w b x0 x1 x2 x3 x4 x5 x6 x7 x8 x9 x10 x11 x12) (v : Value) : Blk13 (w.setCell ⟨b, 1, none⟩ v) b x0 v x2 x3 x4 x5 x6 x7 x8 x9 x10 x11 x12 := by
 obtain ⟨z, ⟨k0, k1, k2, k3, k4, k5, k6, k7, k8, k9, k10, k11, k12⟩, f0, f1, f2, f3, f4, f5, f6, f7, f8, f9, f10, f11, f12⟩ := h
 have e := World.cell?_setCell_same w ⟨b, 1, none⟩ v (by rw [k1])
 refine ⟨by simpa [World.setCell] using z, ⟨?_, e, ?_, ?_, ?_, ?_, ?_, ?_, ?_, ?_, ?_, ?_, ?_⟩, ?_, ?_, ?_, ?_, ?_, ?_, ?_, ?_, ?_, ?_, ?_, ?_, ?_⟩
 all_goals first | (rw [World.cell?_setCell_other _ _ _ _ (by simp)]; assumption) | (rw [World.frozen?_setCell]; assumption)
theorem Blk13.put2 {w : World} {b : Nat} {x0 x1 x2 x3 x4 x5 x6 x7 x8 x9 x10 x11 x12 : Value} (h : Blk13 w b x0 x1 x2 x3 x4 x5 x6 x7 x8 x9 x10 x11 x12) (v : Value) : Blk13 (w.setCell ⟨b, 2, none⟩ v) b x0 x1 v x3 x4 x5 x6 x7 x8 x9 x10 x11 x12 := by
 obtain ⟨z, ⟨k0, k1, k2, k3, k4, k5, k6, k7, k8, k9, k10, k11, k12⟩, f0, f1, f2, f3, f4, f5, f6, f7, f8, f9, f10, f11, f12⟩ := h
 have e := World.cell?_setCell_same w ⟨b, 2, none⟩ v (by rw [k2])
 refine ⟨by simpa [World.setCell] using z, ⟨?_, ?_, e, ?_, ?_, ?_, ?_, ?_, ?_, ?_, ?_, ?_, ?_⟩, ?_, ?_, ?_, ?_, ?_, ?_, ?_, ?_, ?_, ?_, ?_, ?_, ?_⟩
 all_goals first | (rw [World.cell?_setCell_other _ _ _ _ (by simp)]; assumption) | (rw [World.frozen?_setCell]; assumption)
theorem Blk13.put3 {w : World} {b : Nat} {x0 x1 x2 x3 x4 x5 x6 x7 x8 x9 x10 x11 x12 : Value} (h : Blk13 w b x0 x1 x2 x3 x4 x5 x6 x7 x8 x9 x10 x11 x12) (v : Value) : Blk13 (w.setCell ⟨b, 3, none⟩ v) b x0 x1 x2 v x4 x5 x6 x7 x8 x9 x10 x11 x12 := by
 obtain ⟨z, ⟨k0, k1, k2, k3, k4, k5, k6, k7, k8, k9, k10, k11, k12⟩, f0, f1, f2, f3, f4, f5, f6, f7, f8, f9, f10, f11, f12⟩ := h
 have e := World.cell?_setCell_same w ⟨b, 3, none⟩ v (by rw [k3])
 refine ⟨by simpa [World.setCell] using z, ⟨?_, ?_, ?_, e, ?_, ?_, ?_, ?_, ?_, ?_, ?_, ?_, ?_⟩, ?_, ?_, ?_, ?_, ?_, ?_, ?_, ?_, ?_, ?_, ?_, ?_, ?_⟩
 all_goals first | (rw [World.cell?_setCell_other _ _ _ _ (by simp)]; assumption) | (rw [World.frozen?_setCell]; assumption)
theorem Blk13.put4 {w : World} {b : Nat} {x0 x1 x2 x3 x4 x5 x6 x7 x8 x9 x10 x11 x12 : Value} (h : Blk13 w b x0 x1 x2 x3 x4 x5 x6 x7 x8 x9 x10 x11 x12) (v : Value) : Blk13 (w.setCell ⟨b, 4, none⟩ v) b x0 x1 x2 x3 v x5 x6 x7 x8 x9 x10 x11 x12 := by
 obtain ⟨z, ⟨k0, k1, k2, k3, k4, k5, k6, k7, k8, k9, k10, k11, k12⟩, f0, f1, f2, f3, f4, f5, f6, f7, f8, f9, f10, f11, f12⟩ := h
 have e := World.cell?_setCell_same w ⟨b, 4, none⟩ v (by rw [k4])
 refine ⟨by simpa [World.setCell] using z, ⟨?_, ?_, ?_, ?_, e, ?_, ?_, ?_, ?_, ?_, ?_, ?_, ?_⟩, ?_, ?_, ?_, ?_, ?_, ?_, ?_, ?_, ?_, ?_, ?_, ?_, ?_⟩
 all_goals first | (rw [World.cell?_setCell_other _ _ _ _ (by simp)]; assumption) | (rw [World.frozen?_setCell]; assumption)
theorem Blk13.put5 {w : World} {b : Nat} {x0 x1 x2 x3 x4 x5 x6 x7 x8 x9 x10 x11 x12 : Value} (h : Blk13 w b x0 x1 x2 x3 x4 x5 x6 x7 x8 x9 x10 x11 x12) (v : Value) : Blk13 (w.setCell ⟨b, 5, none⟩ v) b x0 x1 x2 x3 x4 v x6 x7 x8 x9 x10 x11 x12 := by
 obtain ⟨z, ⟨k0, k1, k2, k3, k4, k5, k6, k7, k8, k9, k10, k11, k12⟩, f0, f1, f2, f3, f4, f5, f6, f7, f8, f9, f10, f11, f12⟩ := h
 have e := World.cell?_setCell_same w ⟨b, 5, none⟩ v (by rw [k5])
 refine ⟨by simpa [World.setCell] using z, ⟨?_, ?_, ?_, ?_, ?_, e, ?_, ?_, ?_, ?_, ?_, ?_, ?_⟩, ?_, ?_, ?_, ?_, ?_, ?_, ?_, ?_, ?_, ?_, ?_, ?_, ?_⟩
 all_goals first | (rw [World.cell?_setCell_other _ _ _ _ (by simp)]; assumption) | (rw [World.frozen?_setCell]; assumption)
theorem Blk13.put6 {w : World} {b : Nat} {x0 x1 x2 x3 x4 x5 x6 x7 x8 x9 x10 x11 x12 : Value} (h : Blk13 w b x0 x1 x2 x3 x4 x5 x6 x7 x8 x9 x10 x11 x12) (v : Value) : Blk13 (w.setCell ⟨b, 6, none⟩ v) b x0 x1 x2 x3 x4 x5 v x7 x8 x9 x10 x11 x12 := by
 obtain ⟨z, ⟨k0, k1, k2, k3, k4, k5, k6, k7, k8, k9, k10, k11, k12⟩, f0, f1, f2, f3, f4, f5, f6, f7, f8, f9, f10, f11, f12⟩ := h
 have e := World.cell?_setCell_same w ⟨b, 6, none⟩ v (by rw [k6])
 refine ⟨by simpa [World.setCell] using z, ⟨?_, ?_, ?_, ?_, ?_, ?_, e, ?_, ?_, ?_, ?_, ?_, ?_⟩, ?_, ?_, ?_, ?_, ?_, ?_, ?_, ?_, ?_, ?_, ?_, ?_, ?_⟩
 all_goals first | (rw [World.cell?_setCell_other _ _ _ _ (by simp)]; assumption) | (rw [World.frozen?_setCell]; assumption)
theorem Blk13.put7 {w : World} {b : Nat} {x0 x1 x2 x3 x4 x5 x6 x7 x8 x9 x10 x11 x12 : Value} (h : Blk13 w b x0 x1 x2 x3 x4 x5 x6 x7 x8 x9 x10 x11 x12) (v : Value) : Blk13 (w.setCell ⟨b, 7, none⟩ v) b x0 x1 x2 x3 x4 x5 x6 v x8 x9 x10 x11 x12 := by
 obtain ⟨z, ⟨k0, k1, k2, k3, k4, k5, k6, k7, k8, k9, k10, k11, k12⟩, f0, f1, f2, f3, f4, f5, f6, f7, f8, f9, f10, f11, f12⟩ := h
 have e := World.cell?_setCell_same w ⟨b, 7, none⟩ v (by rw [k7])
 refine ⟨by simpa [World.setCell] using z, ⟨?_, ?_, ?_, ?_, ?_, ?_, ?_, e, ?_, ?_, ?_, ?_, ?_⟩, ?_, ?_, ?_, ?_, ?_, ?_, ?_, ?_, ?_, ?_, ?_, ?_, ?_⟩
 all_goals first | (rw [World.cell?_setCell_other _ _ _ _ (by simp)]; assumption) | (rw [World.frozen?_setCell]; assumption)
theorem Blk13.put8 {w : World} {b : Nat} {x0 x1 x2 x3 x4 x5 x6 x7 x8 x9 x10 x11 x12 : Value} (h : Blk13 w b x0 x1 x2 x3 x4 x5 x6 x7 x8 x9 x10 x11 x12) (v : Value) : Blk13 (w.setCell ⟨b, 8, none⟩ v) b x0 x1 x2 x3 x4 x5 x6 x7 v x9 x10 x11 x12 := by
 obtain ⟨z, ⟨k0, k1, k2, k3, k4, k5, k6, k7, k8, k9, k10, k11, k12⟩, f0, f1, f2, f3, f4, f5, f6, f7, f8, f9, f10, f11, f12⟩ := h
 have e := World.cell?_setCell_same w ⟨b, 8, none⟩ v (by rw [k8])
 refine ⟨by simpa [World.setCell] using z, ⟨?_, ?_, ?_, ?_, ?_, ?_, ?_, ?_, e, ?_, ?_, ?_, ?_⟩, ?_, ?_, ?_, ?_, ?_, ?_, ?_, ?_, ?_, ?_, ?_, ?_, ?_⟩
 all_goals first | (rw [World.cell?_setCell_other _ _ _ _ (by simp)]; assumption) | (rw [World.frozen?_setCell]; assumption)
theorem Blk13.put9 {w : World} {b : Nat} {x0 x1 x2 x3 x4 x5 x6 x7 x8 x9 x10 x11 x12 : Value} (h : Blk13 w b x0 x1 x2 x3 x4 x5 x6 x7 x8 x9 x10 x11 x12) (v : Value) : Blk13 (w.setCell ⟨b, 9, none⟩ v) b x0 x1 x2 x3 x4 x5 x6 x7 x8 v x10 x11 x12 := by
 obtain ⟨z, ⟨k0, k1, k2, k3, k4, k5, k6, k7, k8, k9, k10, k11, k12⟩, f0, f1, f2, f3, f4, f5, f6, f7, f8, f9, f10, f11, f12⟩ := h
 have e := World.cell?_setCell_same w ⟨b, 9, none⟩ v (by rw [k9])
 refine ⟨by simpa [World.setCell] using z, ⟨?_, ?_, ?_, ?_, ?_, ?_, ?_, ?_, ?_, e, ?_, ?_, ?_⟩, ?_, ?_, ?_, ?_, ?_, ?_, ?_, ?_, ?_, ?_, ?_, ?_, ?_⟩
 all_goals first | (rw [World.cell?_setCell_other _ _ _ _ (by simp)]; assumption) | (rw [World.frozen?_setCell]; assumption)
theorem Blk13.put10 {w : World} {b : Nat} {x0 x1 x2 x3 x4 x5 x6 x7 x8 x9 x10 x11 x12 : Value} (h : Blk13 w b x0 x1 x2 x3 x4 x5 x6 x7 x8 x9 x10 x11 x12) (v : Value) : Blk13 (w.setCell ⟨b, 10, none⟩ v) b x0 x1 x2 x3 x4 x5 x6 x7 x8 x9 v x11 x12 := by
 obtain ⟨z, ⟨k0, k1, k2, k3, k4, k5, k6, k7, k8, k9, k10, k11, k12⟩, f0, f1, f2, f3, f4, f5, f6, f7, f8, f9, f10, f11, f12⟩ := h
 have e := World.cell?_setCell_same w ⟨b, 10, none⟩ v (by rw [k10])
 refine ⟨by simpa [World.setCell] using z, ⟨?_, ?_, ?_, ?_, ?_, ?_, ?_, ?_, ?_, ?_, e, ?_, ?_⟩, ?_, ?_, ?_, ?_, ?_, ?_, ?_, ?_, ?_, ?_, ?_, ?_, ?_⟩
 all_goals first | (rw [World.cell?_setCell_other _ _ _ _ (by simp)]; assumption) | (rw [World.frozen?_setCell]; assumption)
theorem Blk13.put11 {w : World} {b : Nat} {x0 x1 x2 x3 x4 x5 x6 x7 x8 x9 x10 x11 x12 : Value} (h : Blk13 w b x0 x1 x2 x3 x4 x5 x6 x7 x8 x9 x10 x11 x12) (v : Value) : Blk13 (w.setCell ⟨b, 11, none⟩ v) b x0 x1 x2 x3 x4 x5 x6 x7 x8 x9 x10 v x12 := by
 obtain ⟨z, ⟨k0, k1, k2, k3, k4, k5, k6, k7, k8, k9, k10, k11, k12⟩, f0, f1, f2, f3, f4, f5, f6, f7, f8, f9, f10, f11, f12⟩ := h
 have e := World.cell?_setCell_same w ⟨b, 11, none⟩ v (by rw [k11])
 refine ⟨by simpa [World.setCell] using z, ⟨?_, ?_, ?_, ?_, ?_, ?_, ?_, ?_, ?_, ?_, ?_, e, ?_⟩, ?_, ?_, ?_, ?_, ?_, ?_, ?_, ?_, ?_, ?_, ?_, ?_, ?_⟩
 all_goals first | (rw [World.cell?_setCell_other _ _ _ _ (by simp)]; assumption) | (rw [World.frozen?_setCell]; assumption)
theorem Blk13.put12 {w : World} {b : Nat} {x0 x1 x2 x3 x4 x5 x6 x7 x8 x9 x10 x11 x12 : Value} (h : Blk13 w b x0 x1 x2 x3 x4 x5 x6 x7 x8 x9 x10 x11 x12) (v : Value) : Blk13 (w.setCell ⟨b, 12, none⟩ v) b x0 x1 x2 x3 x4 x5 x6 x7 x8 x9 x10 x11 v := by
 obtain ⟨z, ⟨k0, k1, k2, k3, k4, k5, k6, k7, k8, k9, k10, k11, k12⟩, f0, f1, f2, f3, f4, f5, f6, f7, f8, f9, f10, f11, f12⟩ := h
 have e := World.cell?_setCell_same w ⟨b, 12, none⟩ v (by rw [k12])
 refine ⟨by simpa [World.setCell] using z, ⟨?_, ?_, ?_, ?_, ?_, ?_, ?_, ?_, ?_, ?_, ?_, ?_, e⟩, ?_, ?_, ?_, ?_, ?_, ?_, ?_, ?_, ?_, ?_, ?_, ?_, ?_⟩
 all_goals first | (rw [World.cell?_setCell_other _ _ _ _ (by simp)]; assumption) | (rw [World.frozen?_setCell]; assumption)
theorem Blk13.set {w : World} {b : Nat} {o0 o1 o2 o3 o4 o5 o6 o7 o8 o9 o10 o11 o12 : Value} (h : Blk13 w b o0 o1 o2 o3 o4 o5 o6 o7 o8 o9 o10 o11 o12) (x0 x1 x2 x3 x4 x5 x6 x7 x8 x9 x10 x11 x12 : Value) :
   Blk13 (((((((((((((w.setCell ⟨b, 0, none⟩ x0).setCell ⟨b, 1, none⟩ x1).setCell ⟨b, 2, none⟩ x2).setCell ⟨b, 3, none⟩ x3).setCell ⟨b, 4, none⟩ x4).setCell ⟨b, 5, none⟩ x5).setCell ⟨b, 6, none⟩ x6).setCell ⟨b, 7, none⟩ x7).setCell ⟨b, 8, none⟩ x8).setCell ⟨b, 9, none⟩ x9).setCell ⟨b, 10, none⟩ x10).setCell ⟨b, 11, none⟩ x11).setCell ⟨b, 12, none⟩ x12) b x0 x1 x2 x3 x4 x5 x6 x7 x8 x9 x10 x11 x12 := (((((((((((((h.put0 _).put1 _).put2 _).put3 _).put4 _).put5 _).put6 _).put7 _).put8 _).put9 _).put10 _).put11 _).put12 _)
theorem Blk13.dr {w : World} {b : Nat} {x0 x1 x2 x3 x4 x5 x6 x7 x8 x9 x10 x11 x12 : Value} (h : Blk13 w b x0 x1 x2 x3 x4 x5 x6 x7 x8 x9 x10 x11 x12) : Blk13 w.drew b x0 x1 x2 x3 x4 x5 x6 x7 x8 x9 x10 x11 x12 := h.ext (Ext.drew (Ext.refl _))
theorem Blk13.al {w : World} {b : Nat} {x0 x1 x2 x3 x4 x5 x6 x7 x8 x9 x10 x11 x12 : Value} (o : Obj) (h : Blk13 w b x0 x1 x2 x3 x4 x5 x6 x7 x8 x9 x10 x11 x12) : Blk13 (w.alloc o) b x0 x1 x2 x3 x4 x5 x6 x7 x8 x9 x10 x11 x12 := h.ext (Ext.alloc (Ext.refl _) _)

open Go.RowKit
set_option maxHeartbeats 1000000

/-- The world behind a step of the reader in block b: of what was there nothing has turned but that block. -/
structure ExtB (b : Nat) (w w' : World) : Prop where
 os : w'.os = w.os
 tape : w'.tape = w.tape
 output : w'.output = w.output
 size : w.heap.size ≤ w'.heap.size
 block : ∀ k, k < w.heap.size → k ≠ b → w'.heap[k]? = w.heap[k]?
theorem ExtB.refl (b : Nat) (w : World) : ExtB b w w := ⟨rfl, rfl, rfl, Nat.le_refl _, fun _ _ _ => rfl⟩
theorem ExtB.trans {b : Nat} {x y z : World} (h : ExtB b x y) (k : ExtB b y z) : ExtB b x z :=
 ⟨k.os.trans h.os, k.tape.trans h.tape, k.output.trans h.output, Nat.le_trans h.size k.size, fun i hi hb => (k.block i (Nat.lt_of_lt_of_le hi h.size) hb).trans (h.block i hi hb)⟩
theorem Ext.toB {w w' : World} (h : Ext w w') (b : Nat) : ExtB b w w' := ⟨h.os, h.tape, h.output, h.size, fun k hk _ => h.block k hk⟩
theorem ExtB.alloc {b : Nat} {w w' : World} (h : ExtB b w w') (o : Obj) : ExtB b w (w'.alloc o) := h.trans (((Ext.refl _).alloc o).toB b)
theorem ExtB.drew {b : Nat} {w w' : World} (h : ExtB b w w') : ExtB b w w'.drew := h.trans ((Ext.refl _).drew.toB b)
theorem ExtB.set {b : Nat} {w w' : World} (h : ExtB b w w') {p : Addr} (hp : p.block = b ∨ w.heap.size ≤ p.block) (u : Value) : ExtB b w (w'.setCell p u) := by
 refine ⟨h.os, h.tape, h.output, ?_, fun k hk hb => ?_⟩
 · simpa [World.setCell] using h.size
 · rw [Below.heap_setCell _ _ _ _ (by omega)]; exact h.block k hk hb
theorem ExtB.ext {b : Nat} {w0 w w' : World} (h : ExtB b w w') (e : Ext w0 w) (hb : w0.heap.size ≤ b) : Ext w0 w' :=
 ⟨h.os.trans e.os, h.tape.trans e.tape, h.output.trans e.output, Nat.le_trans e.size h.size, fun k hk => (h.block k (Nat.lt_of_lt_of_le hk e.size) (by omega)).trans (e.block k hk)⟩
theorem ExtB.cell {b : Nat} {w w' : World} (h : ExtB b w w') {k : Nat} (hk : k < w.heap.size) (hb : k ≠ b) (o : Nat) : w'.cell? ⟨k, o, none⟩ = w.cell? ⟨k, o, none⟩ ∧ w'.frozen? ⟨k, o, none⟩ = w.frozen? ⟨k, o, none⟩ := by
 have e := h.block k hk hb
 simp only [World.cell?, World.frozen?, e]
 exact ⟨trivial, trivial⟩

/-! ### Trees -/
def cellsT (t : T) (lv : Value) : List Value := [.int .i64 t.k, .int .i64 t.n, .string (bs t.s), .int .i64 t.e, .int .i64 t.r.1, .int .i64 t.r.2.1, .bool t.r.2.2.1, .bool t.r.2.2.2, .int .i64 t.q.1, .int .i64 t.q.2.1, .bool t.q.2.2.1, .bool t.q.2.2.2, lv]
def aggX (t : T) (lv : Value) : Value := .agg #[.int .i64 t.k, .int .i64 t.n, .string (bs t.s), .int .i64 t.e, .int .i64 t.r.1, .int .i64 t.r.2.1, .bool t.r.2.2.1, .bool t.r.2.2.2, .int .i64 t.q.1, .int .i64 t.q.2.1, .bool t.q.2.2.1, .bool t.q.2.2.2, lv]
/-- The slice v holds the trees l, in blocks of which P holds. -/
inductive IsL (w : World) (P : Nat → Prop) : Value → List T → Prop
 | nil {p : Option Addr} {c : Nat} : IsL w P (.slice p 0 c) []
 | mk (b off c n : Nat) (l : List T) (lvs : Nat → Value) : n = l.length → n ≤ c → P b → b < w.heap.size →
     (∀ i t j u, l[i]? = some t → (cellsT t (lvs i))[j]? = some u → w.cell? ⟨b, off + i * 13 + j, none⟩ = some u) →
     (∀ i t, l[i]? = some t → IsL w P (lvs i) t.l) → IsL w P (.slice (some ⟨b, off, none⟩) n c) l
/-- Whatever keeps those blocks keeps the trees. -/
theorem IsL.keep {P P' : Nat → Prop} {w w' : World} {v : Value} {l : List T} (h : IsL w P v l) (hs : w.heap.size ≤ w'.heap.size) (hk : ∀ k, P k → k < w.heap.size → w'.heap[k]? = w.heap[k]?) (hP : ∀ k, P k → k < w.heap.size → P' k) : IsL w' P' v l := by
 induction h with
 | nil => exact .nil
 | mk g off c n l lvs h1 h2 h3 h4 h5 _ ih =>
   refine .mk g off c n l lvs h1 h2 (hP g h3 h4) (Nat.lt_of_lt_of_le h4 hs) (fun i t j u hi hj => ?_) ih
   rw [← h5 i t j u hi hj]
   simp only [World.cell?, hk g h3 h4]
theorem IsL.mono {P P' : Nat → Prop} {w : World} {v : Value} {l : List T} (h : IsL w P v l) (hP : ∀ k, P k → k < w.heap.size → P' k) : IsL w P' v l := h.keep (Nat.le_refl _) (fun _ _ _ => rfl) hP
theorem IsL.extB {b : Nat} {P : Nat → Prop} {w w' : World} {v : Value} {l : List T} (h : IsL w P v l) (e : ExtB b w w') (hb : ∀ k, P k → k ≠ b) : IsL w' P v l := h.keep e.size (fun k hk hs => e.block k hs (hb k hk)) (fun _ h _ => h)
theorem IsL.ext {P : Nat → Prop} {w w' : World} {v : Value} {l : List T} (h : IsL w P v l) (e : Ext w w') : IsL w' P v l := h.keep e.size (fun k _ hs => e.block k hs) (fun _ h _ => h)
theorem IsL.form {P : Nat → Prop} {w : World} {v : Value} {l : List T} (h : IsL w P v l) : ∃ p c, v = .slice p l.length c ∧ l.length ≤ c := by
 cases h with
 | nil => exact ⟨_, _, rfl, Nat.zero_le _⟩
 | mk g off c n l lvs h1 h2 => subst h1; exact ⟨_, _, rfl, h2⟩
theorem IsL.at {P : Nat → Prop} {n c : Nat} {w : World} {p : Option Addr} {l : List T} (h : IsL w P (.slice p n c) l) {i : Nat} (hi : i < l.length) :
   ∃ b off t lv, p = some ⟨b, off, none⟩ ∧ l[i]? = some t ∧ n = l.length ∧ b < w.heap.size ∧ P b ∧ IsL w P lv t.l ∧ ∀ j u, (cellsT t lv)[j]? = some u → w.cell? ⟨b, off + i * 13 + j, none⟩ = some u := by
 cases h with
 | nil => simp at hi
 | mk g off c n l lvs h1 h2 h3 h4 h5 h6 => exact ⟨g, off, l[i], lvs i, rfl, List.getElem?_eq_getElem hi, h1, h4, h3, h6 i _ (List.getElem?_eq_getElem hi), fun j u hu => h5 i _ j u (List.getElem?_eq_getElem hi) hu⟩

/-! ### The reader -/
def Stt (w0 : World) (b : Nat) (w : World) (ts : List Tk) (d : Nat) : Prop :=
 Ext w0 w ∧ w0.heap.size ≤ b ∧ b < w.heap.size ∧ Nz ts ∧ (∀ t ∈ ts, t.2.2.1.length ≤ 300) ∧ d ≤ 41 ∧ ts.length ≤ 400 ∧
 ∃ tb off c, RdT w0 (.slice (some ⟨tb, off, none⟩) ts.length c) ts ∧ w.cell? ⟨b, 0, none⟩ = some (.slice (some ⟨tb, off, none⟩) ts.length c) ∧ w.frozen? ⟨b, 0, none⟩ = false ∧ w.cell? ⟨b, 1, none⟩ = some (.int .i64 (d : Int)) ∧ w.frozen? ⟨b, 1, none⟩ = false
theorem Stt.ext {w0 w w' : World} {b d : Nat} {ts : List Tk} (h : Stt w0 b w ts d) (e : Ext w w') : Stt w0 b w' ts d := by
 obtain ⟨h1, h2, h3, h4, h5, h6, h7, tb, off, c, h8, h9, h10, h11, h12⟩ := h
 have k := e.cell
 exact ⟨h1.trans e, h2, Nat.lt_of_lt_of_le h3 e.sz, h4, h5, h6, h7, tb, off, c, h8, (k.1 _ _ h3).trans h9, (k.2 _ _ h3).trans h10, (k.1 _ _ h3).trans h11, (k.2 _ _ h3).trans h12⟩
/-- What the walk wants of the reader's state. -/
theorem Stt.get {w0 w : World} {b d : Nat} {ts : List Tk} (h : Stt w0 b w ts d) : ∃ tb off c,
   w.cell? ⟨b, 0, none⟩ = some (.slice (some ⟨tb, off, none⟩) ts.length c) ∧ w.frozen? ⟨b, 0, none⟩ = false ∧ w.cell? ⟨b, 1, none⟩ = some (.int .i64 (d : Int)) ∧ w.frozen? ⟨b, 1, none⟩ = false ∧
   w.cell? ⟨tb, off, none⟩ = some (.int .i64 (hd ts).1) ∧ w.cell? ⟨tb, off + 1, none⟩ = some (.int .i64 (hd ts).2.1) ∧ w.cell? ⟨tb, off + 2, none⟩ = some (.string (bs (hd ts).2.2.1)) ∧ w.cell? ⟨tb, off + 3, none⟩ = some (.int .i64 (hd ts).2.2.2.1) ∧ w.cell? ⟨tb, off + 4, none⟩ = some (.int .i64 (hd ts).2.2.2.2) ∧
   tb ≠ b ∧ ts.length ≤ c ∧ 1 ≤ ts.length ∧ tb < w.heap.size := by
 obtain ⟨h1, h2, h3, h4, h5, h6, h7, tb, off, c, h8, h9, h10, h11, h12⟩ := h
 have hp := h4.pos
 obtain ⟨p, c', e1, e2⟩ := h8.form
 cases e1
 obtain ⟨b', off', t, e3, e4, _, e6⟩ := h8.at (k := 0) (by omega)
 cases e3
 have e7 : hd ts = t := by
   cases ts with
   | nil => simp at hp
   | cons x r => simp at e4; exact e4
 have k := e6 w h1
 simp only [Nat.zero_mul, Nat.add_zero] at k
 rw [e7]
 have htb : tb < w0.heap.size := by
   rcases h8 with ⟨_, h8⟩ | ⟨b2, o2, c2, q1, q2, q3, _⟩
   · rw [h8] at hp; simp at hp
   · cases q1; exact q3
 exact ⟨tb, off, c, h9, h10, h11, h12, k.1, k.2.1, k.2.2.1, k.2.2.2.1, k.2.2.2.2, by omega, e2, hp, Nat.lt_of_lt_of_le htb h1.sz⟩
theorem RdT.tail {w : World} {tb off c n : Nat} {ts : List Tk} (h : RdT w (.slice (some ⟨tb, off, none⟩) n c) ts) (h1 : 1 ≤ ts.length) : RdT w (.slice (some ⟨tb, off + 5, none⟩) (n - 1) (c - 1)) ts.tail := by
 rcases h with ⟨h2, _⟩ | ⟨b, o, c', h2, h3, h4, h5⟩
 · cases h2
 · cases h2
   refine .inr ⟨tb, off + 5, c - 1, by rw [List.length_tail], by rw [List.length_tail]; omega, h4, fun j u hu => ?_⟩
   cases ts with
   | nil => simp at h1
   | cons t r =>
     have := h5 (j + 5) u (by simpa [flatT] using hu)
     rwa [show off + (j + 5) = off + 5 + j by omega] at this
/-- A word is taken. -/
theorem Stt.take {w0 w : World} {b d : Nat} {ts : List Tk} (h : Stt w0 b w ts d) (h5 : (hd ts).1 ≠ 5) {tb off c : Nat} (h9 : w.cell? ⟨b, 0, none⟩ = some (.slice (some ⟨tb, off, none⟩) ts.length c)) :
   Stt w0 b (w.setCell ⟨b, 0, none⟩ (.slice (some ⟨tb, off + 5, none⟩) (ts.length - 1) (c - 1))) ts.tail d := by
 obtain ⟨h1, h2, h3, h4, h5', h6, h7, tb', off', c', h8, h9', h10, h11, h12⟩ := h
 rw [h9] at h9'
 cases h9'
 have hp := h4.pos
 refine ⟨h1.setCell h2 _, h2, by simpa [World.setCell] using h3, (h4.tail h5).1, fun t ht => h5' t (List.mem_of_mem_tail ht), h6, by rw [List.length_tail]; omega, tb, off + 5, c - 1, ?_, ?_, ?_, ?_, ?_⟩
 · rw [List.length_tail]; exact h8.tail hp
 · rw [List.length_tail]; exact World.cell?_setCell_same _ _ _ (by rw [h9])
 · rw [World.frozen?_setCell]; exact h10
 · rw [World.cell?_setCell_other _ _ _ _ (by simp)]; exact h11
 · rw [World.frozen?_setCell]; exact h12
/-- One deeper, one less deep. -/
theorem Stt.deep {w0 w : World} {b d : Nat} {ts : List Tk} (h : Stt w0 b w ts d) (d' : Nat) (hd' : d' ≤ 41) : Stt w0 b (w.setCell ⟨b, 1, none⟩ (.int .i64 (d' : Int))) ts d' := by
 obtain ⟨h1, h2, h3, h4, h5', h6, h7, tb, off, c, h8, h9, h10, h11, h12⟩ := h
 refine ⟨h1.setCell h2 _, h2, by simpa [World.setCell] using h3, h4, h5', hd', h7, tb, off, c, h8, ?_, ?_, ?_, ?_⟩
 · rw [World.cell?_setCell_other _ _ _ _ (by simp)]; exact h9
 · rw [World.frozen?_setCell]; exact h10
 · exact World.cell?_setCell_same _ _ _ (by rw [h11])
 · rw [World.frozen?_setCell]; exact h12
theorem Stt.far {w0 w : World} {b d : Nat} {ts : List Tk} (h : Stt w0 b w ts d) {p : Addr} (hp : p.block ≠ b) (h0 : w0.heap.size ≤ p.block) (u : Value) : Stt w0 b (w.setCell p u) ts d := by
 obtain ⟨h1, h2, h3, h4, h5', h6, h7, tb, off, c, h8, h9, h10, h11, h12⟩ := h
 refine ⟨h1.setCell h0 _, h2, by simpa [World.setCell] using h3, h4, h5', h6, h7, tb, off, c, h8, ?_, ?_, ?_, ?_⟩
 · rw [World.cell?_setCell_far _ _ _ _ hp]; exact h9
 · rw [World.frozen?_setCell]; exact h10
 · rw [World.cell?_setCell_far _ _ _ _ hp]; exact h11
 · rw [World.frozen?_setCell]; exact h12

/-! ### The end of a function whose result is a tree -/
theorem Blk13.extB {b g : Nat} {w w' : World} {x0 x1 x2 x3 x4 x5 x6 x7 x8 x9 x10 x11 x12 : Value} (h : Blk13 w g x0 x1 x2 x3 x4 x5 x6 x7 x8 x9 x10 x11 x12) (e : ExtB b w w') (hg : g ≠ b) : Blk13 w' g x0 x1 x2 x3 x4 x5 x6 x7 x8 x9 x10 x11 x12 := by
 obtain ⟨z, ⟨k0, k1, k2, k3, k4, k5, k6, k7, k8, k9, k10, k11, k12⟩, f0, f1, f2, f3, f4, f5, f6, f7, f8, f9, f10, f11, f12⟩ := h
 have k := fun o => (e.cell z hg o).1
 have f := fun o => (e.cell z hg o).2
 exact ⟨Nat.lt_of_lt_of_le z e.size, ⟨(k 0).trans k0, (k 1).trans k1, (k 2).trans k2, (k 3).trans k3, (k 4).trans k4, (k 5).trans k5, (k 6).trans k6, (k 7).trans k7, (k 8).trans k8, (k 9).trans k9, (k 10).trans k10, (k 11).trans k11, (k 12).trans k12⟩, (f 0).trans f0, (f 1).trans f1, (f 2).trans f2, (f 3).trans f3, (f 4).trans f4, (f 5).trans f5, (f 6).trans f6, (f 7).trans f7, (f 8).trans f8, (f 9).trans f9, (f 10).trans f10, (f 11).trans f11, (f 12).trans f12⟩
/-- A tree is stored. -/
def putX (W : World) (g : Nat) (t : T) (lv : Value) : World := (((((((((((((W.setCell ⟨g, 0, none⟩ (.int .i64 t.k)).setCell ⟨g, 1, none⟩ (.int .i64 t.n)).setCell ⟨g, 2, none⟩ (.string (bs t.s))).setCell ⟨g, 3, none⟩ (.int .i64 t.e)).setCell ⟨g, 4, none⟩ (.int .i64 t.r.1)).setCell ⟨g, 5, none⟩ (.int .i64 t.r.2.1)).setCell ⟨g, 6, none⟩ (.bool t.r.2.2.1)).setCell ⟨g, 7, none⟩ (.bool t.r.2.2.2)).setCell ⟨g, 8, none⟩ (.int .i64 t.q.1)).setCell ⟨g, 9, none⟩ (.int .i64 t.q.2.1)).setCell ⟨g, 10, none⟩ (.bool t.q.2.2.1)).setCell ⟨g, 11, none⟩ (.bool t.q.2.2.2)).setCell ⟨g, 12, none⟩ lv)
def BlkX (W : World) (g : Nat) (t : T) (lv : Value) : Prop := Blk13 W g (.int .i64 t.k) (.int .i64 t.n) (.string (bs t.s)) (.int .i64 t.e) (.int .i64 t.r.1) (.int .i64 t.r.2.1) (.bool t.r.2.2.1) (.bool t.r.2.2.2) (.int .i64 t.q.1) (.int .i64 t.q.2.1) (.bool t.q.2.2.1) (.bool t.q.2.2.2) lv
theorem BlkX.put {W : World} {g : Nat} {t0 : T} {lv0 : Value} (h : BlkX W g t0 lv0) (t : T) (lv : Value) : BlkX (putX W g t lv) g t lv := Blk13.set h _ _ _ _ _ _ _ _ _ _ _ _ _
theorem putX_B {b g : Nat} {w W : World} (h : ExtB b w W) (hg : w.heap.size ≤ g) (t : T) (lv : Value) : ExtB b w (putX W g t lv) := by
 unfold putX
 iterate 13 refine ExtB.set ?_ (.inr hg) _
 exact h
theorem putX_E {g : Nat} {w W : World} (h : Ext w W) (hg : w.heap.size ≤ g) (t : T) (lv : Value) : Ext w (putX W g t lv) := by
 unfold putX
 iterate 13 refine Ext.setCell ?_ hg _
 exact h
theorem putX_heap (W : World) (g k : Nat) (t : T) (lv : Value) (hk : k ≠ g) : (putX W g t lv).heap[k]? = W.heap[k]? := by
 unfold putX
 iterate 13 rw [Below.heap_setCell _ _ _ _ hk]
theorem putX_size (W : World) (g : Nat) (t : T) (lv : Value) : (putX W g t lv).heap.size = W.heap.size := by
 unfold putX; simp [World.setCell]
theorem putX_L {P : Nat → Prop} {W : World} {g : Nat} {t : T} {lv v : Value} {l : List T} (h : IsL W P v l) (hP : ∀ k, P k → k ≠ g) : IsL (putX W g t lv) P v l :=
 h.keep (by rw [putX_size]; exact Nat.le_refl _) (fun k hk _ => putX_heap W g k t lv (hP k hk)) (fun _ h _ => h)
theorem BlkX.extB {b g : Nat} {w w' : World} {t : T} {lv : Value} (h : BlkX w g t lv) (e : ExtB b w w') (hg : g ≠ b) : BlkX w' g t lv := Blk13.extB h e hg
theorem BlkX.ext {g : Nat} {w w' : World} {t : T} {lv : Value} (h : BlkX w g t lv) (e : Ext w w') : BlkX w' g t lv := Blk13.ext h e
theorem BlkX.top {w w1 : World} {b : Nat} (hb : b = w.heap.size) (E : Ext (w.alloc (.cells #[.int .i64 0, .int .i64 0, .string ⟨#[]⟩, .int .i64 0, .int .i64 0, .int .i64 0, .bool false, .bool false, .int .i64 0, .int .i64 0, .bool false, .bool false, .slice none 0 0] 34)) w1) : BlkX w1 b tz (.slice none 0 0) := blk13_top hb E

open Go.RowKit

/-- A cell: its place, its text, whether it is a formula, the formula, the value. -/
structure Cl where
 row : Int
 col : Int
 txt : ByteArray
 is : Bool
 x : T
 vk : Int
 vn : Int
 vs : ByteArray
 ve : Int
def clz : Cl := ⟨0, 0, ByteArray.empty, false, tz, 0, 0, ByteArray.empty, 0⟩
/-- A run: its column, from which row to which. -/
abbrev Rn := Int × Int × Int
/-- Whether the formula a goes on in the cell c, where A tells whether they are alike. -/
def nxB (A : Cl → Cl → Bool) (a c : Cl) : Bool := a.is && (decide (a.row = c.row - 1) && A a c)
def lsR (l : List Rn) : Rn := l.getLastD (0, 0, 0)
/-- A column's runs, and its lowest formula, behind one more. -/
def seeP (A : Cl → Cl → Bool) (s : List Rn × Cl) (c : Cl) : List Rn × Cl :=
 (if nxB A s.2 c then s.1.dropLast ++ [((lsR s.1).1, (lsR s.1).2.1, c.row)] else s.1 ++ [(c.col, c.row, c.row)], c)
abbrev Spn := Int → List Rn × Cl
def spz : Spn := fun _ => ([], clz)
def putS (σ : Spn) (k : Int) (s : List Rn × Cl) : Spn := fun i => if i = k then s else σ i
def stP (A : Cl → Cl → Bool) (σ : Spn) (c : Cl) : Spn := if c.is then putS σ c.col (seeP A (σ c.col) c) else σ
def foP (A : Cl → Cl → Bool) (l : List Cl) : Spn := l.foldl (stP A) spz
def rnK (σ : Spn) (k : Nat) : List Rn := (List.range k).flatMap (fun (i : Nat) => (σ ((i : Int) + 1)).1)
def okRn (r : Rn) : Bool := decide (4 ≤ r.2.2 - r.2.1 + 1)
def befC (a b : Cl) : Bool := decide (a.row < b.row ∨ a.row = b.row ∧ a.col < b.col)
def clA (l : List Cl) (i : Nat) : Cl := l.getD i clz
/-- A list of cells is such as a sheet has at its place i. -/
def okAt (l : List Cl) (i : Nat) : Bool := inB (clA l i).row (clA l i).col && (i == 0 || befC (clA l (i - 1)) (clA l i))
def sndB (l : List Cl) : Bool := (List.range l.length).all (okAt l)
/-- The runs of cells. -/
def findP (A : Cl → Cl → Bool) (l : List Cl) : List Rn := if sndB l then (rnK (foP A l) 52).filter okRn else []

theorem snd_iff (l : List Cl) : sndB l = true ↔ ∀ i, i < l.length → okAt l i = true := by
 unfold sndB
 rw [List.all_eq_true]
 constructor
 · intro h i hi; exact h i (List.mem_range.2 hi)
 · intro h i hi; exact h i (List.mem_range.1 hi)
theorem snd_no {l : List Cl} {i : Nat} (hi : i < l.length) (h : okAt l i = false) : sndB l = false := by
 cases hs : sndB l with
 | false => rfl
 | true => rw [(snd_iff l).1 hs i hi] at h; cases h
theorem clA_get {l : List Cl} {i : Nat} {c : Cl} (h : l[i]? = some c) : clA l i = c := by unfold clA; rw [List.getD_eq_getElem?_getD, h]; rfl
theorem foP_snoc (A : Cl → Cl → Bool) (l : List Cl) (c : Cl) : foP A (l ++ [c]) = stP A (foP A l) c := by unfold foP; rw [List.foldl_append]; rfl
theorem take_snoc {α : Type} {l : List α} {k : Nat} {c : α} (h : l[k]? = some c) : l.take (k + 1) = l.take k ++ [c] := by
 rw [List.take_add_one, h]; rfl
theorem foP_take (A : Cl → Cl → Bool) {l : List Cl} {k : Nat} {c : Cl} (h : l[k]? = some c) : foP A (l.take (k + 1)) = stP A (foP A (l.take k)) c := by
 rw [take_snoc h, foP_snoc]
theorem rnK_succ (σ : Spn) (k : Nat) : rnK σ (k + 1) = rnK σ k ++ (σ ((k : Int) + 1)).1 := by
 unfold rnK
 rw [List.range_succ, List.flatMap_append]
 simp
theorem see_len (A : Cl → Cl → Bool) (s : List Rn × Cl) (c : Cl) : (seeP A s c).1.length ≤ s.1.length + 1 := by
 unfold seeP
 split
 · simp
 · simp
/-- A column with a formula has a run. -/
theorem see_ne (A : Cl → Cl → Bool) (s : List Rn × Cl) (c : Cl) : (seeP A s c).1 ≠ [] := by
 unfold seeP
 split <;> simp
/-- What is kept of the columns: a formula is there just where a run is; the columns together have no more runs than cells came. -/
structure SpOk (σ : Spn) (n : Nat) : Prop where
 ne : ∀ k, (σ k).2.is = true → (σ k).1 ≠ []
 few : ∀ k, (σ k).1.length ≤ n
theorem SpOk.zero : SpOk spz 0 := ⟨fun _ h => (Bool.false_ne_true h).elim, fun _ => Nat.le_refl _⟩
theorem SpOk.step {A : Cl → Cl → Bool} {σ : Spn} {n : Nat} (h : SpOk σ n) (c : Cl) : SpOk (stP A σ c) (n + 1) := by
 unfold stP
 split
 · refine ⟨fun k hk => ?_, fun k => ?_⟩
   · unfold putS at hk ⊢
     split
     · exact see_ne _ _ _
     · rename_i hn; rw [if_neg hn] at hk; exact h.ne k hk
   · unfold putS
     split
     · exact Nat.le_trans (see_len _ _ _) (Nat.succ_le_succ (h.few _))
     · exact Nat.le_succ_of_le (h.few k)
 · exact ⟨h.ne, fun k => Nat.le_succ_of_le (h.few k)⟩
theorem rn_len {σ : Spn} {n : Nat} (h : SpOk σ n) (k : Nat) : (rnK σ k).length ≤ n * k := by
 induction k with
 | zero => simp [rnK]
 | succ k ih =>
   rw [rnK_succ, List.length_append, Nat.mul_succ]
   have := h.few ((k : Int) + 1)
   omega

open Go.RowKit
set_option maxHeartbeats 1000000

/-- What the program says of an element's type. -/
structure Elt (TS T : TypeId) (k bytes : Nat) : Prop where
 u : Tryd.prog.underlying TS = some (.slice T)
 i : ∃ i z, Tryd.prog.info? T = some i ∧ i.zero = some z ∧ i.size = k ∧ i.bytes = bytes ∧ z.cells.size = k
 k0 : 0 < k
theorem ownsRow_ext {w w' : World} {base : Nat} {T : TypeId} {k n : Nat} {v : Value} {xs : List Value} (h : w.ownsRow base T k v n xs) (e : Ext w w') : w'.ownsRow base T k v n xs := by
 refine ⟨h.1, ?_⟩
 rcases h.2 with h | ⟨g, cap, cur, h1, h2, h3, h4⟩
 · exact .inl h
 · exact .inr ⟨g, cap, cur, h1, h2, (e.block g (Array.getElem?_eq_some_iff.1 h3).1).trans h3, h4⟩
theorem ext_grownG {w W W' : World} {base : Nat} {T : TypeId} {k n : Nat} {v : Value} {xs : List Value} (hB : W.ownsRow base T k v n xs) (hb : w.heap.size ≤ base) (hE : Ext w W) (hg : W.grownBy W' v.ownBlock) : Ext w W' := by
 refine ⟨hg.os.trans hE.os, hg.tape.trans hE.tape, hg.output.trans hE.output, Nat.le_trans hE.size hg.size, fun q hq => ?_⟩
 refine (hg.block q (Nat.lt_of_lt_of_le hq hE.size) ?_).trans (hE.block q hq)
 intro e
 have := (hB.lt q e.symm).1
 omega
/-- A slice that is read: these cells lie in a row. -/
def RowC (W : World) (v : Value) (m : Nat) (k : Nat) (news : List Value) : Prop := news.length = m * k ∧ ∃ p c, v = .slice p m c ∧ ((p = none ∧ m = 0) ∨ ∃ ad, p = some ad ∧ ∀ j u, news[j]? = some u → W.cell? (ad.add j) = some u)
theorem run_append_noneG {TS T : TypeId} {k bytes : Nat} (hT : Elt TS T k bytes) (w : World) (ty : TypeId) (p : Option Addr) (n cap c : Nat) (h : n ≤ cap) :
   (Builtin.append_ #[TS, TS] ty #[.slice p n cap, .slice none 0 c]).run Tryd.prog w = .ok (.slice p n cap) w := by
 obtain ⟨i, z, hi, hz, h1, h2, h3⟩ := hT.i
 cases p with
 | none => simp [Builtin.append_, run_underlying hT.u, sizeOf, typeInfo, hi, Builtin.lenOf, Builtin.firstCells, h]
 | some a => simp [Builtin.append_, run_underlying hT.u, sizeOf, typeInfo, hi, Builtin.lenOf, Builtin.firstCells, loadCells, h, storeCells]
/-- append, at the operation. -/
theorem own_app {TS T : TypeId} {k bytes : Nat} (hT : Elt TS T k bytes) {ops : Array Oper} {rest : List Oper} {o : Oper} {a : Act} {Q : Exit → Act → World → Prop} (W w : World) (s x : Operand) (v va : Value) (n m : Nat) (xs news : List Value) (base : Nat) (hgd : o.guard = none)
   (ho : o.op = .call { callee := .builtin .append, args := #[s, x], argTypes := #[TS, TS] })
   (hs : a.eval s = v) (hx : a.eval x = va) (hB : W.ownsRow base T k v n xs) (hR : RowC W va m k news) (h1c : ∀ u ∈ news, u.oneCell' = true) (hm : n + m ≤ maxLen) (hby : (n + m) * bytes ≤ 140737488355328) (hE : Ext w W) (hb : w.heap.size ≤ base) (hb2 : base ≤ W.heap.size)
   (h : ∀ v' W', W'.ownsRow base T k v' (n + m) (xs ++ news) → Ext w W' → W.grownBy W' v.ownBlock → wpList Tryd.prog ops Q rest (a.put o.dst v') W') : wpList Tryd.prog ops Q (o :: rest) a W := by
 obtain ⟨hl, p, c, rfl, hR⟩ := hR
 obtain ⟨i, z, hi, hz, h1, h2, h3⟩ := hT.i
 rcases hR with ⟨rfl, rfl⟩ | ⟨ad, rfl, hR⟩
 · have hn : news = [] := List.eq_nil_of_length_eq_zero (by simpa using hl)
   subst hn
   obtain ⟨p, cap, rfl, hc⟩ : ∃ p cap, v = .slice p n cap ∧ n ≤ cap := by
     rcases hB.2 with ⟨h, h0⟩ | ⟨g, cap, cur, h, _, _, h4, _⟩
     · exact ⟨none, 0, by rw [h, h0], by omega⟩
     · exact ⟨_, _, h, h4⟩
   refine Lib.wpList_append_run W hgd s x _ _ ho _ _ hs hx _ _ (run_append_noneG hT W o.type p n cap c hc) ?_
   exact h _ W (by simpa using hB) hE ⟨rfl, rfl, rfl, Nat.le_refl _, fun _ _ _ => rfl⟩
 · refine wpList_append_own_at W hgd s x TS ho base T i z k bytes hT.u hi hz h1 h2 h3 hT.k0 v n xs hs hB ad m c news hx hl hR h1c hm hby hb2 ?_
   intro v' W' h3 h4 _ _
   exact h v' W' h3 (ext_grownG hB hb hE h4) h4
theorem own_form {W : World} {base : Nat} {T : TypeId} {k n : Nat} {v : Value} {xs : List Value} (h : W.ownsRow base T k v n xs) : ∃ p c, v = .slice p n c ∧ n ≤ c := by
 rcases h.2 with ⟨h, h0⟩ | ⟨g, cap, cur, h, _, _, h4, _⟩
 · exact ⟨none, 0, by rw [h, h0], by omega⟩
 · exact ⟨_, _, h, h4⟩
/-- A literal without elements. -/
theorem own_new {T : TypeId} {k : Nat} (w W : World) (h : w.heap.size ≤ W.heap.size) : (W.alloc (.cells #[] T)).ownsRow w.heap.size T k (.slice (some ⟨W.heap.size, 0, none⟩) 0 0) 0 [] :=
 ⟨by simp, .inr ⟨W.heap.size, 0, #[], rfl, h, by show (W.heap.push _)[W.heap.size]? = _; rw [Array.getElem?_push_size], Nat.le_refl _, by simp, by simp, by simp⟩⟩

open Go.RowKit
set_option maxHeartbeats 1000000

theorem gm_len {α : Type} {c : α → List Value} {k : Nat} (hc : ∀ x, (c x).length = k) (l : List α) : (l.flatMap c).length = l.length * k := by
 induction l with
 | nil => simp
 | cons x l ih => rw [List.flatMap_cons, List.length_append, hc, ih, List.length_cons, Nat.succ_mul]; omega
theorem gm_at {α : Type} {c : α → List Value} {k : Nat} (hc : ∀ x, (c x).length = k) : ∀ (l : List α) (i : Nat) (x : α) (j : Nat), l[i]? = some x → j < k → (l.flatMap c)[i * k + j]? = (c x)[j]?
 | [], i, x, j, h, _ => by simp at h
 | y :: l, 0, x, j, h, hj => by
   simp at h; subst h
   rw [List.flatMap_cons, Nat.zero_mul, Nat.zero_add, List.getElem?_append_left (by rw [hc]; exact hj)]
 | y :: l, i + 1, x, j, h, hj => by
   have ih := gm_at hc l i x j (by simpa using h) hj
   rw [List.flatMap_cons, List.getElem?_append_right (by rw [hc, Nat.succ_mul]; omega), hc, ← ih]
   congr 1
   rw [Nat.succ_mul]; omega
theorem gm_get {α : Type} {c : α → List Value} {k : Nat} (hc : ∀ x, (c x).length = k) (hk : 0 < k) (l : List α) (j : Nat) (u : Value) (h : (l.flatMap c)[j]? = some u) : ∃ x, l[j / k]? = some x ∧ (c x)[j % k]? = some u := by
 have hj : j < l.length * k := by rw [← gm_len hc]; exact (List.getElem?_eq_some_iff.1 h).1
 have hi : j / k < l.length := by rw [Nat.div_lt_iff_lt_mul hk]; exact hj
 refine ⟨l[j / k], List.getElem?_eq_getElem hi, ?_⟩
 rw [← gm_at hc l (j / k) _ (j % k) (List.getElem?_eq_getElem hi) (Nat.mod_lt _ hk), Nat.mul_comm, Nat.div_add_mod]
 exact h
/-- The slice v holds l. -/
def RdG {α : Type} (c : α → List Value) (k : Nat) (W : World) (v : Value) (l : List α) : Prop :=
 ∃ p cp, v = .slice p l.length cp ∧ l.length ≤ cp ∧ (l = [] ∨ ∃ b off, p = some ⟨b, off, none⟩ ∧ b < W.heap.size ∧ ∀ i x j u, l[i]? = some x → (c x)[j]? = some u → W.cell? ⟨b, off + i * k + j, none⟩ = some u)
section
variable {α : Type} {c : α → List Value} {k : Nat}
theorem RdG.len {W : World} {p : Option Addr} {n cp : Nat} {l : List α} (h : RdG c k W (.slice p n cp) l) : n = l.length := by
 obtain ⟨p', c', h1, _⟩ := h
 cases h1; rfl
theorem RdG.form {W : World} {v : Value} {l : List α} (h : RdG c k W v l) : ∃ p cp, v = .slice p l.length cp ∧ l.length ≤ cp := by
 obtain ⟨p, cp, h1, h2, _⟩ := h
 exact ⟨p, cp, h1, h2⟩
theorem RdG.keep {W W' : World} {p : Option Addr} {n cp : Nat} {l : List α} (h : RdG c k W (.slice p n cp) l) (hs : W.heap.size ≤ W'.heap.size) (hk : ∀ a, p = some a → l ≠ [] → a.block < W.heap.size → W'.heap[a.block]? = W.heap[a.block]?) : RdG c k W' (.slice p n cp) l := by
 obtain ⟨p', c', h1, h2, h3⟩ := h
 cases h1
 refine ⟨p, cp, rfl, h2, ?_⟩
 rcases h3 with h3 | ⟨b, off, rfl, h5, h6⟩
 · exact .inl h3
 · refine .inr ⟨b, off, rfl, Nat.lt_of_lt_of_le h5 hs, fun i x j u hi hj => ?_⟩
   have := h6 i x j u hi hj
   unfold World.cell? at this ⊢
   rw [show W'.heap[b]? = W.heap[b]? from hk _ rfl (fun e => by rw [e] at hi; simp at hi) h5]
   exact this
theorem RdG.ext {W W' : World} {v : Value} {l : List α} (h : RdG c k W v l) (e : Ext W W') : RdG c k W' v l := by
 obtain ⟨p, cp, h1, h2, h3⟩ := h
 refine ⟨p, cp, h1, h2, ?_⟩
 rcases h3 with h3 | ⟨b, off, h4, h5, h6⟩
 · exact .inl h3
 · exact .inr ⟨b, off, h4, Nat.lt_of_lt_of_le h5 e.size, fun i x j u hi hj => (e.cell.1 b _ h5).trans (h6 i x j u hi hj)⟩
theorem RdG.nil (W : World) : RdG c k W (.slice none 0 0) [] := ⟨none, 0, rfl, Nat.le_refl _, .inl rfl⟩
theorem RdG.at {W : World} {p : Option Addr} {n cp : Nat} {l : List α} (h : RdG c k W (.slice p n cp) l) {i : Nat} {x : α} (hi : l[i]? = some x) :
   ∃ b off, p = some ⟨b, off, none⟩ ∧ b < W.heap.size ∧ ∀ j u, (c x)[j]? = some u → W.cell? ⟨b, off + i * k + j, none⟩ = some u := by
 obtain ⟨p', c', h1, h2, h3⟩ := h
 cases h1
 rcases h3 with h3 | ⟨b, off, h4, h5, h6⟩
 · subst h3; simp at hi
 · exact ⟨b, off, h4, h5, fun j u hj => h6 i x j u hi hj⟩
theorem RdG.row (hc : ∀ x, (c x).length = k) (hk : 0 < k) {W : World} {v : Value} {l : List α} (h : RdG c k W v l) : RowC W v l.length k (l.flatMap c) := by
 obtain ⟨p, cp, h1, h2, h3⟩ := h
 refine ⟨gm_len hc l, p, cp, h1, ?_⟩
 rcases h3 with rfl | ⟨b, off, rfl, _, h6⟩
 · cases p with
   | none => exact .inl ⟨rfl, rfl⟩
   | some ad => exact .inr ⟨ad, rfl, fun j u hu => by simp at hu⟩
 · refine .inr ⟨_, rfl, fun j u hu => ?_⟩
   obtain ⟨r, hr, hu⟩ := gm_get hc hk l j u hu
   have := h6 _ r _ u hr hu
   rw [Addr.add_lit]
   rw [Nat.add_assoc, Nat.mul_comm, Nat.div_add_mod] at this
   exact this
/-- What is owned is read. -/
theorem own_rdG (hc : ∀ x, (c x).length = k) {W : World} {base : Nat} {T : TypeId} {v : Value} {l : List α} {n : Nat} (h : W.ownsRow base T k v n (l.flatMap c)) (hn : n = l.length) : RdG c k W v l := by
 subst hn
 rcases h.2 with ⟨rfl, h0⟩ | ⟨g, cap, cur, rfl, h2, h3, h4, h5⟩
 · have : l = [] := List.eq_nil_of_length_eq_zero h0
   subst this
   exact RdG.nil W
 · have hg : g < W.heap.size := (Array.getElem?_eq_some_iff.1 h3).1
   refine ⟨_, cap, rfl, h4, .inr ⟨g, 0, rfl, hg, fun i x j u hi hj => ?_⟩⟩
   have hj6 : j < k := by rw [← hc x]; exact (List.getElem?_eq_some_iff.1 hj).1
   have k' := h.cells (g := g) rfl (i * k + j) u (by rw [gm_at hc l i x j hi hj6]; exact hj)
   simp only [Addr.add_lit] at k'
   rw [Nat.add_assoc]
   exact k'
theorem RdG.part {W : World} {p : Option Addr} {n cp : Nat} {l : List α} (h : RdG c k W (.slice p n cp) l) (j : Nat) (hj : j ≤ l.length) : RdG c k W (.slice p j cp) (l.take j) := by
 obtain ⟨p', c', h1, h2, h3⟩ := h
 cases h1
 have hl : (l.take j).length = j := by simp; omega
 refine ⟨_, cp, by rw [hl], by rw [hl]; omega, ?_⟩
 rcases h3 with h3 | ⟨b', off', h4, h5, h6⟩
 · subst h3; exact .inl (by simp)
 · refine .inr ⟨b', off', h4, h5, fun i x q u hk hq => h6 i x q u ?_ hq⟩
   rw [List.getElem?_take] at hk
   split at hk
   · exact hk
   · cases hk
theorem gm_one (h1 : ∀ x, ∀ v ∈ c x, v.oneCell' = true) (l : List α) : ∀ u ∈ l.flatMap c, u.oneCell' = true := by
 intro u hu
 obtain ⟨r, _, hu⟩ := List.mem_flatMap.1 hu
 exact h1 r u hu
end
/-- append, at the operation; the row lies where it lay, or at the top. -/
theorem own_app2 {TS T : TypeId} {k bytes : Nat} (hT : Elt TS T k bytes) {ops : Array Oper} {rest : List Oper} {o : Oper} {a : Act} {Q : Exit → Act → World → Prop} (W : World) (s x : Operand) (v va : Value) (n m : Nat) (xs news : List Value) (base : Nat) (hgd : o.guard = none)
   (ho : o.op = .call { callee := .builtin .append, args := #[s, x], argTypes := #[TS, TS] })
   (hs : a.eval s = v) (hx : a.eval x = va) (hB : W.ownsRow base T k v n xs) (hR : RowC W va m k news) (h1c : ∀ u ∈ news, u.oneCell' = true) (hm : n + m ≤ maxLen) (hby : (n + m) * bytes ≤ 140737488355328) (hb2 : base ≤ W.heap.size)
   (h : ∀ v' W', W'.ownsRow base T k v' (n + m) (xs ++ news) → W.grownBy W' v.ownBlock → (v'.ownBlock = v.ownBlock ∨ v'.ownBlock = some W.heap.size) → wpList Tryd.prog ops Q rest (a.put o.dst v') W') : wpList Tryd.prog ops Q (o :: rest) a W := by
 obtain ⟨hl, p, c, rfl, hR⟩ := hR
 obtain ⟨i, z, hi, hz, h1, h2, h3⟩ := hT.i
 rcases hR with ⟨rfl, rfl⟩ | ⟨ad, rfl, hR⟩
 · have hn : news = [] := List.eq_nil_of_length_eq_zero (by simpa using hl)
   subst hn
   obtain ⟨p, cap, rfl, hc⟩ : ∃ p cap, v = .slice p n cap ∧ n ≤ cap := by
     rcases hB.2 with ⟨h, h0⟩ | ⟨g, cap, cur, h, _, _, h4, _⟩
     · exact ⟨none, 0, by rw [h, h0], by omega⟩
     · exact ⟨_, _, h, h4⟩
   refine Lib.wpList_append_run W hgd s x _ _ ho _ _ hs hx _ _ (run_append_noneG hT W o.type p n cap c hc) ?_
   exact h _ W (by simpa using hB) ⟨rfl, rfl, rfl, Nat.le_refl _, fun _ _ _ => rfl⟩ (.inl rfl)
 · refine wpList_append_own_at W hgd s x TS ho base T i z k bytes hT.u hi hz h1 h2 h3 hT.k0 v n xs hs hB ad m c news hx hl hR h1c hm hby hb2 ?_
   intro v' W' h3 h4 _ h5
   exact h v' W' h3 h4 h5
theorem top_heap (w : World) (o : Obj) : (w.alloc o).heap[w.heap.size]? = some o := by show (w.heap.push o)[w.heap.size]? = some o; simp
theorem cells_heap {w w' : World} {k : Nat} (h : w'.heap[k]? = w.heap[k]?) (o : Nat) : w'.cell? ⟨k, o, none⟩ = w.cell? ⟨k, o, none⟩ ∧ w'.frozen? ⟨k, o, none⟩ = w.frozen? ⟨k, o, none⟩ := by
 unfold World.cell? World.frozen?
 simp only [h, and_self]
theorem wrapI (k : Nat) (h : k ≤ 1000000) : wrap64 ((k : Int) + 1) = ((k + 1 : Nat) : Int) := by unfold wrap64; omega
theorem take_at {α : Type} {l : List α} {k : Nat} {s : α} (h : l[k]? = some s) : l.take (k + 1) = l.take k ++ [s] := by
 rw [List.take_add_one, h]; rfl
/-- append of a list to one that is owned, at the operation. -/
theorem app_g {α : Type} {c : α → List Value} {TS T : TypeId} {k bytes : Nat} (hT : Elt TS T k bytes) (hc : ∀ x, (c x).length = k) (h1 : ∀ x, ∀ v ∈ c x, v.oneCell' = true) (hby : bytes ≤ 1000) {ops : Array Oper} {rest : List Oper} {o : Oper} {a : Act} {Q : Exit → Act → World → Prop} (W w : World) (s x : Operand) (v va : Value) (n m : Nat) (l news : List α) (base : Nat) (hgd : o.guard = none)
   (ho : o.op = .call { callee := .builtin .append, args := #[s, x], argTypes := #[TS, TS] })
   (hs : a.eval s = v) (hx : a.eval x = va) (hB : W.ownsRow base T k v n (l.flatMap c)) (hm : news.length = m) (hR : RdG c k W va news) (hl : n + m ≤ 1000000) (hE : Ext w W) (hb : w.heap.size ≤ base) (hb2 : base ≤ W.heap.size)
   (h : ∀ v' W', W'.ownsRow base T k v' (n + m) ((l ++ news).flatMap c) → Ext w W' → W.grownBy W' v.ownBlock → (v'.ownBlock = v.ownBlock ∨ v'.ownBlock = some W.heap.size) → wpList Tryd.prog ops Q rest (a.put o.dst v') W') : wpList Tryd.prog ops Q (o :: rest) a W := by
 subst hm
 refine own_app2 hT W s x v va n news.length (l.flatMap c) (news.flatMap c) base hgd ho hs hx hB (hR.row hc hT.k0) (gm_one h1 news) (by unfold maxLen; omega) (Nat.le_trans (Nat.mul_le_mul hl hby) (by decide)) hb2 ?_
 intro v' W' k1 k2 k3
 rw [← List.flatMap_append] at k1
 exact h v' W' k1 (ext_grownG hB hb hE k2) k2 k3
/-- A list of one, just built. -/
theorem RdG.one {α : Type} {c : α → List Value} {k : Nat} {W : World} {x : α} {b : Nat} {cur : Array Value} {T : TypeId} {fr : Nat × Nat} (hb : W.heap[b]? = some (.cells cur T fr)) (hx : ∀ (j : Nat) (u : Value), (c x)[j]? = some u → cur[j]? = some u) : RdG c k W (.slice (some ⟨b, 0, none⟩) 1 1) [x] := by
 refine ⟨_, 1, rfl, Nat.le_refl _, .inr ⟨b, 0, rfl, heap_lt hb, fun i y j u hi hj => ?_⟩⟩
 have hi0 : i = 0 := by have := (List.getElem?_eq_some_iff.1 hi).1; simp at this; omega
 subst hi0
 simp at hi
 subst hi
 rw [cell_of_row W b _ cur T fr hb, show 0 + 0 * k + j = j by omega]
 exact hx j u hj
theorem Ext.top {w w' : World} {o : Obj} (e : Ext (w.alloc o) w') : w'.heap[w.heap.size]? = some o := (e.block w.heap.size (by simp)).trans (top_heap w o)
end Go.Proofs.YtjhmbkdkjgjoaaaDoor

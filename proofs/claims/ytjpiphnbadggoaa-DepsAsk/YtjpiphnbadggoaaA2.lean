/-
 Lists of places: the document's Has, Same, Before, Put.
 Contracts of the small functions of package fix and of the document's answers: sizes, numbers, sums of 128 bits.
 A struct of four fields in a block of its own: laid, kept, stored; the end of a function whose result lies in one.
 The contracts of In, Area, Has (package coord's and the document's) and Can.
 Package deps: the rectangles that have places.
 A region that draws its order, and whose last operations (the bar: stores) wait for all that reads: what reads may be taken first as long as S holds, and S need not hold behind the bar. No program in sight.
 A bar that waits for an operation by any number of others between. No program in sight.
 The document's Deps in memory; its Set.
-/
import Derived.Test.YtjpiphnbadggoaaA1
import Derived.Test.YtjpiphnbadggoaaRows
import Derived.Deep.RegionHeld3
import Derived.Laws.Externs
import Derived.Test.YtjpiphnbadggoaaChecked
namespace Go.Proofs.Ytjpiphnbadggoaa
open Go.RowKit
set_option maxHeartbeats 1000000

theorem box2 {w w1 : World} {a b : Value} {T : TypeId} (E : Ext (w.alloc (.cells #[a, b] T)) w1) : w1.cell? ⟨w.heap.size, 0, none⟩ = some a ∧ w1.cell? ⟨w.heap.size, 1, none⟩ = some b := by
 have hs : w.heap.size < (w.alloc (.cells #[a, b] T)).heap.size := by simp
 have k := fun o => E.cell.1 w.heap.size o hs
 exact ⟨(k 0).trans (by simp [go_sem]), (k 1).trans (by simp [go_sem])⟩
theorem phas_any (w : World) (v : Value) (l : List Pl) (p1 p2 : Int) (h : RdP w v l) (hl : l.length ≤ 200000) :
   Calls Try.prog 22 #[v, .agg #[.int .i64 p1, .int .i64 p2]] w fun e w' => e = .returned (.bool (decide ((p1, p2) ∈ l))) ∧ Ext w w' := by
 obtain ⟨p, c, rfl, _⟩ := h.form
 have HR : Hid (RdP w (.slice p l.length c) l) := h
 have HL : Hid (l.length ≤ 200000) := hl
 clear h hl
 go_enter Try.func22, Try.ntmps22
 go_wp2_with fail
 go_loopw [5] (fun x wr => ∃ k : Nat, x = .int .i64 (k : Int) ∧ k ≤ l.length ∧ Ext (w.alloc (.cells #[.int .i64 p1, .int .i64 p2] 24)) wr ∧ (p1, p2) ∉ l.take k) (fun x _ => l.length - (intOf x).toNat)
 case atStart => exact ⟨0, rfl, Nat.zero_le _, Ext.refl _, by simp⟩
 case round =>
   obtain ⟨k, rfl, hk, hE, hn⟩ := hrel
   have HE : Hid (Ext (w.alloc (.cells #[.int .i64 p1, .int .i64 p2] 24)) wr) := hE
   have HN : Hid ((p1, p2) ∉ l.take k) := hn
   obtain ⟨q1, q2⟩ := box2 hE
   clear hE hn
   rcases Nat.lt_or_ge k l.length with hlt | hge
   · have hltI : (k : Int) < (l.length : Int) := by omega
     obtain ⟨s, hs⟩ : ∃ s, l[k]? = some s := ⟨_, List.getElem?_eq_getElem hlt⟩
     obtain ⟨b, off, rfl, _, c1, c2⟩ := RdP.cell (HR.out.ext (((Ext.refl w).alloc _).trans HE.out)) hs
     have wk := wrapI k (by have := HL.out; omega)
     obtain ⟨s1, s2⟩ := s
     have HS : Hid (l[k]? = some (s1, s2)) := hs
     clear hs
     go_upto_region 4 with fail
     have qE := eq_pl s1 s2 p1 p2
     have qG := gd_pl
     cases he : (s1 == p1 && s2 == p2)
     · have HT : Hid ((p1, p2) ∉ l.take (k + 1)) := by
         rw [show l.take (k + 1) = l.take k ++ [(s1, s2)] from take_at HS.out]
         intro h
         rcases List.mem_append.1 h with h | h
         · exact HN.out h
         · simp at h; simp [h.1, h.2] at he
       rw [he] at qE
       clear he
       go_quiet (fail)
       go_wp2
       go_roundw
       case rel => exact ⟨k + 1, by rw [wk], hlt, HE.out.drewN _, HT.out⟩
       case measure => rw [wk]; simp [intOf]; omega
     · have HT : Hid ((p1, p2) ∈ l) := by
         have h1 := List.mem_of_getElem? HS.out
         simp at he
         rw [he.1, he.2] at h1; exact h1
       rw [he] at qE
       clear he
       go_quiet (fail)
       go_wp2
       go_ret
       exact ⟨ret_bool (by simp [HT.out]), ((Ext.refl w).alloc _).trans (HE.out.drewN _)⟩
   · have hltI : ¬ (k : Int) < (l.length : Int) := by omega
     have HT : Hid ((p1, p2) ∉ l) := by have := HN.out; rwa [List.take_of_length_le hge] at this
     go_wp2
     go_ret
     exact ⟨ret_bool (by simp [HT.out]), ((Ext.refl w).alloc _).trans HE.out⟩
theorem psame_any (w : World) (v u : Value) (l m : List Pl) (h : RdP w v l) (g : RdP w u m) (hl : l.length ≤ 200000) :
   Calls Try.prog 11 #[v, u] w fun e w' => e = .returned (.bool (decide (l = m))) ∧ Ext w w' := by
 obtain ⟨p, c, rfl, _⟩ := h.form
 obtain ⟨q, d, rfl, _⟩ := g.form
 have HR : Hid (RdP w (.slice p l.length c) l) := h
 have HG : Hid (RdP w (.slice q m.length d) m) := g
 have HL : Hid (l.length ≤ 200000) := hl
 clear h hl g
 go_enter Try.func11, Try.ntmps11
 by_cases hne : l.length = m.length
 · have HM : Hid (l.length = m.length) := hne
   have e1 : ((l.length : Int) != (m.length : Int)) = false := by simp [hne]
   clear hne
   go_wp2
   go_loopw [5] (fun x wr => ∃ k : Nat, x = .int .i64 (k : Int) ∧ k ≤ l.length ∧ Ext w wr ∧ l.take k = m.take k) (fun x _ => l.length - (intOf x).toNat)
   case atStart => exact ⟨0, rfl, Nat.zero_le _, Ext.refl _, rfl⟩
   case round =>
     obtain ⟨k, rfl, hk, hE, hn⟩ := hrel
     have HE : Hid (Ext w wr) := hE
     have HN : Hid (l.take k = m.take k) := hn
     clear hE hn e1
     rcases Nat.lt_or_ge k l.length with hlt | hge
     · have hltI : (k : Int) < (l.length : Int) := by omega
       have hltJ : (k : Int) < (m.length : Int) := by have := HM.out; omega
       have hltm : k < m.length := by have := HM.out; omega
       obtain ⟨s, hs⟩ : ∃ s, l[k]? = some s := ⟨_, List.getElem?_eq_getElem hlt⟩
       obtain ⟨t, ht⟩ : ∃ t, m[k]? = some t := ⟨_, List.getElem?_eq_getElem hltm⟩
       obtain ⟨b, off, rfl, _, c1, c2⟩ := RdP.cell (HR.out.ext HE.out) hs
       obtain ⟨b', off', rfl, _, c3, c4⟩ := RdP.cell (HG.out.ext HE.out) ht
       obtain ⟨s1, s2⟩ := s
       obtain ⟨t1, t2⟩ := t
       have HS : Hid (l[k]? = some (s1, s2) ∧ m[k]? = some (t1, t2)) := ⟨hs, ht⟩
       clear hs ht hltm
       have wk := wrapI k (by have := HL.out; omega)
       go_upto_region 6 with fail
       have qE := eq_pl s1 s2 t1 t2
       have qG := gd_pl
       by_cases he : (s1 == t1 && s2 == t2) = true
       · have HT : Hid (l.take (k + 1) = m.take (k + 1)) := by
           show _ = _
           rw [take_at HS.out.1, take_at HS.out.2, HN.out]
           simp at he
           rw [he.1, he.2]
         rw [he] at qE
         clear he
         go_quiet (fail)
         go_wp2
         go_roundw
         case rel => exact ⟨k + 1, by rw [wk], hlt, HE.out.drewN _, HT.out⟩
         case measure => rw [wk]; simp [intOf]; omega
       · rw [Bool.not_eq_true] at he
         have HT : Hid (l ≠ m) := by
           show l ≠ m
           rintro rfl
           have h1 := HS.out.1.symm.trans HS.out.2
           simp at h1
           simp [h1.1, h1.2] at he
         rw [he] at qE
         clear he
         go_quiet (fail)
         go_wp2
         go_ret
         exact ⟨ret_bool (by simp [HT.out]), HE.out.drewN _⟩
     · have hltI : ¬ (k : Int) < (l.length : Int) := by omega
       go_wp2
       go_ret
       refine ⟨ret_bool ?_, HE.out⟩
       have h1 := HN.out
       rw [List.take_of_length_le hge, List.take_of_length_le (by have := HM.out; omega)] at h1
       simp [h1]
 · have e1 : ((l.length : Int) != (m.length : Int)) = true := by simp; omega
   have HM : Hid (l ≠ m) := by intro h; exact hne (by rw [h])
   clear hne
   go_wp2
   go_ret
   exact ⟨ret_bool (by simp [HM.out]), Ext.refl _⟩
theorem bef_any (a1 a2 b1 b2 : Int) (w : World) : Calls Try.prog 35 #[.agg #[.int .i64 a1, .int .i64 a2], .agg #[.int .i64 b1, .int .i64 b2]] w fun e w' => e = .returned (.bool (bef (a1, a2) (b1, b2))) ∧ Ext w w' := by
 have HR : Hid (bef (a1, a2) (b1, b2) = (decide (a1 < b1) || (a1 == b1 && decide (a2 < b2)))) := rfl
 cases h1 : decide (a1 < b1) <;> cases h2 : (a1 == b1) <;> cases h3 : decide (a2 < b2)
 all_goals
   rw [h1, h2, h3] at HR
   have h4 := h1
   have h5 := h3
   simp only [decide_eq_true_eq, decide_eq_false_iff_not] at h4 h5
   go_enter Try.func35, Try.ntmps35
   go_wp2_with fail
   go_ret
   exact ⟨ret_bool (by rw [HR.out]; rfl), ((Ext.refl _).alloc _).alloc _⟩

open Go.RowKit
set_option maxHeartbeats 400000

/-! ### fix.numbers, over one number and over two -/
/-! ### fix.Plus, fix.Less -/
/-! ### the document's words of 128 bits -/

open Go.RowKit
set_option maxHeartbeats 1000000

theorem keep4 {w w1 : World} {a b c d : Value} {T : TypeId} (E : Ext (w.alloc (.cells #[a, b, c, d] T)) w1) : w.heap.size < w1.heap.size ∧
   (w1.cell? ⟨w.heap.size, 0, none⟩ = some a ∧ w1.cell? ⟨w.heap.size, 1, none⟩ = some b ∧ w1.cell? ⟨w.heap.size, 2, none⟩ = some c ∧ w1.cell? ⟨w.heap.size, 3, none⟩ = some d) ∧
   (w1.frozen? ⟨w.heap.size, 0, none⟩ = false ∧ w1.frozen? ⟨w.heap.size, 1, none⟩ = false ∧ w1.frozen? ⟨w.heap.size, 2, none⟩ = false ∧ w1.frozen? ⟨w.heap.size, 3, none⟩ = false) := by
 have hs : w.heap.size < (w.alloc (.cells #[a, b, c, d] T)).heap.size := by simp
 have k := fun o => E.cell.1 w.heap.size o hs
 have f := fun o => E.cell.2 w.heap.size o hs
 refine ⟨Nat.lt_of_lt_of_le hs E.sz, ⟨(k 0).trans ?_, (k 1).trans ?_, (k 2).trans ?_, (k 3).trans ?_⟩, (f 0).trans ?_, (f 1).trans ?_, (f 2).trans ?_, (f 3).trans ?_⟩
 all_goals simp [go_sem]
/-! ### Blocks of four cells -/
def Blk (W : World) (b : Nat) (x0 x1 x2 x3 : Value) : Prop := b < W.heap.size ∧
 (W.cell? ⟨b, 0, none⟩ = some x0 ∧ W.cell? ⟨b, 1, none⟩ = some x1 ∧ W.cell? ⟨b, 2, none⟩ = some x2 ∧ W.cell? ⟨b, 3, none⟩ = some x3) ∧
 (W.frozen? ⟨b, 0, none⟩ = false ∧ W.frozen? ⟨b, 1, none⟩ = false ∧ W.frozen? ⟨b, 2, none⟩ = false ∧ W.frozen? ⟨b, 3, none⟩ = false)
theorem blk_top {w w1 : World} {x0 x1 x2 x3 : Value} {T : TypeId} {b : Nat} (hb : b = w.heap.size) (E : Ext (w.alloc (.cells #[x0, x1, x2, x3] T)) w1) : Blk w1 b x0 x1 x2 x3 := by subst hb; exact keep4 E
theorem Blk.ext {w w' : World} {b : Nat} {x0 x1 x2 x3 : Value} (h : Blk w b x0 x1 x2 x3) (e : Ext w w') : Blk w' b x0 x1 x2 x3 := by
 obtain ⟨z, ⟨k0, k1, k2, k3⟩, f0, f1, f2, f3⟩ := h
 have k := fun o => e.cell.1 b o z
 have f := fun o => e.cell.2 b o z
 exact ⟨Nat.lt_of_lt_of_le z e.sz, ⟨(k 0).trans k0, (k 1).trans k1, (k 2).trans k2, (k 3).trans k3⟩, (f 0).trans f0, (f 1).trans f1, (f 2).trans f2, (f 3).trans f3⟩
theorem Blk.far1 {w : World} {b c : Nat} {x0 x1 x2 x3 : Value} (h : Blk w b x0 x1 x2 x3) (hc : c ≠ b) (o : Nat) (v : Value) : Blk (w.setCell ⟨c, o, none⟩ v) b x0 x1 x2 x3 := by
 obtain ⟨z, ⟨k0, k1, k2, k3⟩, f0, f1, f2, f3⟩ := h
 refine ⟨by simpa [World.setCell] using z, ⟨?_, ?_, ?_, ?_⟩, ?_, ?_, ?_, ?_⟩
 · rw [World.cell?_setCell_far _ _ _ _ hc]; exact k0
 · rw [World.cell?_setCell_far _ _ _ _ hc]; exact k1
 · rw [World.cell?_setCell_far _ _ _ _ hc]; exact k2
 · rw [World.cell?_setCell_far _ _ _ _ hc]; exact k3
 · rw [World.frozen?_setCell]; exact f0
 · rw [World.frozen?_setCell]; exact f1
 · rw [World.frozen?_setCell]; exact f2
 · rw [World.frozen?_setCell]; exact f3
theorem Blk.far {w : World} {b c : Nat} {x0 x1 x2 x3 : Value} (h : Blk w b x0 x1 x2 x3) (hc : c ≠ b) (y0 y1 y2 y3 : Value) :
   Blk ((((w.setCell ⟨c, 0, none⟩ y0).setCell ⟨c, 1, none⟩ y1).setCell ⟨c, 2, none⟩ y2).setCell ⟨c, 3, none⟩ y3) b x0 x1 x2 x3 := (((h.far1 hc _ _).far1 hc _ _).far1 hc _ _).far1 hc _ _
theorem Blk.set {w1 : World} {b : Nat} {o0 o1 o2 o3 : Value} (h : Blk w1 b o0 o1 o2 o3) (x0 x1 x2 x3 : Value) :
   Blk ((((w1.setCell ⟨b, 0, none⟩ x0).setCell ⟨b, 1, none⟩ x1).setCell ⟨b, 2, none⟩ x2).setCell ⟨b, 3, none⟩ x3) b x0 x1 x2 x3 := by
 obtain ⟨z, ⟨k0, k1, k2, k3⟩, f0, f1, f2, f3⟩ := h
 have e0 := World.cell?_setCell_same w1 ⟨b, 0, none⟩ x0 (by rw [k0])
 have j1 : (w1.setCell ⟨b, 0, none⟩ x0).cell? ⟨b, 1, none⟩ = some o1 := by rw [World.cell?_setCell_other _ _ _ _ (by simp)]; exact k1
 have e1 := World.cell?_setCell_same _ ⟨b, 1, none⟩ x1 (by rw [j1])
 have j2 : ((w1.setCell ⟨b, 0, none⟩ x0).setCell ⟨b, 1, none⟩ x1).cell? ⟨b, 2, none⟩ = some o2 := by rw [World.cell?_setCell_other _ _ _ _ (by simp), World.cell?_setCell_other _ _ _ _ (by simp)]; exact k2
 have e2 := World.cell?_setCell_same _ ⟨b, 2, none⟩ x2 (by rw [j2])
 have j3 : (((w1.setCell ⟨b, 0, none⟩ x0).setCell ⟨b, 1, none⟩ x1).setCell ⟨b, 2, none⟩ x2).cell? ⟨b, 3, none⟩ = some o3 := by
   rw [World.cell?_setCell_other _ _ _ _ (by simp), World.cell?_setCell_other _ _ _ _ (by simp), World.cell?_setCell_other _ _ _ _ (by simp)]; exact k3
 have e3 := World.cell?_setCell_same _ ⟨b, 3, none⟩ x3 (by rw [j3])
 refine ⟨by simpa [World.setCell] using z, ⟨?_, ?_, ?_, e3⟩, ?_, ?_, ?_, ?_⟩
 · rw [World.cell?_setCell_other _ _ _ _ (by simp), World.cell?_setCell_other _ _ _ _ (by simp), World.cell?_setCell_other _ _ _ _ (by simp)]; exact e0
 · rw [World.cell?_setCell_other _ _ _ _ (by simp), World.cell?_setCell_other _ _ _ _ (by simp)]; exact e1
 · rw [World.cell?_setCell_other _ _ _ _ (by simp)]; exact e2
 · simp only [World.frozen?_setCell]; exact f0
 · simp only [World.frozen?_setCell]; exact f1
 · simp only [World.frozen?_setCell]; exact f2
 · simp only [World.frozen?_setCell]; exact f3
theorem Blk.al {w : World} {b : Nat} {x0 x1 x2 x3 : Value} (o : Obj) (h : Blk w b x0 x1 x2 x3) : Blk (w.alloc o) b x0 x1 x2 x3 := h.ext (Ext.alloc (Ext.refl _) _)

open Go.RowKit
set_option maxHeartbeats 1000000

theorem iscol_any (c : Int) (w : World) : Calls Try.prog 45 #[.int .i64 c] w fun e w' => e = .returned (.bool (colB c)) ∧ w' = w := by
 cases h1 : decide (1 ≤ c) <;> cases h2 : decide (c ≤ 52) <;>
 · have HR : Hid (colB c = (decide (1 ≤ c) && decide (c ≤ 52))) := rfl
   rw [h1, h2] at HR
   have h3 := h1
   have h4 := h2
   simp only [decide_eq_true_eq, decide_eq_false_iff_not] at h3 h4
   go_enter Try.func45, Try.ntmps45
   go_wp2_with fail
   go_ret
   exact ⟨ret_bool HR.out.symm, rfl⟩

theorem in_eq (r c : Int) : inB r c = (decide (1 ≤ r) && decide (r ≤ 1000) && colB c) := by unfold inB colB; simp [Bool.and_assoc]
theorem in_any (r c : Int) (w : World) : Calls Try.prog 33 #[.int .i64 r, .int .i64 c] w fun e w' => e = .returned (.bool (inB r c)) ∧ w' = w := by
 have k := fun W => iscol_any c W
 cases h1 : decide (1 ≤ r) <;> cases h2 : decide (r ≤ 1000) <;>
 · have HR : Hid (inB r c = (decide (1 ≤ r) && decide (r ≤ 1000) && colB c)) := in_eq r c
   rw [h1, h2] at HR
   have h3 := h1
   have h4 := h2
   simp only [decide_eq_true_eq, decide_eq_false_iff_not] at h3 h4
   go_enter Try.func33, Try.ntmps33
   first
     | (go_wp2_with fail
        refine (k _).mono ?_
        rintro e w' ⟨rfl, rfl⟩
        go_wp2_with fail
        go_ret
        exact ⟨ret_bool HR.out.symm, rfl⟩)
     | (go_wp2_with fail
        go_ret
        exact ⟨ret_bool HR.out.symm, rfl⟩)
theorem rin_any (r c : Int) (w : World) : Calls Try.prog 34 #[.int .i64 r, .int .i64 c] w fun e w' => e = .returned (.bool (inB r c)) ∧ w' = w := by
 cases h1 : decide (1 ≤ r) <;> cases h2 : decide (r ≤ 1000) <;> cases h5 : decide (1 ≤ c) <;> cases h6 : decide (c ≤ 52) <;>
 · have HR : Hid (inB r c = (decide (1 ≤ r) && decide (r ≤ 1000) && decide (1 ≤ c) && decide (c ≤ 52))) := rfl
   rw [h1, h2, h5, h6] at HR
   have h3 := h1
   have h4 := h2
   have h7 := h5
   have h8 := h6
   simp only [decide_eq_true_eq, decide_eq_false_iff_not] at h3 h4 h7 h8
   go_enter Try.func34, Try.ntmps34
   go_wp2_with fail
   go_ret
   exact ⟨ret_bool HR.out.symm, rfl⟩
theorem rcan6_any (p q u v : Int) (w : World) : Calls Try.prog 39 #[.agg #[.int .i64 p, .int .i64 q, .int .i64 u, .int .i64 v]] w fun e w' => e = .returned (.bool (canR p q u v)) ∧ Ext w w' := by
 have c1 := fun W => rin_any p q W
 have c2 := fun W => rin_any u v W
 have HR : Hid (canR p q u v = (inB p q && inB u v && decide (p ≤ u) && decide (q ≤ v))) := rfl
 cases g1 : inB p q
 · rw [g1] at c1 HR
   go_enter Try.func39, Try.ntmps39
   go_wp2_with fail
   refine (c1 _).mono ?_
   rintro e w1 ⟨rfl, rfl⟩
   go_wp2_with fail
   go_ret
   exact ⟨ret_bool (by rw [HR.out]; rfl), (Ext.refl _).alloc _⟩
 cases g2 : inB u v
 · rw [g1] at c1 HR
   rw [g2] at c2 HR
   go_enter Try.func39, Try.ntmps39
   go_wp2_with fail
   refine (c1 _).mono ?_
   rintro e w1 ⟨rfl, rfl⟩
   go_wp2_with fail
   refine (c2 _).mono ?_
   rintro e w1 ⟨rfl, rfl⟩
   go_wp2_with fail
   go_ret
   exact ⟨ret_bool (by rw [HR.out]; rfl), (Ext.refl _).alloc _⟩
 rw [g1] at c1 HR
 rw [g2] at c2 HR
 cases h1 : decide (p ≤ u) <;> cases h2 : decide (q ≤ v)
 all_goals
   rw [h1, h2] at HR
   have h3 := h1
   have h4 := h2
   simp only [decide_eq_true_eq, decide_eq_false_iff_not] at h3 h4
   go_enter Try.func39, Try.ntmps39
   go_wp2_with fail
   refine (c1 _).mono ?_
   rintro e w1 ⟨rfl, rfl⟩
   go_wp2_with fail
   refine (c2 _).mono ?_
   rintro e w1 ⟨rfl, rfl⟩
   go_wp2_with fail
   go_ret
   exact ⟨ret_bool (by rw [HR.out]; rfl), (Ext.refl _).alloc _⟩

theorem area_any (p q u v : Int) (w : World) : Calls Try.prog 49 #[.agg #[.int .i64 p, .int .i64 q, .int .i64 u, .int .i64 v]] w fun e w' => e = .returned (.int .i64 (areaR p q u v)) ∧ Ext w w' := by
 have c1 := fun W => in_any p q W
 have c2 := fun W => in_any u v W
 have HR : Hid (canR p q u v = (inB p q && inB u v && decide (p ≤ u) && decide (q ≤ v))) := rfl
 have HN : Hid (canR p q u v = false → areaR p q u v = 0) := fun h => (area_bd p q u v).2.2.2 h
 have HY : Hid (canR p q u v = true → areaR p q u v = (u - p + 1) * (v - q + 1)) := fun h => by unfold areaR; rw [h]; rfl
 cases g1 : inB p q
 · rw [g1] at c1 HR
   go_enter Try.func49, Try.ntmps49
   go_wp2_with fail
   refine (c1 _).mono ?_
   rintro e w1 ⟨rfl, rfl⟩
   go_wp2_with fail
   go_ret
   exact ⟨ret_int (by rw [HN.out (by rw [HR.out]; rfl)]), (Ext.refl _).alloc _⟩
 cases g2 : inB u v
 · rw [g1] at c1 HR
   rw [g2] at c2 HR
   go_enter Try.func49, Try.ntmps49
   go_wp2_with fail
   refine (c1 _).mono ?_
   rintro e w1 ⟨rfl, rfl⟩
   go_wp2_with fail
   refine (c2 _).mono ?_
   rintro e w1 ⟨rfl, rfl⟩
   go_wp2_with fail
   go_ret
   exact ⟨ret_int (by rw [HN.out (by rw [HR.out]; rfl)]), (Ext.refl _).alloc _⟩
 rw [g1] at c1 HR
 rw [g2] at c2 HR
 cases h1 : decide (p ≤ u) <;> cases h2 : decide (q ≤ v)
 all_goals rw [h1, h2] at HR
 case true.true =>
   have hc : canR p q u v = true := HR.out
   obtain ⟨b1, b2, b3, b4, b5, b6⟩ := can_bd hc
   have HA : Hid (areaR p q u v = (u - p + 1) * (v - q + 1)) := HY.out hc
   have hb := area_bd p q u v
   rw [HA.out] at hb
   obtain ⟨a1, a2, _⟩ := hb
   clear HR HN HY hc h1 h2 g1 g2
   go_enter Try.func49, Try.ntmps49
   go_wp2_with fail
   refine (c1 _).mono ?_
   rintro e w1 ⟨rfl, rfl⟩
   go_wp2_with fail
   refine (c2 _).mono ?_
   rintro e w1 ⟨rfl, rfl⟩
   go_wp2_with fail
   go_ret
   exact ⟨ret_int HA.out.symm, (Ext.refl _).alloc _⟩
 all_goals
   have h3 := h1
   have h4 := h2
   simp only [decide_eq_true_eq, decide_eq_false_iff_not] at h3 h4
   go_enter Try.func49, Try.ntmps49
   go_wp2_with fail
   refine (c1 _).mono ?_
   rintro e w1 ⟨rfl, rfl⟩
   go_wp2_with fail
   refine (c2 _).mono ?_
   rintro e w1 ⟨rfl, rfl⟩
   go_wp2_with fail
   go_ret
   exact ⟨ret_int (by rw [HN.out (by rw [HR.out]; rfl)]), (Ext.refl _).alloc _⟩

theorem rhas6_any (p q u v r c : Int) (w : World) : Calls Try.prog 30 #[.agg #[.int .i64 p, .int .i64 q, .int .i64 u, .int .i64 v], .int .i64 r, .int .i64 c] w fun e w' => e = .returned (.bool (hasR p q u v r c)) ∧ Ext w w' := by
 have c1 := fun W => rcan6_any p q u v W
 have HR : Hid (hasR p q u v r c = (canR p q u v && decide (p ≤ r) && decide (r ≤ u) && decide (q ≤ c) && decide (c ≤ v))) := rfl
 cases hc : canR p q u v
 · rw [hc] at HR
   rw [hc] at c1
   go_enter Try.func30, Try.ntmps30
   go_wp2_with fail
   refine (c1 _).mono ?_
   rintro e w1 ⟨rfl, E1⟩
   go_wp2_with fail
   go_ret
   exact ⟨ret_bool (by rw [HR.out]; rfl), ((Ext.refl _).alloc _).trans E1⟩
 · rw [hc] at HR
   rw [hc] at c1
   cases h1 : decide (p ≤ r) <;> cases h2 : decide (r ≤ u) <;> cases h3 : decide (q ≤ c) <;> cases h4 : decide (c ≤ v)
   all_goals
     rw [h1, h2, h3, h4] at HR
     have i1 := h1
     have i2 := h2
     have i3 := h3
     have i4 := h4
     simp only [decide_eq_true_eq, decide_eq_false_iff_not] at i1 i2 i3 i4
     go_enter Try.func30, Try.ntmps30
     go_wp2_with fail
     refine (c1 _).mono ?_
     rintro e w1 ⟨rfl, E1⟩
     have B1 := blk_top rfl E1
     obtain ⟨_, ⟨k0, k1, k2, k3⟩, _⟩ := B1
     go_wp2_with fail
     go_ret
     exact ⟨ret_bool (by rw [HR.out]; rfl), ((Ext.refl _).alloc _).trans E1⟩

open Go.RowKit
set_option maxHeartbeats 1000000

theorem rd_oneR {W V : World} {x : Rc} (e : Ext (W.alloc (.cells #[.int .i64 x.p, .int .i64 x.q, .int .i64 x.u, .int .i64 x.v] 32)) V) : RdR V (.slice (some ⟨W.heap.size, 0, none⟩) 1 1) [x] :=
 RdG.one (Ext.top e) (fun j u h => by
   have hj : j < 4 := (List.getElem?_eq_some_iff.1 h).1
   match j, hj with
   | 0, _ => exact h
   | 1, _ => exact h
   | 2, _ => exact h
   | 3, _ => exact h)
theorem area_can (x : Rc) : decide (areaR x.p x.q x.u x.v > 0) = x.can := by
 obtain ⟨h1, _, h2⟩ := area_bd x.p x.q x.u x.v
 unfold Rc.can
 cases h : canR x.p x.q x.u x.v
 · rw [h2.2 h]; rfl
 · simp
   have : areaR x.p x.q x.u x.v ≠ 0 := fun e => by rw [h2.1 e] at h; cases h
   omega
theorem own_nil (W : World) (base : Nat) (T : TypeId) (k : Nat) : W.ownsRow base T k (.slice none 0 0) 0 [] := ⟨by simp, .inl ⟨rfl, rfl⟩⟩
theorem fk1 {l : List Rc} {k : Nat} (h : l.length ≤ 200000) : ((l.take k).filter Rc.can).length + 1 ≤ 1000000 := by
 have := List.length_filter_le Rc.can (l.take k)
 simp at this
 omega
set_option maxRecDepth 100000 in
theorem with_any (w : World) (v : Value) (l : List Rc) (h : RdR w v l) (hl : l.length ≤ 200000) :
   Calls Try.prog 38 #[v] w fun e w' => ∃ v', e = .returned v' ∧ w'.ownsRow w.heap.size 32 4 v' (l.filter Rc.can).length ((l.filter Rc.can).flatMap cR) ∧ Ext w w' := by
 obtain ⟨p, c, rfl, _⟩ := h.form
 have HR : Hid (RdR w (.slice p l.length c) l) := h
 have HL : Hid (l.length ≤ 200000) := hl
 clear h hl
 go_enter Try.func38, Try.ntmps38
 go_wp2_with fail
 go_loopw [3, 8] (fun vo x wr => ∃ k : Nat, x = .int .i64 (k : Int) ∧ k ≤ l.length ∧ Ext w wr ∧ wr.ownsRow w.heap.size 32 4 vo ((l.take k).filter Rc.can).length (((l.take k).filter Rc.can).flatMap cR)) (fun _ x _ => l.length - (intOf x).toNat)
 case atStart => exact ⟨0, rfl, Nat.zero_le _, Ext.refl _, by simpa using own_nil w _ _ 4⟩
 case round =>
   obtain ⟨k, rfl, hk, hE, hO⟩ := hrel
   have HE : Hid (Ext w wr) := hE
   have HO : Hid (wr.ownsRow w.heap.size 32 4 u3 ((l.take k).filter Rc.can).length (((l.take k).filter Rc.can).flatMap cR)) := hO
   clear hE hO
   rcases Nat.lt_or_ge k l.length with hlt | hge
   · have hltI : (k : Int) < (l.length : Int) := by omega
     obtain ⟨s, hs⟩ : ∃ s, l[k]? = some s := ⟨_, List.getElem?_eq_getElem hlt⟩
     obtain ⟨b, off, rfl, _, c1, c2, c3, c4⟩ := Rd4.cell (HR.out.ext HE.out) hs rfl
     have wk := wrapI k (by have := HL.out; omega)
     have HS : Hid (l[k]? = some s) := hs
     clear hs
     have cA := fun W => area_any s.p s.q s.u s.v W
     have HA : Hid (decide (areaR s.p s.q s.u s.v > 0) = s.can) := area_can s
     generalize areaR s.p s.q s.u s.v = ar at cA HA
     cases hc : s.can
     · have HC : Hid (s.can = false) := hc
       have a0 : decide (ar > 0) = false := HA.out.trans hc
       have a1 : ¬ ar > 0 := of_decide_eq_false a0
       clear hc
       go_wp2_with fail
       refine (cA _).mono ?_
       rintro e w2 ⟨rfl, E2⟩
       have HE2 : Hid (Ext wr w2) := ((Ext.refl _).alloc _).trans E2
       have HT : Hid (w2.ownsRow w.heap.size 32 4 u3 ((l.take (k + 1)).filter Rc.can).length (((l.take (k + 1)).filter Rc.can).flatMap cR)) := by
         have e : (l.take (k + 1)).filter Rc.can = (l.take k).filter Rc.can := by rw [take_at HS.out, List.filter_append]; simp [HC.out]
         rw [e]
         exact ownsRow_ext HO.out HE2.out
       clear E2 cA c1 c2 c3 c4
       go_wp2_with fail
       go_roundw
       case rel => exact ⟨k + 1, by rw [wk], hlt, HE.out.trans HE2.out, HT.out⟩
       case measure => rw [wk]; simp [intOf]; omega
     · have HC : Hid (s.can = true) := hc
       have a0 : decide (ar > 0) = true := HA.out.trans hc
       have a1 : ar > 0 := of_decide_eq_true a0
       clear hc
       go_wp2_with fail
       refine (cA _).mono ?_
       rintro e w2 ⟨rfl, E2⟩
       have HE2 : Hid (Ext wr w2) := ((Ext.refl _).alloc _).trans E2
       obtain ⟨_, ⟨d0, d1, d2, d3⟩, _⟩ := keep4 E2
       clear E2 cA c1 c2 c3 c4
       go_wp2_with (at_builtin; refine app_g eltR cR_len cR_one (by decide) _ w _ _ _ _ ((l.take k).filter Rc.can).length 1 ((l.take k).filter Rc.can) [s] w.heap.size rfl rfl (by rfl) (by rfl) (ownsRow_ext HO.out (HE2.out.alloc _)) rfl (rd_oneR (Ext.refl _)) (fk1 HL.out) ((HE.out.trans HE2.out).alloc _) (Nat.le_refl _) ((HE.out.trans HE2.out).alloc _).size ?_; intro v9 w9 O9 E9 _ _; have H9 : Hid (Ext w w9 ∧ w9.ownsRow w.heap.size 32 4 v9 ((l.take (k + 1)).filter Rc.can).length (((l.take (k + 1)).filter Rc.can).flatMap cR)) := ⟨E9, by rw [take_at HS.out, List.filter_append]; simpa [HC.out] using O9⟩; clear O9 E9)
       go_roundw
       case rel => exact ⟨k + 1, by rw [wk], hlt, H9.out.1, H9.out.2⟩
       case measure => rw [wk]; simp [intOf]; omega
   · have hltI : ¬ (k : Int) < (l.length : Int) := by omega
     have HT : Hid (wr.ownsRow w.heap.size 32 4 u3 (l.filter Rc.can).length ((l.filter Rc.can).flatMap cR)) := by
       have := HO.out
       rwa [List.take_of_length_le hge] at this
     go_wp2_with fail
     go_ret
     exact ⟨_, rfl, HT.out, HE.out⟩

open Go

section
variable {P : Program} {ops : Array Oper} {Q : Exit → Act → World → Prop} {md : Region.Mode} {B : Nat → Bool} {S : World → Prop}

/-- Whichever order is picked from here on; S holds behind each operation that is not of the bar. -/
def wpBar (P : Program) (md : Region.Mode) (ops : Array Oper) (Q : Exit → Act → World → Prop) (B : Nat → Bool) (S : World → Prop) : Nat → Array Bool → Act → World → Prop
 | 0, l, a, w => Region.ready md ops l = [] ∧ Q .normal a w
 | n + 1, l, a, w => (Region.ready md ops l = [] → Q .normal a w) ∧ ∀ i ∈ Region.ready md ops l, wpOp P ops Q i (fun x v => (B i = false → S v) ∧ wpBar P md ops Q B S n (l.setIfInBounds i true) x v) a w
theorem any_of_bar : ∀ (n : Nat) (l : Array Bool) (a : Act) (w : World), wpBar P md ops Q B S n l a w → wpAny P md ops Q n l a w
 | 0, _, _, _, h => h
 | n + 1, _, _, _, h => ⟨h.1, fun i hi => wpOp_mono (fun x v k => any_of_bar n _ x v k.2) (h.2 i hi)⟩
/-- The bar waits for operation i, by itself or by one that has not come up and waits for i. -/
def Waits (md : Region.Mode) (ops : Array Oper) (B : Nat → Bool) (i : Nat) (l : Array Bool) : Prop :=
 ∀ j o, ops[j]? = some o → B j = true → ∃ e ∈ o.after, Region.binds md e = true ∧ (e.on = i ∨ (l.getD e.on true = false ∧ ∃ k, ops[e.on]? = some k ∧ ∃ e' ∈ k.after, Region.binds md e' = true ∧ e'.on = i))
theorem lst {l : Array Bool} {k : Nat} (h : l.getD k false = true) : ¬ l.getD k true = false := by
 rcases Nat.lt_or_ge k l.size with h' | h'
 · simp [h'] at h ⊢; exact h
 · simp [Array.getElem?_eq_none h'] at h
theorem Waits.step {i j : Nat} {l : Array Bool} (hW : Waits md ops B i l) (hi : i ∈ Region.ready md ops l) (hj : j ∈ Region.ready md ops l) : Waits md ops B i (l.setIfInBounds j true) := by
 intro k o ho hb
 obtain ⟨_, oj, hoj, hall⟩ := mem_ready.1 hj
 have hu := (mem_ready.1 hi).1
 obtain ⟨e, he, hbe, h | ⟨h, m, hm, e', he', hb', h'⟩⟩ := hW k o ho hb
 · exact ⟨e, he, hbe, .inl h⟩
 · refine ⟨e, he, hbe, .inr ⟨?_, m, hm, e', he', hb', h'⟩⟩
   have hne : j ≠ e.on := by
     intro hje
     rw [← hje, hoj] at hm
     obtain rfl := Option.some.inj hm
     exact absurd hu (lst (by rw [← h']; exact hall e' he' hb'))
   rw [getD_set_ne true hne]; exact h
/-! ### The moves -/
theorem bar_one {i : Nat} {o : Oper} {n : Nat} {l : Array Bool} {a : Act} {w : World} (hr : Region.ready md ops l = [i]) (ho : ops[i]? = some o)
   (h : ∀ K : Act → World → Prop, Shut (∀ a w, (B i = false → S w) → wpBar P md ops Q B S n (l.setIfInBounds i true) a w → K a w) → if Region.wanted o (yielded ops a.tmps) = true then Oper.wp P o a w K Q else K (a.put o.dst undef) w) :
   wpBar P md ops Q B S (n + 1) l a w := by
 refine ⟨fun h0 => (by rw [hr] at h0; cases h0), fun j hj => ?_⟩
 rw [hr] at hj
 obtain rfl : j = i := by simpa using hj
 exact wpOp_step ho fun K hK => h K fun a w hS hW => hK a w ⟨hS, hW⟩
theorem bar_done {l : Array Bool} {a : Act} {w : World} (hr : Region.ready md ops l = []) (h : Q .normal a w) : ∀ n, wpBar P md ops Q B S n l a w
 | 0 => ⟨hr, h⟩
 | _ + 1 => ⟨fun _ => h, by rw [hr]; simp⟩
theorem bar_begin {id : Nat} {a : Act} {w : World} (hm : P.follows .mixedOrders = true) (h : wpBar P .any ops Q B S ops.size (Array.replicate ops.size false) a w.drew) : (Code.region id ops true).wp P Q a w :=
 wp_region_any hm (any_of_bar _ _ _ _ h)
end

open Go

section
variable {P : Program} {ops : Array Oper} {Q : Exit → Act → World → Prop} {md : Region.Mode} {B : Nat → Bool} {S : World → Prop}
/-- Operation j waits for operation i, by itself or by one that has not come up and waits for i. -/
inductive Wt (md : Region.Mode) (ops : Array Oper) (l : Array Bool) (i : Nat) : Nat → Prop
 | here {j : Nat} {o : Oper} {e : Edge} (ho : ops[j]? = some o) (he : e ∈ o.after) (hb : Region.binds md e = true) (h : e.on = i) : Wt md ops l i j
 | more {j : Nat} {o : Oper} {e : Edge} (ho : ops[j]? = some o) (he : e ∈ o.after) (hb : Region.binds md e = true) (hu : l.getD e.on true = false) (h : Wt md ops l i e.on) : Wt md ops l i j
def wtB (md : Region.Mode) (ops : Array Oper) (l : Array Bool) (i : Nat) : Nat → Nat → Bool
 | 0, _ => false
 | n + 1, j => match ops[j]? with
   | none => false
   | some o => o.after.any fun e => Region.binds md e && (e.on == i || (!l.getD e.on true && wtB md ops l i n e.on))
theorem wt_of {l : Array Bool} {i : Nat} : ∀ (n j : Nat), wtB md ops l i n j = true → Wt md ops l i j
 | 0, _, h => by cases h
 | n + 1, j, h => by
   unfold wtB at h
   cases ho : ops[j]? with
   | none => rw [ho] at h; cases h
   | some o =>
     rw [ho] at h
     obtain ⟨e, he, h2⟩ := Array.any_eq_true'.1 h
     simp only [Bool.and_eq_true, Bool.or_eq_true, beq_iff_eq, Bool.not_eq_true'] at h2
     rcases h2.2 with h3 | ⟨h3, h4⟩
     · exact .here ho he h2.1 h3
     · exact .more ho he h2.1 h3 (wt_of n _ h4)
theorem wt_no {i j : Nat} {l : Array Bool} (h : Wt md ops l i j) (hi : i ∈ Region.ready md ops l) : j ∉ Region.ready md ops l := by
 intro hj
 obtain ⟨_, o, ho, hall⟩ := mem_ready.1 hj
 have hu := (mem_ready.1 hi).1
 cases h with
 | here ho' he hb h =>
   rw [ho] at ho'
   obtain rfl := Option.some.inj ho'
   exact absurd hu (lst (by rw [← h]; exact hall _ he hb))
 | more ho' he hb hu' _ =>
   rw [ho] at ho'
   obtain rfl := Option.some.inj ho'
   exact absurd hu' (lst (hall _ he hb))
theorem Wt.step {i j q : Nat} {l : Array Bool} (h : Wt md ops l i q) (hi : i ∈ Region.ready md ops l) (hj : j ∈ Region.ready md ops l) : Wt md ops (l.setIfInBounds j true) i q := by
 induction h with
 | here ho he hb h => exact .here ho he hb h
 | @more q' o e ho he hb hu h ih =>
   refine .more ho he hb ?_ ih
   have hne : j ≠ e.on := fun h' => wt_no h hi (by rw [← h']; exact hj)
   rw [getD_set_ne true hne]
   exact hu
def WaitsT (md : Region.Mode) (ops : Array Oper) (B : Nat → Bool) (i : Nat) (l : Array Bool) : Prop := ∀ j, j < ops.size → B j = true → Wt md ops l i j
def waitsT (md : Region.Mode) (ops : Array Oper) (B : Nat → Bool) (i : Nat) (l : Array Bool) : Bool := (List.range ops.size).all fun j => !B j || wtB md ops l i ops.size j
theorem waitsT_of {i : Nat} {l : Array Bool} (h : waitsT md ops B i l = true) : WaitsT md ops B i l := by
 intro j hj hb
 have h1 := List.all_eq_true.1 h j (List.mem_range.2 hj)
 rw [hb] at h1
 exact wt_of _ _ (by simpa using h1)
theorem barT_first {i : Nat} {oi : Oper} {v : Value} (hi : ops[i]? = some oi) (hsel : ∀ (j : Nat) (o : Oper) cs b, ops[j]? = some o → o.op ≠ .select cs b)
   (hQ : ∀ c a w, Q (.panic c) (a.put oi.dst v) w → Q (.panic c) a w) : ∀ (n : Nat) (l : Array Bool) (a : Act) (w : World),
     (∀ j oj, ops[j]? = some oj → j ≠ i → l.getD j true = false → (∀ e ∈ oj.after, Region.binds md e = true → e.on ≠ i) → oi.apart ops oj = true) →
     WaitsT md ops B i l → i ∈ Region.ready md ops l → YieldsIf P ops S oi v a → S w →
     wpBar P md ops Q B S n (l.setIfInBounds i true) (a.put oi.dst v) w → wpBar P md ops Q B S (n + 1) l a w := by
 intro n
 induction n with
 | zero =>
   intro l a w _ _ hr hy hS H
   refine ⟨fun h => (by rw [h] at hr; cases hr), fun j hj => ?_⟩
   by_cases hji : j = i
   · subst hji; exact hy.wpOp hi hS ⟨fun _ => hS, H⟩
   · have := ready_mono hj hji
     rw [H.1] at this
     cases this
 | succ n ih =>
   intro l a w hfree hW hr hy hS H
   refine ⟨fun h => (by rw [h] at hr; cases hr), fun j hj => ?_⟩
   by_cases hji : j = i
   · subst hji; exact hy.wpOp hi hS ⟨fun _ => hS, H⟩
   · obtain ⟨hun, oj, hoj, hall⟩ := mem_ready.1 hj
     have hB : B j = false := by
       cases hb : B j
       · rfl
       · exact absurd hj (wt_no (hW j (Array.getElem?_eq_some_iff.1 hoj).1 hb) hr)
     have hno : ∀ e ∈ oj.after, Region.binds md e = true → e.on ≠ i := fun e he hb heq => absurd (mem_ready.1 hr).1 (lst (by rw [← heq]; exact hall e he hb))
     have step := wpOp_putIf hoj (hfree j oj hoj hji hun hno) (fun cs b => hsel i oi cs b hi) (fun cs b => hsel j oj cs b hoj) hQ hy (H.2 j (ready_mono hj hji))
     refine wpOp_mono (fun x u k => ?_) step
     have hSu := k.2.1 hB
     refine ⟨fun _ => hSu, ih _ x u (fun m om hm hmi hmun hmno => hfree m om hm hmi ?_ hmno) (fun q hq hb => (hW q hq hb).step hr hj) (ready_mono hr (Ne.symm hji)) k.1 hSu ?_⟩
     · by_cases hjm : j = m
       · subst hjm; exact hun
       · rw [getD_set_ne true hjm] at hmun; exact hmun
     · rw [Array.setIfInBounds_comm _ _ hji]; exact k.2.2
theorem barT_take {i : Nat} {oi : Oper} {v : Value} {n : Nat} {l : Array Bool} {a : Act} {w : World} (hi : ops.toList[i]? = some oi) (hs : Region.noSelect ops = true) (hf : Region.free md ops l i = true)
   (hr : (Region.ready md ops l).contains i = true) (hw : waitsT md ops B i l = true) (hQ : ∀ c a w, Q (.panic c) (a.put oi.dst v) w → Q (.panic c) a w) (hy : YieldsIf P ops S oi v a) (hS : S w)
   (h : wpBar P md ops Q B S n (l.setIfInBounds i true) (a.put oi.dst v) w) : wpBar P md ops Q B S (n + 1) l a w :=
 barT_first (by rw [← Array.getElem?_toList]; exact hi) (Region.noSelect_spec hs) hQ n l a w (Region.free_spec (by rw [← Array.getElem?_toList]; exact hi) hf) (waitsT_of hw) (by simpa using hr) hy hS h
theorem barT_one {i : Nat} {o : Oper} {n : Nat} {l : Array Bool} {a : Act} {w : World} (hr : Region.ready md ops l = [i]) (ho : ops.toList[i]? = some o)
   (h : ∀ K : Act → World → Prop, Shut (∀ a w, (B i = false → S w) → wpBar P md ops Q B S n (l.setIfInBounds i true) a w → K a w) → if Region.wanted o (yielded ops a.tmps) = true then Oper.wp P o a w K Q else K (a.put o.dst undef) w) :
   wpBar P md ops Q B S (n + 1) l a w := bar_one hr (by rw [← Array.getElem?_toList]; exact ho) h
/-- One that is not of the bar: S holds behind it. -/
theorem barT_hold {i : Nat} {o : Oper} {n : Nat} {l : Array Bool} {a : Act} {w : World} (hr : Region.ready md ops l = [i]) (ho : ops.toList[i]? = some o)
   (h : ∀ K : Act → World → Prop, Shut (∀ a w, S w → (S w → wpBar P md ops Q B S n (l.setIfInBounds i true) a w) → K a w) → if Region.wanted o (yielded ops a.tmps) = true then Oper.wp P o a w K Q else K (a.put o.dst undef) w) :
   wpBar P md ops Q B S (n + 1) l a w := barT_one hr ho (fun K hK => h K (fun a w hS hW => hK a w (fun _ => hS) (hW hS)))
end

open Go.RowKit
set_option maxHeartbeats 1000000

/-- A cell with its list, and where that lies. -/
structure Zt where
 e : Ent
 v : Value
 o : v.oneCell' = true
def cZ (z : Zt) : List Value := [.int .i64 z.e.1.1, .int .i64 z.e.1.2, z.v]
theorem cZ_len (z : Zt) : (cZ z).length = 3 := rfl
theorem cZ_one (z : Zt) : ∀ v ∈ cZ z, v.oneCell' = true := by
 intro v hv
 simp [cZ] at hv
 rcases hv with rfl | rfl | rfl
 · rfl
 · rfl
 · exact z.o
/-- The document's Deps: block bm. -/
structure RfD (W : World) (base bm : Nat) (τ : Sg) : Prop where
 bb : base ≤ bm
 r : ∃ (v : Value) (Z : List Zt), W.heap[bm]? = some (.cells #[v] 50 (0, 0)) ∧ W.ownsRow base 60 3 v Z.length (Z.flatMap cZ) ∧ Z.map (·.e) = τ ∧ ∀ z ∈ Z, OwR W base z.v z.e.2
/-- Whatever leaves alone blocks of these kinds keeps it. -/
theorem RfD.keep {W W' : World} {base bm : Nat} {τ : Sg} (h : RfD W base bm τ) (e : ∀ (q : Nat) (cur : Array Value) (T : TypeId), W.heap[q]? = some (Obj.cells cur T (0, 0)) → T = 50 ∨ T = 60 ∨ T = 32 → W'.heap[q]? = W.heap[q]?) : RfD W' base bm τ := by
 obtain ⟨v, Z, h1, h2, h3, h4⟩ := h.r
 refine ⟨h.bb, v, Z, (e bm _ _ h1 (.inl rfl)).trans h1, own_keep h2 (fun q hq _ => ?_), h3, fun z hz => own_keep (h4 z hz) (fun q hq _ => ?_)⟩
 · obtain ⟨_, cur, h5⟩ := own_heap h2 hq
   exact e q _ _ h5 (.inr (.inl rfl))
 · obtain ⟨_, cur, h5⟩ := own_heap (h4 z hz) hq
   exact e q _ _ h5 (.inr (.inr rfl))
theorem RfD.ext {W W' : World} {base bm : Nat} {τ : Sg} (h : RfD W base bm τ) (e : Ext W W') : RfD W' base bm τ := h.keep (fun q _ _ hq _ => e.block q (heap_lt hq))
theorem RfD.dep {W W' : World} {base b' bm : Nat} {τ : Sg} (h : RfD W base bm τ) (e : ExtD b' W W') : RfD W' base bm τ := h.keep (fun q cur T hq hT => e.block q (heap_lt hq) (.inl (by
 rw [hq]
 rcases hT with rfl | rfl | rfl <;> rfl)))
/-- What the document's Set turns leaves a Deps of package deps alone. -/
theorem Dps.turn {W w' : World} {base b n q : Nat} {g : Option Nat} {vs : List Value} {σ : Sg} (h : Dps W base b g n vs σ) (hg : W.grownBy w' (some q)) (hq : ∃ cur, W.heap[q]? = some (.cells cur 50 (0, 0))) : Dps w' base b g n vs σ := by
 obtain ⟨cur, hq⟩ := hq
 have hd : dcO W.heap[q]? = false := by rw [hq]; rfl
 refine ⟨h.cols.turn hg hd, ?_, h.ok, h.few, h.n⟩
 cases g with
 | none => exact h.map
 | some g =>
   obtain ⟨h0, D, ⟨es, clock, hb, r⟩, hR⟩ := h.map
   refine ⟨h0, D, ⟨es, clock, (hg.block g (heap_lt hb) (fun e => by cases e; rw [hq] at hb; cases hb)).trans hb, r⟩, fun r c hr hc => ?_⟩
   obtain ⟨v, k1, k2⟩ := hR r c hr hc
   refine ⟨v, k1, own_keep k2 (fun k hk hlt => hg.block k hlt (fun e => ?_))⟩
   cases e
   obtain ⟨_, cur', h5⟩ := own_heap k2 hk
   rw [hq] at h5
   cases h5
theorem rf_new (W : World) (base : Nat) (hb : base ≤ W.heap.size) : RfD (W.alloc (.cells #[.slice none 0 0] 50)) base W.heap.size [] :=
 ⟨hb, _, [], top_heap W _, ⟨by simp, .inl ⟨rfl, rfl⟩⟩, rfl, by simp⟩
theorem rc_cells (s : Rc) : ∀ (j : Nat) (u : Value), (cR s)[j]? = some u → (#[.int .i64 s.p, .int .i64 s.q, .int .i64 s.u, .int .i64 s.v] : Array Value)[j]? = some u := fun j u h => by
 have hj : j < 4 := (List.getElem?_eq_some_iff.1 h).1
 match j, hj with
 | 0, _ => exact h
 | 1, _ => exact h
 | 2, _ => exact h
 | 3, _ => exact h
/-- The document's cell that is made: block A1; its list so far. -/
structure RsL (W1 : World) (base A1 : Nat) (r c : Int) (l : List Rc) (k : Nat) (v : Value) (wr : World) : Prop where
 h : wr.heap[A1]? = some (.cells #[.int .i64 r, .int .i64 c, v] 60 (0, 0))
 o : wr.ownsRow base 32 4 v ((l.take k).filter Rc.can).length (((l.take k).filter Rc.can).flatMap cR)
 e : ∀ q, q < W1.heap.size → q ≠ A1 → wr.heap[q]? = W1.heap[q]?
 s : W1.heap.size ≤ wr.heap.size ∧ wr.os = W1.os ∧ wr.tape = W1.tape ∧ wr.output = W1.output
 n : ∀ q, v.ownBlock = some q → W1.heap.size ≤ q
theorem RsL.ext {W1 wr w1 : World} {base A1 k : Nat} {r c : Int} {l : List Rc} {v : Value} (h : RsL W1 base A1 r c l k v wr) (e : Ext wr w1) : RsL W1 base A1 r c l k v w1 :=
 ⟨(e.block A1 (heap_lt h.h)).trans h.h, ownsRow_ext h.o e, fun q hq hn => (e.block q (Nat.lt_of_lt_of_le hq h.s.1)).trans (h.e q hq hn), ⟨Nat.le_trans h.s.1 e.size, e.os.trans h.s.2.1, e.tape.trans h.s.2.2.1, e.output.trans h.s.2.2.2⟩, h.n⟩
theorem RsL.skip {W1 wr : World} {base A1 k : Nat} {r c : Int} {l : List Rc} {v : Value} {s : Rc} (h : RsL W1 base A1 r c l k v wr) (hs : l[k]? = some s) (hc : s.can = false) : RsL W1 base A1 r c l (k + 1) v wr := by
 have e : (l.take (k + 1)).filter Rc.can = (l.take k).filter Rc.can := by rw [take_at hs, List.filter_append]; simp [hc]
 exact ⟨h.h, by rw [e]; exact h.o, h.e, h.s, h.n⟩
theorem RsL.step {W1 wr w1 w2 : World} {base A1 k nv : Nat} {r c : Int} {l : List Rc} {v v2 : Value} {s : Rc} (h : RsL W1 base A1 r c l k v wr) (hs : l[k]? = some s) (hc : s.can = true) (e1 : Ext wr w1) (hnv : nv = ((l.take k).filter Rc.can).length)
   (ho : w2.ownsRow base 32 4 v2 (nv + 1) (((l.take k).filter Rc.can ++ [s]).flatMap cR)) (hg : w1.grownBy w2 v.ownBlock) (hn : v2.ownBlock = v.ownBlock ∨ v2.ownBlock = some w1.heap.size) :
   (w2.cell? ⟨A1, 2, none⟩ = some v ∧ w2.frozen? ⟨A1, 2, none⟩ = false) ∧ RsL W1 base A1 r c l (k + 1) v2 (w2.setCell ⟨A1, 2, none⟩ v2) := by
 have h' := h.ext e1
 have hne : ∀ {u : Value} {W : World} {n : Nat} {xs : List Value}, W.ownsRow base 32 4 u n xs → W.heap[A1]? = some (.cells #[.int .i64 r, .int .i64 c, v] 60 (0, 0)) → u.ownBlock ≠ some A1 := fun ho hA e => by
   obtain ⟨_, cur, h5⟩ := own_heap ho e
   rw [hA] at h5
   cases h5
 have l2 : w2.heap[A1]? = some (.cells #[.int .i64 r, .int .i64 c, v] 60 (0, 0)) := (hg.block A1 (heap_lt h'.h) (fun e => hne h'.o h'.h e.symm)).trans h'.h
 have e : (l.take (k + 1)).filter Rc.can = (l.take k).filter Rc.can ++ [s] := by rw [take_at hs, List.filter_append]; simp [hc]
 refine ⟨⟨(cell_of_row w2 A1 2 _ _ _ l2).trans rfl, frozen_of_row w2 A1 2 _ _ l2⟩, ⟨Lib.heap_setCell_same l2 v2, ?_, fun q hq hqn => ?_, ?_, fun q hq => ?_⟩⟩
 · rw [e]
   have hl : ((l.take k).filter Rc.can ++ [s]).length = nv + 1 := by simp [hnv]
   rw [hl]
   exact own_keep ho (fun q hq _ => heap_setCell_other w2 ⟨A1, 2, none⟩ q v2 (fun e => hne ho l2 (by rw [hq, e])))
 · refine (heap_setCell_other w2 ⟨A1, 2, none⟩ q v2 hqn).trans ?_
   refine (hg.block q (Nat.lt_of_lt_of_le hq h'.s.1) (fun e => ?_)).trans (h'.e q hq hqn)
   have := h.n q e.symm
   omega
 · exact ⟨Nat.le_trans h'.s.1 (by simpa [World.setCell] using hg.size), hg.os.trans h'.s.2.1, hg.tape.trans h'.s.2.2.1, hg.output.trans h'.s.2.2.2⟩
 · rcases hn with hn | hn
   · exact h.n q (hn ▸ hq)
   · rw [hn] at hq
     cases hq
     exact h'.s.1
def neZ (a : Pl) (z : Zt) : Bool := z.e.1 != a
theorem neZ_map (a : Pl) (Z : List Zt) : (Z.filter (neZ a)).map (·.e) = delS (Z.map (·.e)) a := by
 unfold delS neZ
 rw [List.filter_map]
 rfl
theorem z3 {W : World} {p : Option Addr} {n cp : Nat} {Z : List Zt} (h : RdG cZ 3 W (.slice p n cp) Z) {i : Nat} {z : Zt} (hi : Z[i]? = some z) :
   ∃ b off, p = some ⟨b, off, none⟩ ∧ b < W.heap.size ∧ W.cell? ⟨b, off + i * 3, none⟩ = some (.int .i64 z.e.1.1) ∧ W.cell? ⟨b, off + i * 3 + 1, none⟩ = some (.int .i64 z.e.1.2) ∧ W.cell? ⟨b, off + i * 3 + 2, none⟩ = some z.v := by
 obtain ⟨b, off, h1, h2, h3⟩ := RdG.at h hi
 exact ⟨b, off, h1, h2, h3 0 _ rfl, h3 1 _ rfl, h3 2 _ rfl⟩
theorem rd_oneZ {W V : World} {z : Zt} {b : Nat} (hb : W.heap.size = b) (e : Ext (W.alloc (.cells #[.int .i64 z.e.1.1, .int .i64 z.e.1.2, z.v] 60)) V) : RdG cZ 3 V (.slice (some ⟨b, 0, none⟩) 1 1) [z] :=
 RdG.one (by rw [← hb]; exact Ext.top e) (fun j u h => by
   have hj : j < 3 := (List.getElem?_eq_some_iff.1 h).1
   match j, hj with
   | 0, _ => exact h
   | 1, _ => exact h
   | 2, _ => exact h)
/-- What the document's Set leaves. -/
def RsQ (W : World) (base bm : Nat) (τ : Sg) (a : Pl) (l : List Rc) (e : Ending) (w' : World) : Prop := e = .returned (.int .i64 (if pin a then 0 else 121)) ∧ RfD w' base bm (setS τ a l) ∧ W.grownBy w' (some bm)
/-- The document's cells that stay: k are through. -/
structure OuS (w1 : World) (A1 : Nat) (r c : Int) (Z : List Zt) (k : Nat) (vo : Value) (wr : World) : Prop where
 e : Ext w1 wr
 o : wr.ownsRow w1.heap.size 60 3 vo ((Z.take k).filter (neZ (r, c))).length (((Z.take k).filter (neZ (r, c))).flatMap cZ)
 h : wr.heap[A1]? = some (.cells #[.int .i64 r, .int .i64 c, .slice none 0 0] 60 (0, 0))
 n : vo.ownBlock ≠ some A1
theorem OuS.drew {w1 wr wq : World} {A1 k : Nat} {r c : Int} {Z : List Zt} {vo : Value} (h : OuS w1 A1 r c Z k vo wr) (e : Ext wr wq) : OuS w1 A1 r c Z k vo wq := ⟨h.e.trans e, ownsRow_ext h.o e, (e.block A1 (heap_lt h.h)).trans h.h, h.n⟩
theorem OuS.skip {w1 wr : World} {A1 k : Nat} {r c : Int} {Z : List Zt} {vo : Value} {z : Zt} (h : OuS w1 A1 r c Z k vo wr) (hz : Z[k]? = some z) (he : z.e.1 = (r, c)) : OuS w1 A1 r c Z (k + 1) vo wr := by
 have e : (Z.take (k + 1)).filter (neZ (r, c)) = (Z.take k).filter (neZ (r, c)) := by rw [take_at hz, List.filter_append]; simp [neZ, he]
 exact ⟨h.e, by rw [e]; exact h.o, h.h, h.n⟩
theorem OuS.add {w1 wr wq w9 : World} {A1 k : Nat} {r c : Int} {Z : List Zt} {vo v9 : Value} {z : Zt} (h : OuS w1 A1 r c Z k vo wr) (hz : Z[k]? = some z) (he : z.e.1 ≠ (r, c)) (e1 : Ext wr wq) (o : w9.ownsRow w1.heap.size 60 3 v9 (((Z.take k).filter (neZ (r, c))).length + 1) (((Z.take k).filter (neZ (r, c)) ++ [z]).flatMap cZ)) (e9 : Ext w1 w9) (g9 : wq.grownBy w9 vo.ownBlock) (n9 : v9.ownBlock = vo.ownBlock ∨ v9.ownBlock = some wq.heap.size) : OuS w1 A1 r c Z (k + 1) v9 w9 := by
 have e : (Z.take (k + 1)).filter (neZ (r, c)) = (Z.take k).filter (neZ (r, c)) ++ [z] := by rw [take_at hz, List.filter_append]; simp [neZ, he]
 have hq := (h.drew e1).h
 refine ⟨e9, by rw [e]; simpa using o, (g9.block A1 (heap_lt hq) (fun e => h.n e.symm)).trans hq, fun en => ?_⟩
 rcases n9 with n9 | n9
 · exact h.n (n9 ▸ en)
 · rw [n9] at en
   cases en
   have := heap_lt hq
   omega
theorem RsL.low {w1 wB wr : World} {base A1 k : Nat} {r c : Int} {l : List Rc} {v : Value} (h : RsL wB base A1 r c l k v wr) (e : Ext w1 wB) (hA : w1.heap.size ≤ A1) : Ext w1 wr :=
 ⟨h.s.2.1.trans e.os, h.s.2.2.1.trans e.tape, h.s.2.2.2.trans e.output, Nat.le_trans e.size h.s.1, fun q hq => (h.e q (Nat.lt_of_lt_of_le hq e.size) (by omega)).trans (e.block q hq)⟩
theorem zk1 {Z : List Zt} {k : Nat} {a : Pl} (h : Z.length ≤ 1000) : ((Z.take k).filter (neZ a)).length + 1 ≤ 1000000 := by
 have := List.length_filter_le (neZ a) (Z.take k)
 simp at this
 omega
set_option maxRecDepth 100000 in
theorem rset_any (W : World) (base bm : Nat) (τ : Sg) (r c : Int) (v : Value) (l : List Rc) (hb : base ≤ W.heap.size) (h : RfD W base bm τ) (hR : RdR W v l) (hl : l.length ≤ 1000) (ht : τ.length ≤ 1000) :
   Calls Try.prog 24 #[.pointer (some ⟨bm, 0, none⟩), .int .i64 r, .int .i64 c, v] W (RsQ W base bm τ (r, c) l) := by
 have c1 := fun W => rin_any r c W
 cases hp : inB r c
 · have hp' : pin (r, c) = false := hp
   have HQ : Hid (RsQ W base bm τ (r, c) l (.returned (.int .i64 121)) W) := by
     refine ⟨by rw [hp']; rfl, ?_, ⟨rfl, rfl, rfl, Nat.le_refl _, fun _ _ _ => rfl⟩⟩
     unfold setS
     rw [if_neg (by rw [hp']; simp)]
     exact h
   rw [hp] at c1
   clear h hR hp hp'
   go_enter Try.func24, Try.ntmps24
   go_wp2_with fail
   refine (c1 _).mono ?_
   rintro e w1 ⟨rfl, rfl⟩
   go_wp2_with fail
   go_ret
   exact HQ.out
 · have hp' : pin (r, c) = true := hp
   obtain ⟨vz, Z, z1, z2, z3', z4⟩ := h.r
   obtain ⟨pz, cz, rfl, _⟩ := own_form z2
   obtain ⟨p, cp, rfl, _⟩ := hR.form
   obtain ⟨zn, hzn⟩ : ∃ zn, Z.length = zn := ⟨_, rfl⟩
   obtain ⟨ln, hln⟩ : ∃ ln, l.length = ln := ⟨_, rfl⟩
   simp only [hzn] at z1 z2
   rw [hln] at hR ⊢
   have H : Hid (base ≤ W.heap.size ∧ (l.length = ln ∧ ln ≤ 1000) ∧ (Z.length = zn ∧ zn ≤ 1000) ∧ pin (r, c) = true ∧ base ≤ bm ∧ Z.map (·.e) = τ ∧ ∀ z ∈ Z, OwR W base z.v z.e.2) := ⟨hb, ⟨hln, by omega⟩, ⟨hzn, by rw [← z3', List.length_map] at ht; omega⟩, hp', h.bb, z3', z4⟩
   have HZ : Hid (W.heap[bm]? = some (.cells #[.slice pz zn cz] 50 (0, 0)) ∧ W.ownsRow base 60 3 (.slice pz zn cz) zn (Z.flatMap cZ)) := ⟨z1, z2⟩
   have HR : Hid (RdR W (.slice p ln cp) l) := hR
   have HC : Hid (∀ V, Ext W V → V.cell? ⟨bm, 0, none⟩ = some (.slice pz zn cz)) := fun V e => (e.cell.1 bm 0 (heap_lt z1)).trans ((cell_of_row W bm 0 _ _ _ z1).trans rfl)
   rw [hp] at c1
   clear h hR hp hp' z1 z2 z3' z4 hzn hln hb hl ht
   go_enter Try.func24, Try.ntmps24
   go_wp2_with fail
   refine (c1 _).mono ?_
   rintro e w1 ⟨rfl, rfl⟩
   clear c1
   go_wp2_with fail
   have hA1 : (w1.alloc (.cells #[] 60)).heap.size = w1.heap.size + 1 := by simp
   have HO0 : Hid (OuS w1 (w1.heap.size + 1) r c Z 0 (.slice (some ⟨w1.heap.size, 0, none⟩) 0 0) ((w1.alloc (.cells #[] 60)).alloc (.cells #[.int .i64 r, .int .i64 c, .slice none 0 0] 60))) := by
     refine ⟨((Ext.refl _).alloc _).alloc _, ?_, by rw [← hA1]; exact top_heap _ _, by simp [Value.ownBlock]⟩
     have := ownsRow_ext (own_new (T := 60) (k := 3) w1 w1 (Nat.le_refl _)) ((Ext.refl _).alloc (.cells #[.int .i64 r, .int .i64 c, .slice none 0 0] 60))
     simpa using this
   clear hA1
   go_loopw [9, 11] (fun vo x wr => ∃ k : Nat, x = .int .i64 (k : Int) ∧ k ≤ zn ∧ OuS w1 (w1.heap.size + 1) r c Z k vo wr) (fun _ x _ => zn - (intOf x).toNat)
   case atStart => exact ⟨0, rfl, Nat.zero_le _, HO0.out⟩
   case round =>
     clear HO0
     obtain ⟨k, rfl, hk, hS⟩ := hrel
     have HS : Hid (OuS w1 (w1.heap.size + 1) r c Z k u9 wr) := hS
     have bc := HC.out wr hS.e
     have wk := wrapI k (by have := H.out.2.2.1.2; omega)
     rcases Nat.lt_or_ge k zn with hlt | hge
     · have hltI : (k : Int) < (zn : Int) := by omega
       obtain ⟨z, hz⟩ : ∃ z, Z[k]? = some z := ⟨_, List.getElem?_eq_getElem (by rw [H.out.2.2.1.1]; exact hlt)⟩
       obtain ⟨b, off, rfl, bl, d1, d2, d3⟩ := z3 (own_rdG cZ_len (ownsRow_ext HZ.out.2 hS.e) H.out.2.2.1.1.symm) hz
       have g1 := (cell_of_row wr _ 0 _ _ _ hS.h).trans (rfl : (#[.int .i64 r, .int .i64 c, .slice none 0 0] : Array Value)[0]? = some (.int .i64 r))
       have g2 := (cell_of_row wr _ 1 _ _ _ hS.h).trans (rfl : (#[.int .i64 r, .int .i64 c, .slice none 0 0] : Array Value)[1]? = some (.int .i64 c))
       have HK : Hid (Z[k]? = some z) := hz
       have qE := eq_pl z.e.1.1 z.e.1.2 r c
       have qG := gd_pl
       clear hz hS
       go_upto_region 7 with fail
       cases he : (z.e.1.1 == r && z.e.1.2 == c)
       · have HN : Hid (z.e.1 ≠ (r, c)) := by
           show z.e.1 ≠ (r, c)
           intro h
           rw [h] at he
           simp at he
         rw [he] at qE
         clear he
         go_quiet (fail)
         have ov : ∃ pv nv cv, u9 = .slice pv nv cv := by obtain ⟨pv, cv, e, _⟩ := own_form HS.out.o; exact ⟨pv, _, cv, e⟩
         obtain ⟨pv, nv, cv, rfl⟩ := ov
         clear qE qG
         go_wp2_with (at_builtin; refine app_g eltC cZ_len cZ_one (by decide) _ w1 _ _ _ _ ((Z.take k).filter (neZ (r, c))).length 1 ((Z.take k).filter (neZ (r, c))) [z] w1.heap.size rfl rfl (by rfl) (by rfl) (ownsRow_ext HS.out.o (((Ext.refl _).alloc _).drewN _)) rfl (rd_oneZ rfl ((Ext.refl _).drewN _)) (zk1 (by have := H.out.2.2.1; omega)) ((HS.out.e.alloc _).drewN _) (Nat.le_refl _) (by have := (HS.out.e.alloc (.cells #[] 0)).size; simp at this ⊢; omega) ?_; intro v9 w9 O9 E9 G9 N9; have H9 : Hid _ := HS.out.add HK.out HN.out (((Ext.refl _).alloc _).drewN _) O9 E9 G9 N9; clear O9 E9 G9 N9)
         go_roundw
         case rel => exact ⟨k + 1, by rw [wk], hlt, H9.out⟩
         case measure => rw [wk]; simp [intOf]; omega
       · have HN : Hid (OuS w1 (w1.heap.size + 1) r c Z (k + 1) u9 wr) := by
           refine HS.out.skip HK.out ?_
           simp at he
           exact Prod.ext he.1 he.2
         rw [he] at qE
         clear he
         go_quiet (fail)
         go_wp2_with fail
         go_roundw
         case rel => exact ⟨k + 1, by rw [wk], hlt, HN.out.drew ((Ext.refl _).drewN _)⟩
         case measure => rw [wk]; simp [intOf]; omega
     · have hltI : ¬ (k : Int) < (zn : Int) := by omega
       rw [show OuS w1 (w1.heap.size + 1) r c Z k u9 wr = OuS w1 (w1.heap.size + 1) r c Z zn u9 wr by rw [show k = zn by omega]] at hS
       have HB : Hid (OuS w1 (w1.heap.size + 1) r c Z zn u9 wr) := hS
       have HL0 : Hid (RsL wr base (w1.heap.size + 1) r c l 0 (.slice none 0 0) wr) := ⟨hS.h, by simpa using own_nil wr base _ 4, fun _ _ _ => rfl, ⟨Nat.le_refl _, rfl, rfl, rfl⟩, fun q hq => by cases hq⟩
       clear hS HS
       go_wp2_with fail
       clear bc
       generalize wr = wB at *
       go_loopw [12] (fun x w2 => ∃ (j : Nat) (vL : Value), x = .int .i64 (j : Int) ∧ j ≤ ln ∧ RsL wB base (w1.heap.size + 1) r c l j vL w2) (fun x _ => ln - (intOf x).toNat)
       case atStart => exact ⟨0, _, rfl, Nat.zero_le _, HL0.out⟩
       case round =>
         clear HL0 wk hk hge hltI
         generalize k = kk at *
         obtain ⟨k, vL, rfl, hk, hL⟩ := hrel
         have hW := hL.low HB.out.e (Nat.le_succ _)
         obtain ⟨pv, cv, hf, -⟩ := own_form hL.o
         obtain ⟨nv, hnv⟩ : ∃ nv, ((l.take k).filter Rc.can).length = nv := ⟨_, rfl⟩
         rw [hnv] at hf
         subst hf
         have HL2 : Hid (RsL wB base (w1.heap.size + 1) r c l k (.slice pv nv cv) wr) := hL
         have HNL : Hid (nv = ((l.take k).filter Rc.can).length) := hnv.symm
         have HW : Hid (Ext w1 wr) := hW
         have wk := wrapI k (by have := H.out.2.1; omega)
         rcases Nat.lt_or_ge k ln with hlt | hge
         · have hltI2 : (k : Int) < (ln : Int) := Int.ofNat_lt.2 hlt
           obtain ⟨s, hs⟩ : ∃ s, l[k]? = some s := ⟨_, List.getElem?_eq_getElem (by rw [H.out.2.1.1]; exact hlt)⟩
           obtain ⟨b, off, rfl, bl, d1, d2, d3, d4⟩ := Rd4.cell (HR.out.ext hW) hs rfl
           have HK : Hid (l[k]? = some s) := hs
           have cC := fun W => rcan6_any s.p s.q s.u s.v W
           have hb1 : b < w1.heap.size := by
             obtain ⟨b', off', e', hb', _⟩ := Rd4.cell HR.out hs rfl
             cases e'
             exact hb'
           cases hc : canR s.p s.q s.u s.v
           · have HN : Hid (RsL wB base (w1.heap.size + 1) r c l (k + 1) (.slice pv nv cv) wr) := HL2.out.skip HK.out hc
             rw [hc] at cC
             clear hc hs hL hW hnv
             go_wp2_with fail
             refine (cC _).mono ?_
             rintro e w5 ⟨rfl, E5⟩
             have HN5 : Hid _ := HN.out.ext E5
             clear E5 cC d1 d2 d3 d4
             go_wp2_with fail
             go_roundw
             case rel => exact ⟨k + 1, _, by rw [wk], hlt, HN5.out⟩
             case measure => rw [wk]; simp [intOf]; omega
           · have HCN : Hid (s.can = true) := hc
             rw [hc] at cC
             have HNV : Hid (nv + 1 ≤ 1000000) := by
               have h1 := List.length_filter_le Rc.can (l.take k)
               have h2 := H.out.2.1
               simp only [List.length_take] at h1
               show _ ≤ _
               omega
             have BS : Hid (base ≤ wr.heap.size) := Nat.le_trans H.out.1 hW.size
             have OW : Hid (∀ V, Ext wr V → V.ownsRow base 32 4 (.slice pv nv cv) nv (((l.take k).filter Rc.can).flatMap cR)) := fun V e => by
               have := ownsRow_ext hL.o e
               rw [hnv] at this
               exact this
             have PS : Hid (∀ y w6, Ext wr y → y.grownBy w6 (Value.slice pv nv cv).ownBlock → (fun V => V.cell? ⟨w1.heap.size + 1, 2, none⟩ = some (.slice pv nv cv) ∧ V.cell? ⟨b, off + k * 4, none⟩ = some (.int .i64 s.p) ∧ V.cell? ⟨b, off + k * 4 + 1, none⟩ = some (.int .i64 s.q) ∧ V.cell? ⟨b, off + k * 4 + 2, none⟩ = some (.int .i64 s.u) ∧ V.cell? ⟨b, off + k * 4 + 3, none⟩ = some (.int .i64 s.v)) w6) := fun y w6 e G => by
               have hy := hL.ext e
               have nA : (Value.slice pv nv cv).ownBlock ≠ some (w1.heap.size + 1) := fun e' => by
                 obtain ⟨_, cur, h5⟩ := own_heap hy.o e'
                 rw [hy.h] at h5
                 cases h5
               have a1 := (G.block _ (heap_lt hy.h) (fun e' => nA e'.symm)).trans hy.h
               have hby : b < y.heap.size := Nat.lt_of_lt_of_le hb1 (hW.trans e).size
               have n1 := fun o => (cells_heap (G.block b hby (fun e' => by have := hL.n b e'.symm; have := HB.out.e.size; omega)) o).1
               have n2 := fun o => e.cell.1 b o bl
               exact ⟨(cell_of_row w6 _ 2 _ _ _ a1).trans rfl, (n1 _).trans ((n2 _).trans d1), (n1 _).trans ((n2 _).trans d2), (n1 _).trans ((n2 _).trans d3), (n1 _).trans ((n2 _).trans d4)⟩
             clear hc hs hL hW hnv
             go_wp2_with fail
             refine (cC _).mono ?_
             rintro e w5 ⟨rfl, E5⟩
             have E5 : Hid (Ext wr w5) := E5
             clear cC d1 d2 d3 d4
             go_upto_region 13 with fail
             refine bar_begin (B := fun i => i == 9) (S := fun V => V.cell? ⟨(w1.heap.size + 1), 2, none⟩ = some (.slice pv nv cv) ∧ V.cell? ⟨b, off + k * 4, none⟩ = some (.int .i64 s.p) ∧ V.cell? ⟨b, off + k * 4 + 1, none⟩ = some (.int .i64 s.q) ∧ V.cell? ⟨b, off + k * 4 + 2, none⟩ = some (.int .i64 s.u) ∧ V.cell? ⟨b, off + k * 4 + 3, none⟩ = some (.int .i64 s.v)) (by kernel_rfl) ?_
             obtain ⟨y0, hy0⟩ : ∃ y0, World.drew w5 = y0 := ⟨_, rfl⟩
             have EY : Hid (Ext wr y0) := by
               show Ext _ _
               rw [← hy0]
               exact E5.out.drew
             rw [hy0]
             clear hy0
             have mkS : Hid (∀ V, Ext y0 V → (fun V => V.cell? ⟨(w1.heap.size + 1), 2, none⟩ = some (.slice pv nv cv) ∧ V.cell? ⟨b, off + k * 4, none⟩ = some (.int .i64 s.p) ∧ V.cell? ⟨b, off + k * 4 + 1, none⟩ = some (.int .i64 s.q) ∧ V.cell? ⟨b, off + k * 4 + 2, none⟩ = some (.int .i64 s.u) ∧ V.cell? ⟨b, off + k * 4 + 3, none⟩ = some (.int .i64 s.v)) V) := fun V e => PS.out V V (EY.out.trans e) ⟨rfl, rfl, rfl, Nat.le_refl _, fun _ _ _ => rfl⟩
             have HOW : Hid (∀ V, Ext y0 V → V.ownsRow base 32 4 (.slice pv nv cv) nv (((l.take k).filter Rc.can).flatMap cR)) := fun V e => OW.out V (EY.out.trans e)
             have HBS : Hid (∀ V, Ext y0 V → base ≤ V.heap.size) := fun V e => Nat.le_trans BS.out (EY.out.trans e).size
             have HPS : Hid (∀ w2, (y0.alloc (.cells #[.int .i64 s.p, .int .i64 s.q, .int .i64 s.u, .int .i64 s.v] 32)).grownBy w2 (Value.slice pv nv cv).ownBlock → (fun V => V.cell? ⟨(w1.heap.size + 1), 2, none⟩ = some (.slice pv nv cv) ∧ V.cell? ⟨b, off + k * 4, none⟩ = some (.int .i64 s.p) ∧ V.cell? ⟨b, off + k * 4 + 1, none⟩ = some (.int .i64 s.q) ∧ V.cell? ⟨b, off + k * 4 + 2, none⟩ = some (.int .i64 s.u) ∧ V.cell? ⟨b, off + k * 4 + 3, none⟩ = some (.int .i64 s.v)) w2) := fun w2 G2 => PS.out _ w2 (EY.out.trans ((Ext.refl _).alloc _)) G2
             have hS0 := mkS.out y0 (Ext.refl _)
             refine barT_take (i := 0) (v := ?vz0) rfl (by kernel_rfl) (by kernel_rfl) (by kernel_rfl) (by kernel_rfl) (fun _ _ _ h => h) (Or.inl ⟨by rfl, ?hz0⟩) hS0 ?rz0
             case hz0 => (intro W9 hSW; (try dsimp only at hSW); first | (go_simp; done) | (go_simp; with_reducible rfl))
             try go_frame
             refine barT_take (i := 1) (v := ?vz1) rfl (by kernel_rfl) (by kernel_rfl) (by kernel_rfl) (by kernel_rfl) (fun _ _ _ h => h) (Or.inl ⟨by rfl, ?hz1⟩) hS0 ?rz1
             case hz1 => (intro W9 hSW; (try dsimp only at hSW); first | (go_simp; done) | (go_simp; with_reducible rfl))
             try go_frame
             refine barT_take (i := 2) (v := ?vz2) rfl (by kernel_rfl) (by kernel_rfl) (by kernel_rfl) (by kernel_rfl) (fun _ _ _ h => h) (Or.inl ⟨by rfl, ?hz2⟩) hS0 ?rz2
             case hz2 => (intro W9 hSW; (try dsimp only at hSW); first | (go_simp; done) | (go_simp; with_reducible rfl))
             try go_frame
             refine barT_take (i := 3) (v := ?vz3) rfl (by kernel_rfl) (by kernel_rfl) (by kernel_rfl) (by kernel_rfl) (fun _ _ _ h => h) (Or.inl ⟨by rfl, ?hz3⟩) hS0 ?rz3
             case hz3 => (intro W9 hSW; (try dsimp only at hSW); first | (go_simp; done) | (go_simp; with_reducible rfl))
             try go_frame
             refine barT_take (i := 4) (v := ?vz4) rfl (by kernel_rfl) (by kernel_rfl) (by kernel_rfl) (by kernel_rfl) (fun _ _ _ h => h) (Or.inl ⟨by rfl, ?hz4⟩) hS0 ?rz4
             case hz4 => (intro W9 hSW; (try dsimp only at hSW); first | (go_simp; done) | (go_simp; with_reducible rfl))
             try go_frame
             refine barT_take (i := 5) (v := ?vz5) rfl (by kernel_rfl) (by kernel_rfl) (by kernel_rfl) (by kernel_rfl) (fun _ _ _ h => h) (Or.inl ⟨by rfl, ?hz5⟩) hS0 ?rz5
             case hz5 => (intro W9 hSW; (try dsimp only at hSW); first | (go_simp; done) | (go_simp; with_reducible rfl))
             try go_frame
             refine barT_hold (i := 6) (by kernel_rfl) rfl (fun KK hKK => ?_)
             go_simp
             skip
             try go_wp2_with fail
             refine hKK.out _ _ ?_ (fun hS1 => ?_)
             · (try dsimp only); (first | exact HS2.out | (refine mkS.out _ ?_; ((with_reducible (repeat (first | assumption | exact Ext.refl _ | apply Ext.drew | apply Ext.drewN | apply Ext.alloc))); done)))
             clear hKK KK hS0
             try go_frame
             refine barT_hold (i := 7) (by kernel_rfl) rfl (fun KK hKK => ?_)
             refine step_app eltR cR_len cR_one (by decide) _ _ _ _ _ nv 1 _ ((l.take k).filter Rc.can) [s] base rfl rfl (by rfl) (by rfl) (HOW.out _ ((Ext.refl _).alloc _)) rfl (RdG.one (top_heap _ _) (rc_cells s)) HNV.out (HBS.out _ ((Ext.refl _).alloc _)) ?_; intro v2 w2 O2 G2 N2; obtain ⟨p2, c2, rfl, _⟩ := own_form O2; have H2 : Hid _ := RsL.step HL2.out HK.out HCN.out (EY.out.alloc _) HNL.out O2 G2 N2; have HS2 : Hid ((fun V => V.cell? ⟨(w1.heap.size + 1), 2, none⟩ = some (.slice pv nv cv) ∧ V.cell? ⟨b, off + k * 4, none⟩ = some (.int .i64 s.p) ∧ V.cell? ⟨b, off + k * 4 + 1, none⟩ = some (.int .i64 s.q) ∧ V.cell? ⟨b, off + k * 4 + 2, none⟩ = some (.int .i64 s.u) ∧ V.cell? ⟨b, off + k * 4 + 3, none⟩ = some (.int .i64 s.v)) w2) := HPS.out w2 G2; obtain ⟨f1, f2⟩ := H2.out.1; clear O2 G2 N2
             refine hKK.out _ _ ?_ (fun hS2 => ?_)
             · (try dsimp only); (first | exact HS2.out | (refine mkS.out _ ?_; ((with_reducible (repeat (first | assumption | exact Ext.refl _ | apply Ext.drew | apply Ext.drewN | apply Ext.alloc))); done)))
             clear hKK KK hS1
             try go_frame
             refine barT_take (i := 8) (v := ?vz8) rfl (by kernel_rfl) (by kernel_rfl) (by kernel_rfl) (by kernel_rfl) (fun _ _ _ h => h) (Or.inl ⟨by rfl, ?hz8⟩) hS2 ?rz8
             case hz8 => (intro W9 hSW; (try dsimp only at hSW); first | (go_simp; done) | (go_simp; with_reducible rfl))
             try go_frame
             refine barT_one (i := 9) (by kernel_rfl) rfl (fun KK hKK => ?_)
             go_simp
             skip
             try go_wp2_with fail
             refine hKK.out _ _ (fun h => absurd h (by decide)) ?_
             clear hKK KK
             try go_frame
             refine bar_done (by kernel_rfl) ?_ _
             go_wp2_with fail
             go_roundw
             case rel => exact ⟨k + 1, _, by rw [wk], hlt, H2.out.2⟩
             case measure => rw [wk]; simp [intOf]; omega
         · have hltI2 : ¬ (k : Int) < (ln : Int) := fun h => Nat.not_lt.2 hge (Int.ofNat_lt.1 h)
           have ek : l.take k = l := List.take_of_length_le (by rw [H.out.2.1.1]; exact hge)
           obtain ⟨po, co, ho, -⟩ := own_form HB.out.o
           obtain ⟨no, hno⟩ : ∃ no, ((Z.take zn).filter (neZ (r, c))).length = no := ⟨_, rfl⟩
           rw [hno] at ho
           subst ho
           have ez : Z.take zn = Z := List.take_of_length_le (by rw [H.out.2.2.1.1]; exact Nat.le_refl _)
           have g0 := (cell_of_row wr _ 0 _ _ _ hL.h).trans (rfl : (#[.int .i64 r, .int .i64 c, .slice pv nv cv] : Array Value)[0]? = some (.int .i64 r))
           have g1 := (cell_of_row wr _ 1 _ _ _ hL.h).trans (rfl : (#[.int .i64 r, .int .i64 c, .slice pv nv cv] : Array Value)[1]? = some (.int .i64 c))
           have g2 := (cell_of_row wr _ 2 _ _ _ hL.h).trans (rfl : (#[.int .i64 r, .int .i64 c, .slice pv nv cv] : Array Value)[2]? = some (.slice pv nv cv))
           have HOO : Hid (wr.ownsRow w1.heap.size 60 3 (.slice po no co) no ((Z.filter (neZ (r, c))).flatMap cZ)) := by
             have := HB.out.o
             rw [hno, ez] at this
             exact own_keep this (fun q hq hlt => hL.e q hlt (fun e => HB.out.n (by rw [hq, e])))
           have HVL : Hid (OwR wr base (.slice pv nv cv) (l.filter Rc.can)) := by
             have := hL.o
             rw [ek] at this
             exact this
           have HNO : Hid (no + 1 ≤ 1000000 ∧ (Z.filter (neZ (r, c))).length = no) := by
             have h1 := List.length_filter_le (neZ (r, c)) Z
             have h2 := H.out.2.2.1
             rw [ez] at hno
             exact ⟨by omega, hno⟩
           clear hL hW hno hnv ek
           go_wp2_with (at_builtin; refine app_g eltC cZ_len cZ_one (by decide) _ w1 _ _ _ _ no 1 (Z.filter (neZ (r, c))) [⟨((r, c), l.filter Rc.can), .slice pv nv cv, rfl⟩] w1.heap.size rfl rfl (by rfl) (by rfl) (ownsRow_ext HOO.out ((Ext.refl _).alloc _)) rfl (rd_oneZ (z := ⟨((r, c), l.filter Rc.can), .slice pv nv cv, rfl⟩) rfl (Ext.refl _)) HNO.out.1 (HW.out.alloc _) (Nat.le_refl _) (HW.out.alloc _).size ?_; intro v9 w9 O9 E9 G9 N9; obtain ⟨p9, c9, rfl, _⟩ := own_form O9; have H9 : Hid _ := And.intro O9 (And.intro E9 G9); have f1 := HC.out w9 E9; have f2 : w9.frozen? ⟨bm, 0, none⟩ = false := frozen_of_row w9 bm 0 _ _ ((E9.block bm (heap_lt HZ.out.1)).trans HZ.out.1); clear O9 E9 G9 N9)
           go_ret
           obtain ⟨O9, E9, G9⟩ := H9.out
           have b9 := (E9.block bm (heap_lt HZ.out.1)).trans HZ.out.1
           have hne9 : (Value.slice p9 (no + 1) c9).ownBlock ≠ some bm := fun e => by
             obtain ⟨_, cur, h5⟩ := own_heap O9 e
             rw [b9] at h5
             cases h5
           have far : ∀ (q : Nat) (cur : Array Value), w9.heap[q]? = some (Obj.cells cur 32 (0, 0)) → (w9.setCell ⟨bm, 0, none⟩ (.slice p9 (no + 1) c9)).heap[q]? = w9.heap[q]? := fun q cur hq => heap_setCell_other w9 ⟨bm, 0, none⟩ q _ (fun e => by rw [show q = bm from e, b9] at hq; cases hq)
           refine ⟨by rw [H.out.2.2.2.1]; rfl, ⟨H.out.2.2.2.2.1, .slice p9 (no + 1) c9, Z.filter (neZ (r, c)) ++ [⟨((r, c), l.filter Rc.can), .slice pv nv cv, rfl⟩], Lib.heap_setCell_same b9 _, ?_, ?_, fun z hz => ?_⟩, ?_⟩
           · have hl9 : (Z.filter (neZ (r, c)) ++ [(⟨((r, c), l.filter Rc.can), .slice pv nv cv, rfl⟩ : Zt)]).length = no + 1 := by simp [HNO.out.2]
             rw [hl9]
             exact ownsRow_mono (own_keep O9 (fun q hq _ => heap_setCell_other w9 ⟨bm, 0, none⟩ q _ (fun e => hne9 (by rw [hq, e])))) H.out.1
           · rw [List.map_append, neZ_map, H.out.2.2.2.2.2.1, set_is H.out.2.2.2.1]
             rfl
           · rcases List.mem_append.1 hz with hz | hz
             · have oz := ownsRow_ext (H.out.2.2.2.2.2.2 z (List.mem_filter.1 hz).1) E9
               exact own_keep oz (fun q hq _ => by
                 obtain ⟨_, cur, h5⟩ := own_heap oz hq
                 exact far q cur h5)
             · simp at hz
               subst hz
               have oz : OwR w9 base (.slice pv nv cv) (l.filter Rc.can) := own_keep (ownsRow_ext HVL.out ((Ext.refl _).alloc _)) (fun q hq hlt => G9.block q hlt (fun e => by
                 obtain ⟨_, cur, h5⟩ := own_heap HOO.out e.symm
                 obtain ⟨_, cur', h6⟩ := own_heap HVL.out hq
                 rw [h6] at h5
                 cases h5))
               exact own_keep oz (fun q hq _ => by
                 obtain ⟨_, cur, h5⟩ := own_heap oz hq
                 exact far q cur h5)
           · refine ⟨E9.os, E9.tape, E9.output, Nat.le_trans E9.size (by simp [World.setCell]), fun q hq hn => ?_⟩
             exact (heap_setCell_other w9 ⟨bm, 0, none⟩ q _ (fun e => hn (by rw [e]))).trans (E9.block q hq)
end Go.Proofs.Ytjpiphnbadggoaa

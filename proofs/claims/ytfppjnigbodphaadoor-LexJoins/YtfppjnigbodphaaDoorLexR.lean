/-
  The contract of package lex's read, whose deferred closure recovers the panic that tells the first fault.
-/
import Derived.Test.YtfppjnigbodphaaDoorLexD
import Derived.Test.YtfppjnigbodphaaDoorLexL
import Derived.Defers
import Derived.Recover
namespace Go.Proofs.YtfppjnigbodphaaDoor
open Go.RowKit
set_option maxHeartbeats 1000000

theorem catch_idle (p q : Addr) (w : World) :
    CallsD Tryd.prog 13 #[.pointer (some p), .pointer (some q)] .returning w fun e u' w' => e = .returned (.tuple #[]) ∧ u' = .returning ∧ w' = w := by
  refine callsD_of_wpS Tryd.func13 rfl fun c₀ cs hu => ?_
  apply wpS_seq
  apply wpS_region
  simp [wpOpsS, go_sem, recoverD, hu, Tryd.ntmps13, Exit.thenS]
  refine wpS_of_wp ?_
  simp only [Array.replicate_succ, Array.replicate_zero, List.push_toArray, List.append_toArray, List.nil_append, List.cons_append, List.setIfInBounds_toArray, List.set_cons_zero, List.set_cons_succ]
  go_wp2
  cases c₀
  simp_all [bodyPostS, results, Tryd.results13]
theorem assert_fault (x y : Int) (W : World) : (Instr.typeAssert (.iface 34 (.agg #[.int .i64 x, .int .i64 y])) 20 34 false).run Tryd.prog W = .ok (.agg #[.int .i64 x, .int .i64 y]) W := by kernel_rfl
/-- A panic that tells a fault: no words, and it. -/
theorem catch_fault (b f : Nat) (x y : Int) (v o0 o1 : Value) (w0 w : World) (hE : Ext w0 w) (hb : w0.heap.size ≤ b) (hf : w0.heap.size ≤ f) (hbf : b ≠ f) (c0 : w.cell? ⟨b, 0, none⟩ = some v) (z0 : w.frozen? ⟨b, 0, none⟩ = false) (c1 : w.cell? ⟨f, 0, none⟩ = some o0) (z1 : w.frozen? ⟨f, 0, none⟩ = false) (c2 : w.cell? ⟨f, 1, none⟩ = some o1) (z2 : w.frozen? ⟨f, 1, none⟩ = false) :
    CallsD Tryd.prog 13 #[.pointer (some ⟨b, 0, none⟩), .pointer (some ⟨f, 0, none⟩)] (.panicking [{ v := .iface 34 (.agg #[.int .i64 x, .int .i64 y]), recovered := false }]) w fun e u' w' => e = .returned (.tuple #[]) ∧ u' = .panicking [{ v := .iface 34 (.agg #[.int .i64 x, .int .i64 y]), recovered := true }] ∧ Ext w0 w' ∧ w'.cell? ⟨b, 0, none⟩ = some (.slice none 0 0) ∧ w'.cell? ⟨f, 0, none⟩ = some (.int .i64 x) ∧ w'.cell? ⟨f, 1, none⟩ = some (.int .i64 y) := by
  have HE : Hid (Ext w0 w) := hE
  have HB : Hid (w0.heap.size ≤ b ∧ w0.heap.size ≤ f) := ⟨hb, hf⟩
  have hfb : ¬ f = b := fun e => hbf e.symm
  clear hE hb hf
  have hta := assert_fault x y
  refine callsD_of_wpS Tryd.func13 rfl fun c₀ cs hu => ?_
  apply wpS_seq
  apply wpS_region
  simp [wpOpsS, go_sem, recoverD, hu, Tryd.ntmps13, Exit.thenS]
  refine wpS_of_wp ?_
  simp only [Array.replicate_succ, Array.replicate_zero, List.push_toArray, List.append_toArray, List.nil_append, List.cons_append, List.setIfInBounds_toArray, List.set_cons_zero, List.set_cons_succ]
  go_wp2
  go_region_with fail
  all_goals
    have e0 := World.cell?_setCell_same w ⟨b, 0, none⟩ (.slice none 0 0) (by rw [c0])
    have j1 : (w.setCell ⟨b, 0, none⟩ (.slice none 0 0)).cell? ⟨f, 0, none⟩ = some o0 := by rw [World.cell?_setCell_far _ _ _ _ hbf]; exact c1
    have e1 := World.cell?_setCell_same _ ⟨f, 0, none⟩ (.int .i64 x) (by rw [j1])
    have j2 : ((w.setCell ⟨b, 0, none⟩ (.slice none 0 0)).setCell ⟨f, 0, none⟩ (.int .i64 x)).cell? ⟨f, 1, none⟩ = some o1 := by
      rw [World.cell?_setCell_other _ _ _ _ (by simp), World.cell?_setCell_far _ _ _ _ hbf]; exact c2
    have e2 := World.cell?_setCell_same _ ⟨f, 1, none⟩ (.int .i64 y) (by rw [j2])
    refine ⟨rfl, _, rfl, .tuple #[], results_none rfl _ _ _, rfl, rfl, (((HE.out.setCell HB.out.1 _).setCell HB.out.2 _).setCell HB.out.2 _).drew, ?_, ?_, e2⟩
    · show (((w.setCell ⟨b, 0, none⟩ (.slice none 0 0)).setCell ⟨f, 0, none⟩ (.int .i64 x)).setCell ⟨f, 1, none⟩ (.int .i64 y)).cell? ⟨b, 0, none⟩ = _
      rw [World.cell?_setCell_far _ _ _ _ hfb, World.cell?_setCell_far _ _ _ _ hfb]; exact e0
    · show (((w.setCell ⟨b, 0, none⟩ (.slice none 0 0)).setCell ⟨f, 0, none⟩ (.int .i64 x)).setCell ⟨f, 1, none⟩ (.int .i64 y)).cell? ⟨f, 0, none⟩ = _
      rw [World.cell?_setCell_other _ _ _ _ (by simp)]; exact e1

/-- What read answers. -/
def ReadQ (w : World) (l : List UInt8) (e : Ending) (w' : World) : Prop :=
  match W 0 l with
  | .ok ts => ∃ v, e = .returned (.tuple #[v, .agg #[.int .i64 0, .int .i64 0]]) ∧ RdT w' v ts ∧ Ext w w'
  | .error x => e = .returned (.tuple #[.slice none 0 0, .agg #[.int .i64 (x.1 : Int), .int .i64 x.2]]) ∧ Ext w w'
/-- The world while words are read: those that were, the two results. -/
def St (w : World) (W : World) (v : Value) (acc : List Tk) : Prop := OwT W (w.heap.size + 2) v acc ∧ Ext w W ∧ w.heap.size + 2 ≤ W.heap.size ∧
  (W.cell? ⟨w.heap.size, 0, none⟩ = some v ∧ W.frozen? ⟨w.heap.size, 0, none⟩ = false) ∧
  (W.cell? ⟨w.heap.size + 1, 0, none⟩ = some (.int .i64 0) ∧ W.frozen? ⟨w.heap.size + 1, 0, none⟩ = false) ∧ W.cell? ⟨w.heap.size + 1, 1, none⟩ = some (.int .i64 0) ∧ W.frozen? ⟨w.heap.size + 1, 1, none⟩ = false
theorem St.ext {w W W' : World} {v : Value} {acc : List Tk} (h : St w W v acc) (e : Ext W W') : St w W' v acc := by
  obtain ⟨h1, h2, h3, ⟨a0, z0⟩, ⟨a1, z1⟩, a2, z2⟩ := h
  have k := e.cell
  exact ⟨h1.ext e, h2.trans e, Nat.le_trans h3 e.sz, ⟨(k.1 _ 0 (by omega)).trans a0, (k.2 _ 0 (by omega)).trans z0⟩, ⟨(k.1 _ 0 (by omega)).trans a1, (k.2 _ 0 (by omega)).trans z1⟩, (k.1 _ 1 (by omega)).trans a2, (k.2 _ 1 (by omega)).trans z2⟩
/-- A word more. -/
theorem St.more {w W W' : World} {v v' : Value} {acc : List Tk} {t : Tk} (h : St w W v acc) (k1 : OwT W' (w.heap.size + 2) v' (acc ++ [t])) (k2 : W.grownBy W' v.ownBlock) : St w (W'.setCell ⟨w.heap.size, 0, none⟩ v') v' (acc ++ [t]) := by
  obtain ⟨h1, h2, h3, ⟨a0, z0⟩, ⟨a1, z1⟩, a2, z2⟩ := h
  have c0 := grown_cell k2 (b := w.heap.size) (by omega) (h1.far (by omega)) 0
  have c1 := grown_cell k2 (b := w.heap.size + 1) (by omega) (h1.far (by omega)) 0
  have c2 := grown_cell k2 (b := w.heap.size + 1) (by omega) (h1.far (by omega)) 1
  have hs := k2.size
  refine ⟨k1.set (by simp) _, (grown_ext k2 h1 h2 (by omega)).setCell (Nat.le_refl _) _, by simp; omega, ⟨World.cell?_setCell_same _ _ _ (by rw [c0.1, a0]), ?_⟩, ⟨?_, ?_⟩, ?_, ?_⟩
  · rw [World.frozen?_setCell, c0.2, z0]
  · rw [World.cell?_setCell_far _ _ _ _ (by simp), c1.1, a1]
  · rw [World.frozen?_setCell, c1.2, z1]
  · rw [World.cell?_setCell_far _ _ _ _ (by simp), c2.1, a2]
  · rw [World.frozen?_setCell, c2.2, z2]

theorem blank_stop (l : List UInt8) (j : Nat) (h : run blB l = j) : ∀ h : j < l.length, ¬ l[j] = 32 := by
  intro h1 h2
  have := run_stop blB l l[j] (by rw [h]; exact List.getElem?_eq_getElem h1)
  rw [h2] at this; exact absurd this (by decide)
theorem map_nil {e : Type} (r : Except e (List Tk)) : r = r.map (fun ts => [] ++ ts) := by cases r <;> rfl
theorem W_at (l : List UInt8) (j : Nat) (h : j < l.length) (hc : ¬ l[j] = 32) : W j (l.drop j) = match nxt (l.drop j) with
    | .error e => .error (j, e)
    | .ok x => (W (j + x.2.2.2.2) (l.drop (j + x.2.2.2.2))).map (fun ts => tkOf x j :: ts) := by
  have e := W_cons j l[j] (l.drop (j + 1)) hc
  rw [← List.drop_eq_getElem_cons h] at e
  rw [e]
  cases nxt (l.drop j) with
  | error c => rfl
  | ok x => simp only [List.drop_drop]
theorem blank_next (l : List UInt8) (m j : Nat) (h : m + run blB (l.drop m) = j) : ∀ h : j < l.length, ¬ l[j] = 32 := by
  intro h1
  obtain ⟨n, rfl⟩ : ∃ n, j = m + n := ⟨j - m, by omega⟩
  have h2 := blank_stop (l.drop m) n (by omega) (by simp; omega)
  rwa [List.getElem_drop] at h2
theorem new_tk {W : World} {b : Nat} {t : Tk} {q : ByteArray} {T : TypeId} (hb : b = W.heap.size) (hq : bs t.2.2.1 = q) :
    ∀ j u, (flatT [t])[j]? = some u → (W.alloc (.cells #[.int .i64 t.1, .int .i64 t.2.1, .string q, .int .i64 t.2.2.2.1, .int .i64 t.2.2.2.2] T)).cell? ((⟨b, 0, none⟩ : Addr).add j) = some u := by
  subst hb hq
  intro j u hu
  rw [Addr.add_lit, cell_of_row _ _ _ _ _ (0, 0) (new_top W _), Nat.zero_add]
  rw [← hu, ← Array.getElem?_toList]; rfl
theorem read_any (s : ByteArray) (w : World) (hs : s.size ≤ 300) (hT : Tab7 w) :
    Calls Tryd.prog 11 #[.string s] w (ReadQ w s.data.toList) := by
  have hl := size_list s
  obtain ⟨l, hll⟩ : ∃ l, s.data.toList = l := ⟨_, rfl⟩
  have HL : Hid (l.length = s.size) := by show _ = _; rw [← hll]; exact hl
  have hmf : ∀ (fn : Fn) (first cap : Array Value) (w : World), (Instr.makeFunc fn first cap).run Tryd.prog w = .ok (.func fn first cap) w := fun _ _ _ _ => rfl
  have HT : Hid (Tab7 w) := hT
  have c0 := fun W => past_blank s 0 W (Nat.zero_le _) hs
  have cN := fun k W h h' => next_any s k W h hs h'
  have cP := fun k W h => past_blank s k W h hs
  have HN : Hid (∀ k W (h : k < s.size) (h' : Tab7 W), Calls Tryd.prog 16 #[.string s, .int .i64 (k : Int)] W fun e w' => NxR (nxt (l.drop k)) k e ∧ Ext W w') := by intro k W h h'; have := cN k W h h'; rwa [hll] at this
  have HP : Hid (∀ k W (h : k ≤ s.size), Calls Tryd.prog 14 #[.string s, .int .i64 (k : Int), .func (.func 15) #[] #[]] W fun e w' => e = .returned (.int .i64 ((k + run blB (l.drop k) : Nat) : Int)) ∧ w' = W) := by intro k W h; have := cP k W h; rwa [hll] at this
  rw [hll] at c0 ⊢
  rw [List.drop_zero, Nat.zero_add] at c0
  obtain ⟨j0, hj0⟩ : ∃ j0, run blB l = j0 := ⟨_, rfl⟩
  rw [hj0] at c0
  have HJ0 : Hid (run blB l = j0) := hj0
  clear hl hll hT cN cP hj0
  go_enter_defers Tryd.func11, Tryd.ntmps11
  go_wp2_with fail
  refine (c0 _).mono ?_
  rintro e w1 ⟨rfl, rfl⟩
  go_wp2_with fail
  go_loopw [4] (fun x wr => ∃ (j : Nat) (v : Value) (acc : List Tk), x = .int .i64 (j : Int) ∧ j ≤ s.size ∧ (∀ h : j < l.length, ¬ l[j] = 32) ∧ W 0 l = (W j (l.drop j)).map (fun ts => acc ++ ts) ∧ acc.length ≤ j ∧ St w wr v acc) (fun x _ => s.size - (intOf x).toNat)
  case atStart =>
    have h0 := HJ0.out
    have h1 := runL_le blB l
    have h2 := HL.out
    refine ⟨j0, .slice none 0 0, [], rfl, by omega, blank_stop l j0 h0, ?_, Nat.zero_le _, OwT.nil _ _, ((Ext.refl w).alloc _).alloc _, by simp, ⟨by simp [go_sem], by simp [go_sem]⟩, ⟨by simp [go_sem], by simp [go_sem]⟩, by simp [go_sem], by simp [go_sem]⟩
    rw [W_run 0 l, h0, Nat.zero_add]
    exact map_nil _
  case round =>
    obtain ⟨j, v, acc, rfl, hj, hb, hW, ha, hS⟩ := hrel
    have HB : Hid (∀ h : j < l.length, ¬ l[j] = 32) := hb
    have HW : Hid (W 0 l = (W j (l.drop j)).map (fun ts => acc ++ ts)) := hW
    have HA : Hid (acc.length ≤ j) := ha
    have HS : Hid (St w wr v acc) := hS
    clear hb hW ha hS
    by_cases hlt : j < s.size
    · have hltI : (j : Int) < (s.size : Int) := by omega
      have c1 := HN.out j wr hlt (HT.out.ext HS.out.2.1)
      cases hx : nxt (l.drop j) with
      | error c =>
        have HX : Hid (W 0 l = .error (j, c)) := by
          show _ = _; rw [HW.out, W_at l j (by have := HL.out; omega) (HB.out _), hx]; rfl
        have C : Calls Tryd.prog 16 #[.string s, .int .i64 (j : Int)] wr fun e w' => e = .panicked [{ v := .iface 34 (.agg #[.int .i64 (j : Int), .int .i64 c]), recovered := false }] ∧ Ext wr w' := by rw [hx] at c1; exact c1
        clear hx c1
        go_wp2_with fail
        refine C.mono ?_
        rintro e w1 ⟨rfl, E1⟩
        obtain ⟨h1, h2, h3, ⟨a0, z0⟩, ⟨a1, z1⟩, a2, z2⟩ := HS.out.ext E1
        refine leaves_cons (f := 13) (args := #[.pointer (some ⟨w.heap.size, 0, none⟩), .pointer (some ⟨w.heap.size + 1, 0, none⟩)]) (by simp) (by simp [go_sem]) ?_
        refine (catch_fault w.heap.size (w.heap.size + 1) _ _ _ _ _ w w1 h2 (Nat.le_refl _) (by omega) (by omega) a0 z0 a1 z1 a2 z2).mono ?_
        rintro e u' w2 ⟨rfl, rfl, E2, d0, d1, d2⟩
        simp [Leaves, settle, results, Tryd.results11, go_sem, d0, d1, d2]
        unfold ReadQ
        rw [HX.out]
        exact ⟨rfl, E2⟩
      | ok x =>
        have hpos := nxt_pos hx
        have HX : Hid (W 0 l = (W (j + x.2.2.2.2) (l.drop (j + x.2.2.2.2))).map (fun ts => acc ++ [tkOf x j] ++ ts)) := by
          show _ = _
          rw [HW.out, W_at l j (by have := HL.out; omega) (HB.out _), hx]
          simp only []
          cases W (j + x.2.2.2.2) (l.drop (j + x.2.2.2.2)) <;> simp [Except.map]
        have hmS : j + x.2.2.2.2 ≤ s.size := by have := hpos.2; have := HL.out; simp at *; omega
        have hmJ : 1 ≤ x.2.2.2.2 := hpos.1
        have C : Calls Tryd.prog 16 #[.string s, .int .i64 (j : Int)] wr fun e w' => e = .returned (.tuple #[.agg #[.int .i64 x.1, .int .i64 0, .string (bs x.2.1), .int .i64 x.2.2.1, .int .i64 x.2.2.2.1], .int .i64 ((j + x.2.2.2.2 : Nat) : Int)]) ∧ Ext wr w' := by rw [hx] at c1; exact c1
        have c2 := fun W => HP.out (j + x.2.2.2.2) W hmS
        obtain ⟨x0, x1, x2, x3, x4⟩ := x
        simp only [] at C HX c2 hmS hmJ
        obtain ⟨m, hm⟩ : ∃ m, j + x4 = m := ⟨_, rfl⟩
        obtain ⟨q1, hq1⟩ : ∃ q1, bs x1 = q1 := ⟨_, rfl⟩
        rw [hm] at C HX c2 hmS
        rw [hq1] at C
        obtain ⟨j2, hj2⟩ : ∃ j2, m + run blB (l.drop m) = j2 := ⟨_, rfl⟩
        rw [hj2] at c2
        have HJ : Hid (j < m ∧ m + run blB (l.drop m) = j2) := ⟨by omega, hj2⟩
        have HQ : Hid (bs x1 = q1) := hq1
        have hA : acc.length ≤ 100000 := by have := HA.out; omega
        have HA2 : Hid (acc.length ≤ 100000) := hA
        clear hx c1 hpos hm hq1 hj2 hmJ hA
        go_wp2_with fail
        refine C.mono ?_
        rintro e w1 ⟨rfl, E1⟩
        have hS1 := HS.out.ext E1
        have HS1 : Hid (St w w1 v acc) := hS1
        obtain ⟨h1, h2, h3, ⟨a0, z0⟩, ⟨a1, z1⟩, a2, z2⟩ := hS1
        have s1 : w.heap.size < w1.heap.size := by omega
        clear h1 h2 E1
        go_wp2_with (at_builtin; refine tk_append _ (w.heap.size + 2) _ _ _ _ acc (x0, (j : Int), x1, x2, x3) rfl rfl (by rfl) (by rfl) (HS1.out.1.ext (((Ext.refl _).alloc _).alloc _)) ?cR HA2.out (by simp; omega) ?_)
        case cR => exact new_tk (by simp) HQ.out
        intro v' w2 k1 k2 g cap hv
        have hS2 := St.more (HS1.out.ext (((Ext.refl _).alloc _).alloc _)) k1 k2
        have d0 := grown_cell k2 (b := w.heap.size) (by simp; omega) (HS1.out.1.far (by omega)) 0
        have d1 : w2.cell? ⟨w.heap.size, 0, none⟩ = some v := by rw [d0.1]; exact (HS1.out.ext (((Ext.refl _).alloc _).alloc _)).2.2.2.1.1
        have d2 : w2.frozen? ⟨w.heap.size, 0, none⟩ = false := by rw [d0.2]; exact (HS1.out.ext (((Ext.refl _).alloc _).alloc _)).2.2.2.1.2
        have HS2 : Hid (St w (w2.setCell ⟨w.heap.size, 0, none⟩ v') v' (acc ++ [(x0, (j : Int), x1, x2, x3)])) := hS2
        clear hS2 d0 k1 k2 a0 z0 a1 z1 a2 z2 h3 s1
        subst hv
        go_wp2_with fail
        refine (c2 _).mono ?_
        rintro e w3 ⟨rfl, rfl⟩
        go_wp2_with fail
        go_roundw
        case rel =>
          have h4 := HJ.out
          have h5 := runL_le blB (l.drop m)
          have h6 := HL.out
          have h7 := HA.out
          simp at h5
          refine ⟨j2, _, acc ++ [(x0, (j : Int), x1, x2, x3)], rfl, by omega, blank_next l m j2 h4.2, ?_, by simp; omega, HS2.out⟩
          rw [HX.out, W_run m (l.drop m), h4.2, List.drop_drop, h4.2]; rfl
        case measure => have h4 := HJ.out; show s.size - ((j2 : Int)).toNat < s.size - ((j : Int)).toNat; omega
    · have hltI : ¬ (j : Int) < (s.size : Int) := by omega
      have HX : Hid (W 0 l = .ok (acc ++ [endT j])) := by
        show _ = _; rw [HW.out, List.drop_eq_nil_of_le (by have := HL.out; omega), W_nil]; rfl
      have hA : acc.length ≤ 100000 := by have := HA.out; omega
      have HA2 : Hid (acc.length ≤ 100000) := hA
      clear hA
      have hS := HS.out
      obtain ⟨h1, h2, h3, ⟨a0, z0⟩, ⟨a1, z1⟩, a2, z2⟩ := hS
      clear h1 h2
      go_wp2_with (at_builtin; refine tk_append _ (w.heap.size + 2) _ _ _ _ acc (endT j) rfl rfl (by rfl) (by rfl) (HS.out.1.ext ((Ext.refl _).alloc _)) ?cR HA2.out (by simp; omega) ?_)
      case cR => exact fun _ _ h => h
      intro v' w2 k1 k2 g cap hv
      have hS2 := St.more (HS.out.ext ((Ext.refl _).alloc _)) k1 k2
      have d0 := grown_cell k2 (b := w.heap.size) (by simp; omega) (HS.out.1.far (by omega)) 0
      have d1 : w2.cell? ⟨w.heap.size, 0, none⟩ = some v := by rw [d0.1]; exact (HS.out.ext ((Ext.refl _).alloc _)).2.2.2.1.1
      have d2 : w2.frozen? ⟨w.heap.size, 0, none⟩ = false := by rw [d0.2]; exact (HS.out.ext ((Ext.refl _).alloc _)).2.2.2.1.2
      have HS2 : Hid (St w (w2.setCell ⟨w.heap.size, 0, none⟩ v') v' (acc ++ [endT j])) := hS2
      obtain ⟨e1, e2, e3, ⟨b0, y0⟩, ⟨b1, y1⟩, b2, y2⟩ := hS2
      clear d0 k1 k2 a0 z0 a1 z1 a2 z2 h3 e1 e2 e3
      subst hv
      go_wp2_with fail
      have hO := HS2.out.1
      have hX := HS2.out.2.1
      clear HS2 d1 d2
      generalize Value.slice (some ⟨g, 0, none⟩) (acc.length + 1) cap = v' at *
      generalize w2.setCell ⟨w.heap.size, 0, none⟩ v' = w3 at *
      have g1 := World.cell?_setCell_same w3 ⟨w.heap.size + 1, 0, none⟩ (.int .i64 0) (by rw [b1])
      have j2 : (w3.setCell ⟨w.heap.size + 1, 0, none⟩ (.int .i64 0)).cell? ⟨w.heap.size + 1, 1, none⟩ = some (.int .i64 0) := by rw [World.cell?_setCell_other _ _ _ _ (by simp)]; exact b2
      have g2 := World.cell?_setCell_same _ ⟨w.heap.size + 1, 1, none⟩ (.int .i64 0) (by rw [j2])
      have g1' : ((w3.setCell ⟨w.heap.size + 1, 0, none⟩ (.int .i64 0)).setCell ⟨w.heap.size + 1, 1, none⟩ (.int .i64 0)).cell? ⟨w.heap.size + 1, 0, none⟩ = some (.int .i64 0) := by rw [World.cell?_setCell_other _ _ _ _ (by simp)]; exact g1
      have g0 : ((w3.setCell ⟨w.heap.size + 1, 0, none⟩ (.int .i64 0)).setCell ⟨w.heap.size + 1, 1, none⟩ (.int .i64 0)).cell? ⟨w.heap.size, 0, none⟩ = some v' := by
        rw [World.cell?_setCell_far _ _ _ _ (by simp), World.cell?_setCell_far _ _ _ _ (by simp)]; exact b0
      have hO2 := (hO.set (p := ⟨w.heap.size + 1, 0, none⟩) (by simp) (.int .i64 0)).set (p := ⟨w.heap.size + 1, 1, none⟩) (by simp) (.int .i64 0)
      have hX2 := (hX.setCell (p := ⟨w.heap.size + 1, 0, none⟩) (by simp) (.int .i64 0)).setCell (p := ⟨w.heap.size + 1, 1, none⟩) (by simp) (.int .i64 0)
      generalize (w3.setCell ⟨w.heap.size + 1, 0, none⟩ (.int .i64 0)).setCell ⟨w.heap.size + 1, 1, none⟩ (.int .i64 0) = w4 at *
      refine leaves_cons (f := 13) (args := #[.pointer (some ⟨w.heap.size, 0, none⟩), .pointer (some ⟨w.heap.size + 1, 0, none⟩)]) (by simp) (by simp [go_sem]) ?_
      refine (catch_idle ⟨w.heap.size, 0, none⟩ ⟨w.heap.size + 1, 0, none⟩ w4).mono ?_
      rintro e u' w5 ⟨rfl, rfl, rfl⟩
      simp [Leaves, settle, results, Tryd.results11, go_sem, g0, g1', g2]
      unfold ReadQ
      rw [HX.out]
      exact ⟨_, rfl, hO2.rd, hX2⟩
end Go.Proofs.YtfppjnigbodphaaDoor

/-
  The printer writes trees: tree itself: ranges.
  A struct of 2 fields in a block of its own: laid, kept, stored; the end of a function whose result lies in one.
  The contracts of the reader's small steps: here, isSign, take, pass.
-/
import Derived.Test.YtdjniiginnlmhaaGreatDoorQ15
import Derived.Test.YtdjniiginnlmhaaGreatDoorQ1
import Derived.Test.YtdjniiginnlmhaaGreatDoorQ11
namespace Go.Proofs.YtdjniiginnlmhaaGreatDoor
open Go.RowKit
set_option maxHeartbeats 6000000

set_option maxRecDepth 100000 in
theorem tree_range (n : Nat) (t : T) (hk : t.k = 5) (hW : Wf t) : PTr (n + 1) t := by
  intro w0 W b l pp ln cl hTab hBu hL hlen
  have e0 : (t.k == 0) = false := by rw [hk]; rfl
  have e1 : (t.k == 1) = false := by rw [hk]; rfl
  have e2 : (t.k == 2) = false := by rw [hk]; rfl
  have e3 : (t.k == 3) = false := by rw [hk]; rfl
  have e4 : (t.k == 4) = false := by rw [hk]; rfl
  have e5 : (t.k == 5) = true := by rw [hk]; rfl
  have HX : Hid (shT (n + 1) t = rfL t.r ++ 58 :: rfL t.q) := by show _ = _; unfold shT; simp [hk]
  have HB : Hid (Bu w0 b l W) := hBu
  have HT : Hid (Tab9 w0) := hTab
  have HN : Hid (l.length ≤ 90000000) := by have := szT_pos (n + 1) t; show _ ≤ _; omega
  have HW : Hid (Wf t) := hW
  have c1 := fun W h => cprint_any t.r.1 t.r.2.1 t.r.2.2.1 t.r.2.2.2 (by have := HW.out; cases this; assumption) (by have := HW.out; cases this; assumption) W h
  have HS1 : Hid ((bs (rfL t.r)).size ≤ 8 ∧ (bs (rfL t.r)).data.toList = rfL t.r) := ⟨by rw [bs_size]; exact rfL_len _, rfl⟩
  rw [show (⟨(printR t.r.1 t.r.2.1 t.r.2.2.1 t.r.2.2.2).toArray⟩ : ByteArray) = bs (rfL t.r) from rfl] at c1
  generalize bs (rfL t.r) = q at *
  have c2 := fun W h => cprint_any t.q.1 t.q.2.1 t.q.2.2.1 t.q.2.2.2 (by have := HW.out; cases this; assumption) (by have := HW.out; cases this; assumption) W h
  have HS2 : Hid ((bs (rfL t.q)).size ≤ 8 ∧ (bs (rfL t.q)).data.toList = rfL t.q) := ⟨by rw [bs_size]; exact rfL_len _, rfl⟩
  rw [show (⟨(printR t.q.1 t.q.2.1 t.q.2.2.1 t.q.2.2.2).toArray⟩ : ByteArray) = bs (rfL t.q) from rfl] at c2
  generalize bs (rfL t.q) = q2 at *
  have z1 := HS1.out.1
  have z2 := HS2.out.1
  have s1 : (⟨#[58]⟩ : ByteArray).size = 1 := rfl
  have s2 : (q ++ (⟨#[58]⟩ : ByteArray)).size = q.size + 1 := by rw [ByteArray.size_append, s1]
  have HS : Hid ((q ++ (⟨#[58]⟩ : ByteArray) ++ q2).size ≤ 17 ∧ (q ++ (⟨#[58]⟩ : ByteArray) ++ q2).data.toList = rfL t.r ++ 58 :: rfL t.q) := by
    refine ⟨?_, ?_⟩
    · rw [ByteArray.size_append, s2]; omega
    · rw [app_list, app_list, HS1.out.2, HS2.out.2]; simp
  clear hTab hBu hL hlen hW hk
  go_enter Tryz.func26, Tryz.ntmps26
  go_wp2_with fail
  have HB1 : Hid (Bu w0 b l (W.alloc (.cells #[.int .i64 t.k, .int .i64 t.n, .string (bs t.s), .int .i64 t.e, .int .i64 t.r.1, .int .i64 t.r.2.1, .bool t.r.2.2.1, .bool t.r.2.2.2, .int .i64 t.q.1, .int .i64 t.q.2.1, .bool t.q.2.2.1, .bool t.q.2.2.2, .slice pp ln cl] 26)) ∧ Ext W (W.alloc (.cells #[.int .i64 t.k, .int .i64 t.n, .string (bs t.s), .int .i64 t.e, .int .i64 t.r.1, .int .i64 t.r.2.1, .bool t.r.2.2.1, .bool t.r.2.2.2, .int .i64 t.q.1, .int .i64 t.q.2.1, .bool t.q.2.2.1, .bool t.q.2.2.2, .slice pp ln cl] 26))) := ⟨HB.out.ext ((Ext.refl _).alloc _), (Ext.refl _).alloc _⟩
  obtain ⟨qz, ⟨k0, k1, k2, k3, k4, k5, k6, k7, k8, k9, k10, k11, k12⟩, gz⟩ := blk13_top (b := W.heap.size) rfl (Ext.refl (W.alloc (.cells #[.int .i64 t.k, .int .i64 t.n, .string (bs t.s), .int .i64 t.e, .int .i64 t.r.1, .int .i64 t.r.2.1, .bool t.r.2.2.1, .bool t.r.2.2.2, .int .i64 t.q.1, .int .i64 t.q.2.1, .bool t.q.2.2.1, .bool t.q.2.2.2, .slice pp ln cl] 26)))
  clear gz
  generalize W.alloc (.cells #[.int .i64 t.k, .int .i64 t.n, .string (bs t.s), .int .i64 t.e, .int .i64 t.r.1, .int .i64 t.r.2.1, .bool t.r.2.2.1, .bool t.r.2.2.2, .int .i64 t.q.1, .int .i64 t.q.2.1, .bool t.q.2.2.1, .bool t.q.2.2.2, .slice pp ln cl] 26) = W1 at *
  have C1 : Hid (∀ V, Ext W1 V → Calls Tryz.prog 63 #[.agg #[.int .i64 t.r.1, .int .i64 t.r.2.1, .bool t.r.2.2.1, .bool t.r.2.2.2]] V fun e w' => e = .returned (.string q) ∧ Ext V w') := fun V e => c1 V (HT.out.1.ext (HB1.out.1.1.trans e))
  have C2 : Hid (∀ V, Ext W1 V → Calls Tryz.prog 63 #[.agg #[.int .i64 t.q.1, .int .i64 t.q.2.1, .bool t.q.2.2.1, .bool t.q.2.2.2]] V fun e w' => e = .returned (.string q2) ∧ Ext V w') := fun V e => c2 V (HT.out.1.ext (HB1.out.1.1.trans e))
  have CL : Hid (∀ V, Ext W1 V → V.cell? ⟨W.heap.size, 4, none⟩ = some (.int .i64 t.r.1) ∧ V.cell? ⟨W.heap.size, 5, none⟩ = some (.int .i64 t.r.2.1) ∧ V.cell? ⟨W.heap.size, 6, none⟩ = some (.bool t.r.2.2.1) ∧ V.cell? ⟨W.heap.size, 7, none⟩ = some (.bool t.r.2.2.2) ∧ V.cell? ⟨W.heap.size, 8, none⟩ = some (.int .i64 t.q.1) ∧ V.cell? ⟨W.heap.size, 9, none⟩ = some (.int .i64 t.q.2.1) ∧ V.cell? ⟨W.heap.size, 10, none⟩ = some (.bool t.q.2.2.1) ∧ V.cell? ⟨W.heap.size, 11, none⟩ = some (.bool t.q.2.2.2)) := fun V e => ⟨(e.cell.1 _ _ qz).trans k4, (e.cell.1 _ _ qz).trans k5, (e.cell.1 _ _ qz).trans k6, (e.cell.1 _ _ qz).trans k7, (e.cell.1 _ _ qz).trans k8, (e.cell.1 _ _ qz).trans k9, (e.cell.1 _ _ qz).trans k10, (e.cell.1 _ _ qz).trans k11⟩
  clear c1 c2
  have C9 : Hid (∀ V, Ext W1 V → Calls Tryz.prog 58 #[.pointer (some ⟨b, 0, none⟩), .string (q ++ ⟨#[58]⟩ ++ q2)] V fun e w' => e = .returned (.tuple #[.int .i64 ((q ++ ⟨#[58]⟩ ++ q2)).size, .nilIface]) ∧ Bu w0 b (l ++ shT (n + 1) t) w' ∧ Ok9 b V w') := fun V e => by rw [HX.out, ← HS.out.2]; exact pstr_any w0 b l _ V (HB1.out.1.ext e) (by have := HN.out; omega) (by have := HS.out.1; omega)
  go_region_with (first | (go_at_call_of 63 (Value.int .i64 t.r.1); refine (C1.out _ (by with_reducible repeat (first | assumption | exact Ext.refl _ | apply Ext.drew | apply Ext.drewN))).mono ?_; rintro e w5 ⟨rfl, E5⟩; have X5 : Ext W1 w5 := Ext.trans (by with_reducible repeat (first | assumption | exact Ext.refl _ | apply Ext.drew | apply Ext.drewN)) E5; obtain ⟨y4, y5, y6, y7, y8, y9, y10, y11⟩ := CL.out w5 X5) | (go_at_call_of 63 (Value.int .i64 t.q.1); refine (C2.out _ (by with_reducible repeat (first | assumption | exact Ext.refl _ | apply Ext.drew | apply Ext.drewN))).mono ?_; rintro e w6 ⟨rfl, E6⟩; have X6 : Ext W1 w6 := Ext.trans (by with_reducible repeat (first | assumption | exact Ext.refl _ | apply Ext.drew | apply Ext.drewN)) E6; obtain ⟨v4, v5, v6, v7, v8, v9, v10, v11⟩ := CL.out w6 X6) | (go_at_call 58; refine (C9.out _ (by with_reducible repeat (first | assumption | exact Ext.refl _ | apply Ext.drew | apply Ext.drewN))).mono ?_; rintro e w9 ⟨rfl, B9, K9⟩; have HB9 : Hid (Bu w0 b (l ++ shT (n + 1) t) w9 ∧ Ok9 b W w9) := ⟨B9, (Ok9.trans (HB1.out.2.toK b) (Ext.toK (by with_reducible repeat (first | assumption | exact Ext.refl _ | apply Ext.drew | apply Ext.drewN)) b)).trans K9⟩; clear B9 K9))
  all_goals
    go_wp2_with fail
    go_end0
    exact ⟨rfl, HB9.out.1, HB9.out.2⟩
end Go.Proofs.YtdjniiginnlmhaaGreatDoor

namespace Go.Proofs.YtdjniiginnlmhaaGreatDoor
open Go.RowKit
set_option maxHeartbeats 1000000

def Blk2 (W : World) (b : Nat) (x0 x1 : Value) : Prop := b < W.heap.size ∧
  (W.cell? ⟨b, 0, none⟩ = some x0 ∧ W.cell? ⟨b, 1, none⟩ = some x1) ∧
  (W.frozen? ⟨b, 0, none⟩ = false ∧ W.frozen? ⟨b, 1, none⟩ = false)
theorem blk2_top {w w1 : World} {x0 x1 : Value} {T : TypeId} {b : Nat} (hb : b = w.heap.size) (E : Ext (w.alloc (.cells #[x0, x1] T)) w1) : Blk2 w1 b x0 x1 := by
  subst hb
  have hs : w.heap.size < (w.alloc (.cells #[x0, x1] T)).heap.size := by simp
  have k := fun o => E.cell.1 w.heap.size o hs
  have f := fun o => E.cell.2 w.heap.size o hs
  refine ⟨Nat.lt_of_lt_of_le hs E.sz, ⟨(k 0).trans ?_, (k 1).trans ?_⟩, (f 0).trans ?_, (f 1).trans ?_⟩
  all_goals simp [go_sem]
theorem Blk2.ext {w w' : World} {b : Nat} {x0 x1 : Value} (h : Blk2 w b x0 x1) (e : Ext w w') : Blk2 w' b x0 x1 := by
  obtain ⟨z, ⟨k0, k1⟩, f0, f1⟩ := h
  have k := fun o => e.cell.1 b o z
  have f := fun o => e.cell.2 b o z
  exact ⟨Nat.lt_of_lt_of_le z e.sz, ⟨(k 0).trans k0, (k 1).trans k1⟩, (f 0).trans f0, (f 1).trans f1⟩
theorem Blk2.far1 {w : World} {b c : Nat} {x0 x1 : Value} (h : Blk2 w b x0 x1) (hc : c ≠ b) (o : Nat) (v : Value) : Blk2 (w.setCell ⟨c, o, none⟩ v) b x0 x1 := by
  obtain ⟨z, ⟨k0, k1⟩, f0, f1⟩ := h
  refine ⟨by simpa [World.setCell] using z, ⟨?_, ?_⟩, ?_, ?_⟩
  · rw [World.cell?_setCell_far _ _ _ _ hc]; exact k0
  · rw [World.cell?_setCell_far _ _ _ _ hc]; exact k1
  · rw [World.frozen?_setCell]; exact f0
  · rw [World.frozen?_setCell]; exact f1
theorem Blk2.far {w : World} {b c : Nat} {x0 x1 : Value} (h : Blk2 w b x0 x1) (hc : c ≠ b) (y0 y1 : Value) :
    Blk2 ((w.setCell ⟨c, 0, none⟩ y0).setCell ⟨c, 1, none⟩ y1) b x0 x1 := ((h.far1 hc _ _).far1 hc _ _)
theorem Blk2.put0 {w : World} {b : Nat} {x0 x1 : Value} (h : Blk2 w b x0 x1) (v : Value) : Blk2 (w.setCell ⟨b, 0, none⟩ v) b v x1 := by
  obtain ⟨z, ⟨k0, k1⟩, f0, f1⟩ := h
  have e := World.cell?_setCell_same w ⟨b, 0, none⟩ v (by rw [k0])
  refine ⟨by simpa [World.setCell] using z, ⟨e, ?_⟩, ?_, ?_⟩
  · rw [World.cell?_setCell_other _ _ _ _ (by simp)]; exact k1
  · rw [World.frozen?_setCell]; exact f0
  · rw [World.frozen?_setCell]; exact f1
theorem Blk2.put1 {w : World} {b : Nat} {x0 x1 : Value} (h : Blk2 w b x0 x1) (v : Value) : Blk2 (w.setCell ⟨b, 1, none⟩ v) b x0 v := by
  obtain ⟨z, ⟨k0, k1⟩, f0, f1⟩ := h
  have e := World.cell?_setCell_same w ⟨b, 1, none⟩ v (by rw [k1])
  refine ⟨by simpa [World.setCell] using z, ⟨?_, e⟩, ?_, ?_⟩
  · rw [World.cell?_setCell_other _ _ _ _ (by simp)]; exact k0
  · rw [World.frozen?_setCell]; exact f0
  · rw [World.frozen?_setCell]; exact f1
theorem Blk2.set {w : World} {b : Nat} {o0 o1 : Value} (h : Blk2 w b o0 o1) (x0 x1 : Value) :
    Blk2 ((w.setCell ⟨b, 0, none⟩ x0).setCell ⟨b, 1, none⟩ x1) b x0 x1 := ((h.put0 _).put1 _)
theorem Blk2.dr {w : World} {b : Nat} {x0 x1 : Value} (h : Blk2 w b x0 x1) : Blk2 w.drew b x0 x1 := h.ext (Ext.drew (Ext.refl _))
theorem Blk2.al {w : World} {b : Nat} {x0 x1 : Value} (o : Obj) (h : Blk2 w b x0 x1) : Blk2 (w.alloc o) b x0 x1 := h.ext (Ext.alloc (Ext.refl _) _)
/-- The end of a function whose result, and others beside it, lies in a block of its own. -/
theorem fin2 (v : Value) {fn : Func} {Q : Ending → World → Prop} {a : Act} {w W : World} {b : Nat} {x0 x1 : Value}
    (B : Blk2 W b x0 x1) (hd : a.defers = []) (E : Ext w W)
    (hr : W.cell? ⟨b, 0, none⟩ = some x0 → W.cell? ⟨b, 1, none⟩ = some x1 → (results fn a.tmps).run Tryz.prog W = .ok v W)
    (hQ : Ext w W → Q (.returned v) W) : bodyPost Tryz.prog fn Q .ret a W :=
  bodyPost_ret (hr B.2.1.1 B.2.1.2) hd (hQ E)
end Go.Proofs.YtdjniiginnlmhaaGreatDoor

namespace Go.Proofs.YtdjniiginnlmhaaGreatDoor
open Go.RowKit
set_option maxHeartbeats 1000000

theorem ret5 (v : Value) {fn : Func} {Q : Ending → World → Prop} {a : Act} {W : World} {b : Nat} {x0 x1 x2 x3 x4 : Value} (B : Blk5 W b x0 x1 x2 x3 x4) (hd : a.defers = [])
    (hr : W.cell? ⟨b, 0, none⟩ = some x0 → W.cell? ⟨b, 1, none⟩ = some x1 → W.cell? ⟨b, 2, none⟩ = some x2 → W.cell? ⟨b, 3, none⟩ = some x3 → W.cell? ⟨b, 4, none⟩ = some x4 → (results fn a.tmps).run Tryz.prog W = .ok v W)
    (hQ : Q (.returned v) W) : bodyPost Tryz.prog fn Q .ret a W := bodyPost_ret (hr B.2.1.1 B.2.1.2.1 B.2.1.2.2.1 B.2.1.2.2.2.1 B.2.1.2.2.2.2) hd hQ
theorem here_any (w0 : World) (b d : Nat) (ts : List Tk) (c : Int) (w : World) (h : Stt w0 b w ts d) :
    Calls Tryz.prog 115 #[.pointer (some ⟨b, 0, none⟩), .int .i64 c] w fun e w' => e = .returned (.agg #[.int .i64 (hd ts).2.1, .int .i64 c]) ∧ Ext w w' := by
  have h3 := h.2.2.1
  obtain ⟨tb, off, cc, b0, z0, b1, z1, t0, t1, t2, t3, t4, hne, hc, hp, hs⟩ := h.get
  generalize hd ts = t at *
  generalize ts.length = n at *
  clear h b1 z1 t0 t2 t3 t4
  go_enter Tryz.func115, Tryz.ntmps115
  go_wp2_with fail
  refine fin2 _ (blk2_top rfl (Ext.refl _)) rfl ((Ext.refl w).alloc _) (fun g0 g1 => by simp [results, Tryz.results115, go_sem, g0, g1]) (fun h => ⟨rfl, h⟩)
theorem isSign_any (w0 : World) (b d : Nat) (ts : List Tk) (q : ByteArray) (w : World) (h : Stt w0 b w ts d) :
    Calls Tryz.prog 190 #[.pointer (some ⟨b, 0, none⟩), .string q] w fun e w' => e = .returned (.bool (isSg q.data.toList ts)) ∧ Ext w w' := by
  have h3 := h.2.2.1
  obtain ⟨tb, off, cc, b0, z0, b1, z1, t0, t1, t2, t3, t4, hne, hc, hp, hs⟩ := h.get
  unfold isSg
  generalize hd ts = t at *
  generalize ts.length = n at *
  clear h b1 z1 t1 t3 t4
  go_enter Tryz.func190, Tryz.ntmps190
  go_wp2_with fail
  · rename_i hk
    go_ret
    refine ⟨ret_bool ?_, Ext.refl _⟩
    rw [ByteArray.toList_eq, ByteArray.toList_eq, bs_list, hk]; rfl
  · rename_i hk
    go_ret
    refine ⟨ret_bool ?_, Ext.refl _⟩
    have : (t.1 == 3) = false := by simpa using hk
    rw [this]; rfl
theorem take_any (w0 : World) (b d : Nat) (ts : List Tk) (w : World) (h : Stt w0 b w ts d) (h5 : (hd ts).1 ≠ 5) :
    Calls Tryz.prog 179 #[.pointer (some ⟨b, 0, none⟩)] w (PW w0 b w d (aggT (hd ts)) (tk1 d ts)) := by
  have h3 := h.2.2.1
  have HS : Hid (Stt w0 b w ts d) := h
  have H5 : Hid ((hd ts).1 ≠ 5) := h5
  have ch := fun W hW => here_any w0 b d ts 2 W hW
  obtain ⟨tb, off, cc, b0, z0, b1, z1, t0, t1, t2, t3, t4, hne, hc, hp, hs⟩ := h.get
  have HB : Hid (w.cell? ⟨b, 0, none⟩ = some (.slice (some ⟨tb, off, none⟩) ts.length cc)) := b0
  by_cases hd40 : 40 < d
  · have hI : (40 : Int) < (d : Int) := by omega
    have HX : Hid (tk1 d ts = .error (ft ts true)) := by show _ = _; unfold tk1; rw [if_pos hd40]
    have c1 := ch (w.alloc (.cells #[.int .i64 0, .int .i64 0, .string ⟨#[]⟩, .int .i64 0, .int .i64 0] 82)) (HS.out.ext ((Ext.refl _).alloc _))
    clear h ch h5 t0 t1 t2 t3 t4 b0 z0
    go_enter Tryz.func179, Tryz.ntmps179
    go_wp2_with fail
    refine c1.mono ?_
    rintro e w1 ⟨rfl, E1⟩
    go_wp2_with fail
    rw [HX.out]
    exact ⟨rfl, rfl, ((((Ext.refl w).alloc _).trans E1).toB b)⟩
  · have hI : ¬ (40 : Int) < (d : Int) := by omega
    have HX : Hid (tk1 d ts = .ok ts.tail) := by show _ = _; unfold tk1; rw [if_neg hd40]
    have h2 : ¬ cc = 1 := by have := (HS.out.2.2.2.1.tail H5.out).1.pos; have := (HS.out.2.2.2.1.tail H5.out).2; omega
    clear h ch h5
    go_enter Tryz.func179, Tryz.ntmps179
    go_wp2_with fail
    have hz : w.heap.size = (w.setCell ⟨b, 0, none⟩ (Value.slice (some ⟨tb, off + 5, none⟩) (ts.length - 1) (cc - 1))).heap.size := by simp [World.setCell]
    rw [HX.out]
    refine ret5 (aggT (hd ts)) (blk5_top hz ((Ext.refl _).alloc _)) rfl (fun g0 g1 g2 g3 g4 => by simp [results, Tryz.results179, go_sem, g0, g1, g2, g3, g4, aggT]) ⟨rfl, (HS.out.take H5.out HB.out).ext (((Ext.refl _).alloc _).alloc _), (((ExtB.refl b w).set (.inl rfl) _).alloc _).alloc _⟩
theorem pass_any (w0 : World) (b d : Nat) (ts : List Tk) (q : ByteArray) (w : World) (h : Stt w0 b w ts d) :
    Calls Tryz.prog 198 #[.pointer (some ⟨b, 0, none⟩), .string q] w (PW w0 b w d (.tuple #[]) (pass1 q.data.toList d ts)) := by
  have HS : Hid (Stt w0 b w ts d) := h
  have c1 := isSign_any w0 b d ts q w h
  cases hq : isSg q.data.toList ts
  · rw [hq] at c1
    have HX : Hid (pass1 q.data.toList d ts = .error (ft ts false)) := by show _ = _; unfold pass1; rw [hq]; rfl
    clear hq h
    go_enter Tryz.func198, Tryz.ntmps198
    go_wp2_with fail
    refine c1.mono ?_
    rintro e w1 ⟨rfl, E1⟩
    have c2 := here_any w0 b d ts 4 w1 (HS.out.ext E1)
    clear c1
    go_wp2_with fail
    refine c2.mono ?_
    rintro e w2 ⟨rfl, E2⟩
    clear c2
    go_wp2_with fail
    rw [HX.out]
    exact ⟨rfl, rfl, ((E1.trans E2).toB b)⟩
  · rw [hq] at c1
    have h5 : (hd ts).1 ≠ 5 := by rw [(isSg_k hq).1]; decide
    have HX : Hid (pass1 q.data.toList d ts = tk1 d ts) := by show _ = _; unfold pass1; rw [hq]; rfl
    have H5 : Hid ((hd ts).1 ≠ 5) := h5
    clear hq h h5
    go_enter Tryz.func198, Tryz.ntmps198
    go_wp2_with fail
    refine c1.mono ?_
    rintro e w1 ⟨rfl, E1⟩
    have c2 := take_any w0 b d ts w1 (HS.out.ext E1) H5.out
    clear c1
    cases ht : tk1 d ts with
    | error f =>
      rw [ht] at c2 HX
      go_wp2_with fail
      refine c2.mono ?_
      rintro e w2 ⟨rfl, E2⟩
      rw [HX.out]
      exact ⟨rfl, rfl, (E1.toB b).trans E2⟩
    | ok ts1 =>
      rw [ht] at c2 HX
      go_wp2_with fail
      refine c2.mono ?_
      rintro e w2 ⟨rfl, S2, E2⟩
      clear c2
      have HS2 : Hid (Stt w0 b w2 ts1 d ∧ ExtB b w1 w2) := ⟨S2, E2⟩
      clear S2 E2
      go_wp2_with fail
      refine ⟨rfl, .tuple #[], results_none rfl _ _ _, ?_⟩
      rw [HX.out]
      exact ⟨rfl, HS2.out.1, (E1.toB b).trans HS2.out.2⟩
end Go.Proofs.YtdjniiginnlmhaaGreatDoor

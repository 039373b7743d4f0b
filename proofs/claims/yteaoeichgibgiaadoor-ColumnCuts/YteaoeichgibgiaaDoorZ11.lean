/-
 Package column: Of.
 Layer 19's lives.
 Arguments: what is read as a list of values, or of arguments, is one.
 The laws of layer 19: arguments: a column, values; how long they can be.
 From a list that lays the errors' names to their cells. No condition.
 The world in which the listed variables lie as the program's text lays them, and what a world that meets the list gives the walks. No condition.
-/
import Derived.Test.YteaoeichgibgiaaDoorZ9
import Derived.Test.YteaoeichgibgiaaDoorZ10
import Derived.Test.YteaoeichgibgiaaDoorZ6
import Derived.Lib.SmallJoins
import Derived.Deep.Slices
import Derived.Test.YteaoeichgibgiaaDoorZ7
import Derived.SizedLaws
import Derived.Test.YteaoeichgibgiaaDoorZ5
import Derived.Test.YteaoeichgibgiaaDoorRows
import Derived.ProofKit
import Derived.OpenShut
import Derived.Deep.DeepHandedRow
import Derived.Stop.LaidErr
import Derived.Lib.LaidTab
import Derived.MakeChecks
namespace Go.Proofs.YteaoeichgibgiaaDoor
open Go.RowKit
set_option maxHeartbeats 4000000

theorem vec_built (p : Option Addr) (n c : Nat) (q : Option Addr) (m d : Nat) : Tryd.prog.built 26 [(0, .slice p n c), (1, .slice q m d)] = some #[.slice p n c, .slice q m d] := by kernel_rfl
theorem run_vec_of {o : Oper} {a : Act} {w : World} {x y : Operand} {p q : Option Addr} {n c m d : Nat} (ho : o.op = .build 26 #[(0, x), (1, y)]) (hx : a.eval x = .slice p n c) (hy : a.eval y = .slice q m d) :
   (execOp a.eval o).run Tryd.prog w = .ok (.value (.agg #[.slice p n c, .slice q m d])) w := by
 have := run_build (P := Tryd.prog) w 26 #[(0, .slice p n c), (1, .slice q m d)] _ (vec_built p n c q m d)
 simp [execOp, ho, hx, hy, this, Result.andThen]
theorem plain_step {l : List Rw} {j : Nat} {r : Rw} (h : l[j]? = some r) : plainL (l.take (j + 1)) = (plainL (l.take j) && plB r.v) := by
 rw [take_at h]
 simp [plainL]
set_option maxRecDepth 100000 in
theorem cof_any (W : World) (a : Value) (l : List Rw) (area : Bool) (hN : Nm W) (h : RdV W.heap.size W a l) (hI : ∀ r ∈ l, I64 r.n) (hl : l.length ≤ 1000) :
   Calls Tryd.prog 7 #[a, .bool area] W fun r w' => ∃ u v, r = .returned (.tuple #[.agg #[u, v], .bool (plainL l)]) ∧ RdI w' u (lnN area l) ∧ RdI w' v (lnE area l) ∧ Ext W w' := by
 obtain ⟨p, n, cp, rfl, hn, hzz⟩ := h.form
 have HR : Hid (RdV W.heap.size W (.slice p n cp) l) := h
 have HL : Hid (l.length = n ∧ n ≤ 1000) := ⟨hn.symm, by omega⟩
 have HI : Hid (∀ r ∈ l, I64 r.n) := hI
 have HN : Hid (Nm W) := hN
 have hI0 : ¬ (n : Int) > 1000 := by omega
 have hd : decide ((n : Int) > 1000) = false := by simp; omega
 clear h hl hzz hI hN hn
 obtain ⟨W1, hW⟩ : ∃ W1, W.alloc (.cells #[.slice none 0 0, .slice none 0 0] 26) = W1 := ⟨_, rfl⟩
 have V4 : Hid (VB W1 W.heap.size (.slice none 0 0) (.slice none 0 0)) := by rw [← hW]; exact vb_top rfl (Ext.refl _)
 have HX : Hid (Ext W W1) := by rw [← hW]; exact (Ext.refl _).alloc _
 have HW : Hid (W.alloc (.cells #[.slice none 0 0, .slice none 0 0] 26) = W1) := hW
 clear hW
 go_enter Tryd.func7, Tryd.ntmps7
 go_upto_region 3 with fail
 rw [HW.out]
 clear hI0 hd
 refine wp_region_held_drew (S := fun _ => True) (by kernel_rfl) ?_ (fun hHeld0 => ?_)
 · trivial
 refine wpAnyH_take (i := 0) (oi := ⟨some 15, .move (.tmp 0), 22, "column.go:38", #[], none⟩) (v := ?_) rfl (by kernel_rfl) (by kernel_rfl) (by kernel_rfl) (fun _ _ _ h => h) (Or.inl ⟨by rfl, ?_⟩) (by assumption) ?_
 rotate_left
 · intro w hSw; (try dsimp only at hSw); first | (go_simp; done) | (go_simp; with_reducible rfl)
 try simp only [Act.put, List.setIfInBounds_toArray, List.set_cons_zero, List.set_cons_succ]
 refine wpAnyH_take (i := 1) (oi := ⟨some 16, .call { callee := .builtin .len, args := #[.tmp 15], argTypes := #[22] }, 3, "column.go:38", #[⟨0, .data⟩], none⟩) (v := ?_) rfl (by kernel_rfl) (by kernel_rfl) (by kernel_rfl) (fun _ _ _ h => h) (Or.inl ⟨by rfl, ?_⟩) (by assumption) ?_
 rotate_left
 · intro w hSw; (try dsimp only at hSw); first | (go_simp; done) | (go_simp; with_reducible rfl)
 try simp only [Act.put, List.setIfInBounds_toArray, List.set_cons_zero, List.set_cons_succ]
 refine wpAnyH_take (i := 3) (oi := ⟨some 18, .move (.tmp 0), 22, "column.go:38", #[], none⟩) (v := ?_) rfl (by kernel_rfl) (by kernel_rfl) (by kernel_rfl) (fun _ _ _ h => h) (Or.inl ⟨by rfl, ?_⟩) (by assumption) ?_
 rotate_left
 · intro w hSw; (try dsimp only at hSw); first | (go_simp; done) | (go_simp; with_reducible rfl)
 try simp only [Act.put, List.setIfInBounds_toArray, List.set_cons_zero, List.set_cons_succ]
 refine wpAnyH_take (i := 4) (oi := ⟨some 19, .call { callee := .builtin .len, args := #[.tmp 18], argTypes := #[22] }, 3, "column.go:38", #[⟨3, .data⟩], none⟩) (v := ?_) rfl (by kernel_rfl) (by kernel_rfl) (by kernel_rfl) (fun _ _ _ h => h) (Or.inl ⟨by rfl, ?_⟩) (by assumption) ?_
 rotate_left
 · intro w hSw; (try dsimp only at hSw); first | (go_simp; done) | (go_simp; with_reducible rfl)
 try simp only [Act.put, List.setIfInBounds_toArray, List.set_cons_zero, List.set_cons_succ]
 refine wpAnyH_letter (fun A0 hA0 => ?_)
 refine any_free_gen (l0 := #[true, true, false, true, true, false, false, false, false]) (lf := #[true, true, true, true, true, true, true, true, false]) ⟨[2, 5, 6, 7], [], (fun _ => none), (fun j => match j with | 2 => some 2 | 5 => some 3 | 7 => some 26 | _ => none), (fun j => match j with | 2 => 6 | 5 => 6 | _ => 1000)⟩ (by kernel_rfl) (by kernel_rfl) 1 W1.drew _ (mkA [(2, 17), (5, 20), (6, 21), (7, 6)] A0) (fun j x w => match j with | 2 => Made 2 n W1.heap.size x w | 5 => Made 3 n W1.heap.size x w | 6 => ∃ u v, x = .agg #[u, v] ∧ Made 2 n W1.heap.size u w ∧ Made 3 n W1.heap.size v w | 7 => MadeV W1.heap.size x w | _ => True) ?h01 (by assumption) ?hS ?hall ?hfin (fun j => match j with | 2 => A0.tmps.getD 17 undef | 5 => A0.tmps.getD 20 undef | 6 => A0.tmps.getD 21 undef | 7 => A0.tmps.getD 6 undef | _ => undef) ?hpre ?hX _ (by kernel_rfl)
 case h01 => exact Ext.refl _
 case hX => subst hA0; kernel_rfl
 case hS => intro i hi w w' hw e hg; trivial
 case hall =>
   subst hA0
   refine AllS.cons (o := ⟨some 17, .makeSlice 23 (.tmp 16) (.tmp 16), 23, "column.go:38", #[⟨1, .data⟩, ⟨1, .data⟩], none⟩) rfl rfl (fun _ _ => by kernel_rfl) (fun _ _ _ h e => h.ext e) (fun _ _ _ _ _ h ht e => h.keep (fun hh => ht hh) e) (fun X w' hE hSw hX => ?_) ?_
   · exact rt_make (B := W1.heap.size) (n := n) (make_i64 n (by have := HL.out; omega)) rfl (by kernel_rfl) (by kernel_rfl) hE hE.size
   refine AllS.cons (o := ⟨some 20, .makeSlice 24 (.tmp 19) (.tmp 19), 24, "column.go:38", #[⟨4, .data⟩, ⟨4, .data⟩], none⟩) rfl rfl (fun _ _ => by kernel_rfl) (fun _ _ _ h e => h.ext e) (fun _ _ _ _ _ h ht e => h.keep (fun hh => ht hh) e) (fun X w' hE hSw hX => ?_) ?_
   · exact rt_make (B := W1.heap.size) (n := n) (make_int n (by have := HL.out; omega)) rfl (by kernel_rfl) (by kernel_rfl) hE hE.size
   refine AllS.cons (o := ⟨some 21, .build 26 #[(0, .tmp 17), (1, .tmp 20)], 26, "column.go:38", #[⟨2, .data⟩, ⟨5, .data⟩], none⟩) rfl rfl (fun _ _ => by kernel_rfl) (fun _ _ _ h e => by obtain ⟨u, v, h1, h2, h3⟩ := h; exact ⟨u, v, h1, h2.ext e, h3.ext e⟩) (fun _ _ _ _ hT => by have h : true = false := hT.symm.trans (by kernel_rfl); cases h) (fun X w' hE hSw hX => ?_) ?_
   · have f2 : Made 2 n W1.heap.size (X 2) w' := hX 2 (by kernel_rfl)
     have f5 : Made 3 n W1.heap.size (X 5) w' := hX 5 (by kernel_rfl)
     have q2 := f2
     have q5 := f5
     obtain ⟨g2, h2, _⟩ := f2
     obtain ⟨g5, h5, _⟩ := f5
     refine .inl ⟨.agg #[X 2, X 5], w', ?_, hE, Ext.refl _, X 2, X 5, rfl, q2, q5⟩
     rw [h2, h5]
     exact run_vec_of rfl (by rw [← h2]; kernel_rfl) (by rw [← h5]; kernel_rfl)
   refine AllS.cons (o := ⟨some 6, .alloc 26, 0, "column.go:38", #[], none⟩) rfl rfl (fun _ _ => by kernel_rfl) (fun _ _ _ h e => h.ext e) (fun _ _ _ _ _ h ht e => h.keep (fun hh => ht hh) e) (fun X w' hE hSw hX => ?_) ?_
   · exact rt_alloc (B := W1.heap.size) rfl hE hE.size
   exact AllS.nil
 case hpre =>
   exact AllP.nil
 case hfin =>
   intro X w' n' hE hSw hX
   subst hA0
   obtain ⟨u2, u5, h6, f2, f5⟩ : ∃ u v, X 6 = .agg #[u, v] ∧ Made 2 n W1.heap.size u w' ∧ Made 3 n W1.heap.size v w' := hX 6 (by kernel_rfl)
   have f7 : MadeV W1.heap.size (X 7) w' := hX 7 (by kernel_rfl)
   obtain ⟨g2, rfl, hb2, m2⟩ := f2
   obtain ⟨g5, rfl, hb5, m5⟩ := f5
   obtain ⟨g7, h7, hb7, m7⟩ := f7
   clear hX
   try simp only [mkA, List.foldl_cons, List.foldl_nil, Act.put, List.setIfInBounds_toArray, List.set_cons_zero, List.set_cons_succ]
   rw [h6, h7]
   clear h6 h7
   generalize X 2 = x2
   generalize X 5 = x5
   have d25 : g2 ≠ g5 := by intro e; subst e; rw [m2] at m5; simp at m5
   have d27 : g2 ≠ g7 := by intro e; subst e; unfold VB at m7; rw [m2] at m7; simp at m7
   have d57 : g5 ≠ g7 := by intro e; subst e; unfold VB at m7; rw [m5] at m7; simp at m7
   have hw1 : W.heap.size < W1.heap.size := V4.out.lt
   have HG : Hid (g2 ≠ g5 ∧ g2 ≠ g7 ∧ g5 ≠ g7 ∧ W.heap.size < g2 ∧ W.heap.size < g5 ∧ W.heap.size < g7) := ⟨d25, d27, d57, by omega, by omega, by omega⟩
   have C2 : CelI w' g2 (List.replicate n 0) := zI_celi m2
   have C5 : CelI w' g5 (List.replicate n 0) := zI_celi m5
   have X9 : Ext W w' := HX.out.trans ((Ext.refl _).drew.trans hE)
   have V9 : VB w' W.heap.size (.slice none 0 0) (.slice none 0 0) := V4.out.ext ((Ext.refl _).drew.trans hE)
   have M7 := m7
   clear m2 m5 hE d25 d27 d57 hw1 hb2 hb5 hb7 hHeld0 hSw
   obtain ⟨_, ⟨j0, j1⟩, g0, g1⟩ := M7.blk
   refine wpAnyH_ready (rs := [8]) (by kernel_rfl) (by simp) ?_
   refine AllReadyH.cons (o := ⟨none, .store 26 (.tmp 6) (.tmp 21), 0, "column.go:38", #[⟨7, .data⟩, ⟨6, .data⟩, ⟨0, .phase⟩, ⟨1, .phase⟩, ⟨2, .phase⟩, ⟨3, .phase⟩, ⟨4, .phase⟩, ⟨5, .phase⟩, ⟨6, .phase⟩, ⟨7, .phase⟩], none⟩) rfl (fun K hK => ?_) AllReadyH.nil
   go_simp
   try go_wp2_with fail
   refine hK.out _ _ ?_ (fun hHeld0 => ?_)
   · (try dsimp only); all_goals trivial
   clear hK K
   refine wpAnyH_done (by kernel_rfl) ?_ _
   have Q7 := m7.set (.slice (some ⟨g2, 0, none⟩) n n) (.slice (some ⟨g5, 0, none⟩) n n)
   have Q2 := (C2.far1 (b := g7) (o := 0) HG.out.2.1.symm (.slice (some ⟨g2, 0, none⟩) n n)).far1 (b := g7) (o := 1) HG.out.2.1.symm (.slice (some ⟨g5, 0, none⟩) n n)
   have Q5 := (C5.far1 (b := g7) (o := 0) HG.out.2.2.1.symm (.slice (some ⟨g2, 0, none⟩) n n)).far1 (b := g7) (o := 1) HG.out.2.2.1.symm (.slice (some ⟨g5, 0, none⟩) n n)
   have QX := (X9.setCell (p := ⟨g7, 0, none⟩) (by have := HG.out; (try dsimp only); omega) (.slice (some ⟨g2, 0, none⟩) n n)).setCell (p := ⟨g7, 1, none⟩) (by have := HG.out; (try dsimp only); omega) (.slice (some ⟨g5, 0, none⟩) n n)
   have Q4 := (V9.far (c := g7) (o := 0) (by have := HG.out; omega) (.slice (some ⟨g2, 0, none⟩) n n)).far (c := g7) (o := 1) (by have := HG.out; omega) (.slice (some ⟨g5, 0, none⟩) n n)
   clear C2 C5 X9 V9 M7 m7 j0 j1 g0 g1 hHeld0
   generalize (w'.setCell ⟨g7, 0, none⟩ (.slice (some ⟨g2, 0, none⟩) n n)).setCell ⟨g7, 1, none⟩ (.slice (some ⟨g5, 0, none⟩) n n) = W2 at *
   go_wp2_with fail
   go_loopw [24, 7] (fun iv pv wr => ∃ j : Nat, iv = .int .i64 (j : Int) ∧ j ≤ n ∧ pv = .bool (plainL (l.take j)) ∧ Ext W wr ∧ CelI wr g2 (fillI (lnN area l) j) ∧ CelI wr g5 (fillI (lnE area l) j) ∧ VB wr g7 (.slice (some ⟨g2, 0, none⟩) n n) (.slice (some ⟨g5, 0, none⟩) n n) ∧ VB wr W.heap.size (.slice none 0 0) (.slice none 0 0)) (fun iv _ _ => n - (intOf iv).toNat)
   case atStart =>
     refine ⟨0, rfl, Nat.zero_le _, rfl, QX, ?_, ?_, Q7, Q4⟩
     · rw [fill_zero, (ln_len area l).1, HL.out.1]; exact Q2
     · rw [fill_zero, (ln_len area l).2, HL.out.1]; exact Q5
   case round =>
     obtain ⟨j, rfl, hj, rfl, hE, h2, h5, h7, h4⟩ := hrel
     have HE : Hid (Ext W wr) := hE
     have H2 : Hid (CelI wr g2 (fillI (lnN area l) j)) := h2
     have H5 : Hid (CelI wr g5 (fillI (lnE area l) j)) := h5
     have H7 : Hid (VB wr g7 (.slice (some ⟨g2, 0, none⟩) n n) (.slice (some ⟨g5, 0, none⟩) n n)) := h7
     have H4 : Hid (VB wr W.heap.size (.slice none 0 0) (.slice none 0 0)) := h4
     clear hE h2 h5 h7 h4
     by_cases hlt : j < n
     · have hltI : (j : Int) < (n : Int) := by omega
       obtain ⟨b, off, r, hp, hr, hb, hbW, k0, k1, k2, k3⟩ := (HR.out.low HE.out).at (i := j) (by have := HL.out; omega)
       subst hp
       have hrI : I64 r.n := HI.out r (List.mem_of_getElem? hr)
       have hv : r.v.ok := nm_ok r.k r.n r.s r.e hrI
       have c0 : ∀ w, Nm w → Calls Tryd.prog 20 #[.agg #[.int .i64 r.k, .int .i64 r.n, .string r.s, .int .i64 r.e]] w fun e w' => e = .returned r.v.dat ∧ Ext w w' := fun w h => vnormal_any r.k r.n r.s r.e w h
       have c1 := fun w => isplain_any r.v w
       have c2 := fun w h => asnum_any r.v hv area w h
       rw [dat_eq (laneV r.v area)] at c2
       obtain ⟨q0, q1, q2, q3, hq⟩ := dat4 r.v
       rw [hq] at c0 c1 c2
       have LN : Hid ((lnN area l)[j]? = some (laneV r.v area).n) := by show _ = _; simp [lnN, hr]
       have LE : Hid ((lnE area l)[j]? = some (laneV r.v area).e) := by show _ = _; simp [lnE, hr]
       have LP : Hid (plainL (l.take (j + 1)) = (plainL (l.take j) && plB r.v)) := plain_step hr
       generalize (laneV r.v area).k = z0 at *
       generalize (laneV r.v area).n = z1 at *
       generalize (laneV r.v area).s = z2 at *
       generalize (laneV r.v area).e = z3 at *
       generalize plB r.v = pb at *
       generalize r.k = rk at *
       generalize r.n = rn at *
       generalize r.s = rs at *
       generalize r.e = re at *
       have WK : Hid (wrap64 ((j : Int) + 1) = ((j + 1 : Nat) : Int)) := wrapC j (by have := HL.out; omega)
       have HJ : Hid (j < n) := hlt
       have G2 : Hid ((fillI (lnN area l) j)[j]? = some 0) := fill_at (by rw [(ln_len area l).1]; have := HL.out; omega)
       have G5 : Hid ((fillI (lnE area l) j)[j]? = some 0) := fill_at (by rw [(ln_len area l).2]; have := HL.out; omega)
       clear hr hb hbW hrI hv hq hlt hj
       generalize hpl : plainL (l.take j) = pl at *
       have hN0 : Nm (wr.alloc (.cells #[.int .i64 rk, .int .i64 rn, .string rs, .int .i64 re] 33)) := HN.out.ext (HE.out.alloc _)
       go_wp2_with fail
       refine (c0 _ hN0).mono ?_
       rintro e1 w1 ⟨rfl, E1⟩
       have T9 := blk_top (b := wr.heap.size) rfl E1
       obtain ⟨_, ⟨b0, b1, b2, b3⟩, f0, f1, f2, f3⟩ := T9
       have X1 : Ext wr w1 := ((Ext.refl _).alloc _).trans E1
       have T8 : Blk ((((w1.setCell ⟨wr.heap.size, 0, none⟩ (.int .i64 q0)).setCell ⟨wr.heap.size, 1, none⟩ (.int .i64 q1)).setCell ⟨wr.heap.size, 2, none⟩ (.string q2)).setCell ⟨wr.heap.size, 3, none⟩ (.int .i64 q3)) wr.heap.size (.int .i64 q0) (.int .i64 q1) (.string q2) (.int .i64 q3) := Blk.set (blk_top (b := wr.heap.size) rfl E1) _ _ _ _
       have X8 : Ext wr ((((w1.setCell ⟨wr.heap.size, 0, none⟩ (.int .i64 q0)).setCell ⟨wr.heap.size, 1, none⟩ (.int .i64 q1)).setCell ⟨wr.heap.size, 2, none⟩ (.string q2)).setCell ⟨wr.heap.size, 3, none⟩ (.int .i64 q3)) := (((X1.setCell (by simp) _).setCell (by simp) _).setCell (by simp) _).setCell (by simp) _
       clear c0 hN0 E1 X1 k0 k1 k2 k3
       go_upto_region 9 with fail
       clear b0 b1 b2 b3 f0 f1 f2 f3
       generalize (((w1.setCell ⟨wr.heap.size, 0, none⟩ (.int .i64 q0)).setCell ⟨wr.heap.size, 1, none⟩ (.int .i64 q1)).setCell ⟨wr.heap.size, 2, none⟩ (.string q2)).setCell ⟨wr.heap.size, 3, none⟩ (.int .i64 q3) = W8 at *
       obtain ⟨_, ⟨b0, b1, b2, b3⟩, f0, f1, f2, f3⟩ := T8
       cases pl
       · have LP2 : Hid (plainL (l.take (j + 1)) = false) := by show _ = _; have := LP.out; simpa using this
         have hN8 : Nm W8 := HN.out.ext (HE.out.trans X8)
         clear c1 LP
         go_wp2_with fail
         refine (c2 _ hN8).mono ?_
         rintro e3 w3 ⟨rfl, E3⟩
         have X3 : Ext wr w3 := X8.trans E3
         clear c2 hN8 E3 
         go_wp2_with fail
         have T10 := blk_top (w := w3) (x0 := .int .i64 z0) (x1 := .int .i64 z1) (x2 := .string z2) (x3 := .int .i64 z3) (T := 33) (b := w3.heap.size) rfl (Ext.refl _)
         have X10 : Hid (Ext wr (w3.alloc (.cells #[.int .i64 z0, .int .i64 z1, .string z2, .int .i64 z3] 33))) := X3.alloc _
         have hb10 : g2 ≠ w3.heap.size ∧ g5 ≠ w3.heap.size := ⟨by have := H2.out.lt; have := X3.size; omega, by have := H5.out.lt; have := X3.size; omega⟩
         generalize w3.alloc (.cells #[.int .i64 z0, .int .i64 z1, .string z2, .int .i64 z3] 33) = W10 at *
         generalize w3.heap.size = b10 at *
         have D10 : Hid (g2 ≠ b10 ∧ g5 ≠ b10) := hb10
         obtain ⟨_, ⟨t0, t1, t2, t3⟩, o0, o1, o2, o3⟩ := T10
         obtain ⟨_, ⟨y0, y1⟩, p0, p1⟩ := (H7.out.ext X10.out).blk
         obtain ⟨c2c, c2f⟩ := (H2.out.ext X10.out).c j 0 G2.out
         obtain ⟨c5c, c5f⟩ := (H5.out.ext X10.out).c j 0 G5.out
         have h27 := HG.out.2.1
         have h57 := HG.out.2.2.1
         have h25 := HG.out.1
         have y0a : (W10.drew.setCell ⟨g2, j, none⟩ (.int .i64 z1)).cell? ⟨g7, 0, none⟩ = some (.slice (some ⟨g2, 0, none⟩) n n) := by rw [World.cell?_setCell_far _ _ _ _ h27]; exact y0
         have y1a : (W10.drew.setCell ⟨g2, j, none⟩ (.int .i64 z1)).cell? ⟨g7, 1, none⟩ = some (.slice (some ⟨g5, 0, none⟩) n n) := by rw [World.cell?_setCell_far _ _ _ _ h27]; exact y1
         have t1a : (W10.drew.setCell ⟨g2, j, none⟩ (.int .i64 z1)).cell? ⟨b10, 1, none⟩ = some (.int .i64 z1) := by rw [World.cell?_setCell_far _ _ _ _ D10.out.1]; exact t1
         have t3a : (W10.drew.setCell ⟨g2, j, none⟩ (.int .i64 z1)).cell? ⟨b10, 3, none⟩ = some (.int .i64 z3) := by rw [World.cell?_setCell_far _ _ _ _ D10.out.1]; exact t3
         have c5a : (W10.drew.setCell ⟨g2, j, none⟩ (.int .i64 z1)).cell? ⟨g5, j, none⟩ = some (.int .i64 0) := by rw [World.cell?_setCell_far _ _ _ _ h25]; exact c5c
         have f5a : (W10.drew.setCell ⟨g2, j, none⟩ (.int .i64 z1)).frozen? ⟨g5, j, none⟩ = false := by rw [World.frozen?_setCell]; exact c5f
         have y0b : ((W10.drew.setCell ⟨g2, j, none⟩ (.int .i64 z1)).setCell ⟨g5, j, none⟩ (.int .i64 z3)).cell? ⟨g7, 0, none⟩ = some (.slice (some ⟨g2, 0, none⟩) n n) := by rw [World.cell?_setCell_far _ _ _ _ h57]; exact y0a
         have y1b : ((W10.drew.setCell ⟨g2, j, none⟩ (.int .i64 z1)).setCell ⟨g5, j, none⟩ (.int .i64 z3)).cell? ⟨g7, 1, none⟩ = some (.slice (some ⟨g5, 0, none⟩) n n) := by rw [World.cell?_setCell_far _ _ _ _ h57]; exact y1a
         have t1b : ((W10.drew.setCell ⟨g2, j, none⟩ (.int .i64 z1)).setCell ⟨g5, j, none⟩ (.int .i64 z3)).cell? ⟨b10, 1, none⟩ = some (.int .i64 z1) := by rw [World.cell?_setCell_far _ _ _ _ D10.out.2]; exact t1a
         have t3b : ((W10.drew.setCell ⟨g2, j, none⟩ (.int .i64 z1)).setCell ⟨g5, j, none⟩ (.int .i64 z3)).cell? ⟨b10, 3, none⟩ = some (.int .i64 z3) := by rw [World.cell?_setCell_far _ _ _ _ D10.out.2]; exact t3a
         refine wp_region_held_drew (S := fun w => w.cell? ⟨g7, 0, none⟩ = some (.slice (some ⟨g2, 0, none⟩) n n) ∧ w.cell? ⟨g7, 1, none⟩ = some (.slice (some ⟨g5, 0, none⟩) n n) ∧ w.cell? ⟨b10, 1, none⟩ = some (.int .i64 z1) ∧ w.cell? ⟨b10, 3, none⟩ = some (.int .i64 z3)) (by kernel_rfl) ?_ (fun hHeld0 => ?_)
         · first | exact ⟨y0, y1, t1, t3⟩ | exact ⟨y0a, y1a, t1a, t3a⟩ | exact ⟨y0b, y1b, t1b, t3b⟩
         refine wpAnyH_take (i := 0) (oi := ⟨some 39, .fieldAddr 26 (.tmp 6) 0, 0, "column.go:44", #[], none⟩) (v := ?_) rfl (by kernel_rfl) (by kernel_rfl) (by kernel_rfl) (fun _ _ _ h => h) (Or.inl ⟨by rfl, ?_⟩) (by assumption) ?_
         rotate_left
         · intro w hSw; (try dsimp only at hSw); first | (go_simp; done) | (go_simp; with_reducible rfl)
         try simp only [Act.put, List.setIfInBounds_toArray, List.set_cons_zero, List.set_cons_succ]
         refine wpAnyH_take (i := 1) (oi := ⟨some 40, .load 23 (.tmp 39), 23, "column.go:44", #[⟨0, .data⟩], none⟩) (v := ?_) rfl (by kernel_rfl) (by kernel_rfl) (by kernel_rfl) (fun _ _ _ h => h) (Or.inl ⟨by rfl, ?_⟩) (by assumption) ?_
         rotate_left
         · intro w hSw; (try dsimp only at hSw); first | (go_simp; done) | (go_simp; with_reducible rfl)
         try simp only [Act.put, List.setIfInBounds_toArray, List.set_cons_zero, List.set_cons_succ]
         refine wpAnyH_take (i := 2) (oi := ⟨some 41, .move (.tmp 8), 3, "column.go:44", #[], none⟩) (v := ?_) rfl (by kernel_rfl) (by kernel_rfl) (by kernel_rfl) (fun _ _ _ h => h) (Or.inl ⟨by rfl, ?_⟩) (by assumption) ?_
         rotate_left
         · intro w hSw; (try dsimp only at hSw); first | (go_simp; done) | (go_simp; with_reducible rfl)
         try simp only [Act.put, List.setIfInBounds_toArray, List.set_cons_zero, List.set_cons_succ]
         refine wpAnyH_take (i := 3) (oi := ⟨some 42, .fieldAddr 26 (.tmp 6) 1, 0, "column.go:44", #[{ on := 11, ground := Ground.gcOnly Departure.lateStores }], none⟩) (v := ?_) rfl (by kernel_rfl) (by kernel_rfl) (by kernel_rfl) (fun _ _ _ h => h) (Or.inl ⟨by rfl, ?_⟩) (by assumption) ?_
         rotate_left
         · intro w hSw; (try dsimp only at hSw); first | (go_simp; done) | (go_simp; with_reducible rfl)
         try simp only [Act.put, List.setIfInBounds_toArray, List.set_cons_zero, List.set_cons_succ]
         refine wpAnyH_take (i := 4) (oi := ⟨some 43, .load 24 (.tmp 42), 24, "column.go:44", #[⟨3, .data⟩, { on := 11, ground := Ground.gcOnly Departure.lateStores }], none⟩) (v := ?_) rfl (by kernel_rfl) (by kernel_rfl) (by kernel_rfl) (fun _ _ _ h => h) (Or.inl ⟨by rfl, ?_⟩) (by assumption) ?_
         rotate_left
         · intro w hSw; (try dsimp only at hSw); first | (go_simp; done) | (go_simp; with_reducible rfl)
         try simp only [Act.put, List.setIfInBounds_toArray, List.set_cons_zero, List.set_cons_succ]
         refine wpAnyH_take (i := 5) (oi := ⟨some 44, .move (.tmp 8), 3, "column.go:44", #[{ on := 11, ground := Ground.gcOnly Departure.lateStores }], none⟩) (v := ?_) rfl (by kernel_rfl) (by kernel_rfl) (by kernel_rfl) (fun _ _ _ h => h) (Or.inl ⟨by rfl, ?_⟩) (by assumption) ?_
         rotate_left
         · intro w hSw; (try dsimp only at hSw); first | (go_simp; done) | (go_simp; with_reducible rfl)
         try simp only [Act.put, List.setIfInBounds_toArray, List.set_cons_zero, List.set_cons_succ]
         refine wpAnyH_take (i := 6) (oi := ⟨some 45, .fieldAddr 33 (.tmp 10) 1, 0, "column.go:44", #[], none⟩) (v := ?_) rfl (by kernel_rfl) (by kernel_rfl) (by kernel_rfl) (fun _ _ _ h => h) (Or.inl ⟨by rfl, ?_⟩) (by assumption) ?_
         rotate_left
         · intro w hSw; (try dsimp only at hSw); first | (go_simp; done) | (go_simp; with_reducible rfl)
         try simp only [Act.put, List.setIfInBounds_toArray, List.set_cons_zero, List.set_cons_succ]
         refine wpAnyH_take (i := 7) (oi := ⟨some 46, .load 2 (.tmp 45), 2, "column.go:44", #[⟨6, .data⟩], none⟩) (v := ?_) rfl (by kernel_rfl) (by kernel_rfl) (by kernel_rfl) (fun _ _ _ h => h) (Or.inl ⟨by rfl, ?_⟩) (by assumption) ?_
         rotate_left
         · intro w hSw; (try dsimp only at hSw); first | (go_simp; done) | (go_simp; with_reducible rfl)
         try simp only [Act.put, List.setIfInBounds_toArray, List.set_cons_zero, List.set_cons_succ]
         refine wpAnyH_take (i := 8) (oi := ⟨some 47, .fieldAddr 33 (.tmp 10) 3, 0, "column.go:44", #[{ on := 11, ground := Ground.gcOnly Departure.lateStores }], none⟩) (v := ?_) rfl (by kernel_rfl) (by kernel_rfl) (by kernel_rfl) (fun _ _ _ h => h) (Or.inl ⟨by rfl, ?_⟩) (by assumption) ?_
         rotate_left
         · intro w hSw; (try dsimp only at hSw); first | (go_simp; done) | (go_simp; with_reducible rfl)
         try simp only [Act.put, List.setIfInBounds_toArray, List.set_cons_zero, List.set_cons_succ]
         refine wpAnyH_take (i := 9) (oi := ⟨some 48, .load 3 (.tmp 47), 3, "column.go:44", #[⟨8, .data⟩, { on := 11, ground := Ground.gcOnly Departure.lateStores }], none⟩) (v := ?_) rfl (by kernel_rfl) (by kernel_rfl) (by kernel_rfl) (fun _ _ _ h => h) (Or.inl ⟨by rfl, ?_⟩) (by assumption) ?_
         rotate_left
         · intro w hSw; (try dsimp only at hSw); first | (go_simp; done) | (go_simp; with_reducible rfl)
         try simp only [Act.put, List.setIfInBounds_toArray, List.set_cons_zero, List.set_cons_succ]
         refine wpAnyH_take (i := 10) (oi := ⟨some 49, .indexAddr 23 (.tmp 40) (.tmp 41), 0, "column.go:44", #[⟨1, .data⟩, ⟨2, .data⟩, ⟨0, .phase⟩, ⟨1, .phase⟩, ⟨2, .phase⟩, { on := 3, ground := Ground.textOnly Departure.lateStores }, { on := 4, ground := Ground.textOnly Departure.lateStores }, { on := 5, ground := Ground.textOnly Departure.lateStores }, ⟨6, .phase⟩, ⟨7, .phase⟩, { on := 8, ground := Ground.textOnly Departure.lateStores }, { on := 9, ground := Ground.textOnly Departure.lateStores }], none⟩) (v := ?_) rfl (by kernel_rfl) (by kernel_rfl) (by kernel_rfl) (fun _ _ _ h => h) (Or.inl ⟨by rfl, ?_⟩) (by assumption) ?_
         rotate_left
         · intro w hSw; (try dsimp only at hSw); first | (go_simp; done) | (go_simp; with_reducible rfl)
         try simp only [Act.put, List.setIfInBounds_toArray, List.set_cons_zero, List.set_cons_succ]
         refine wpAnyH_ready (rs := [11]) (by kernel_rfl) (by simp) ?_
         refine AllReadyH.cons (o := ⟨none, .store 2 (.tmp 49) (.tmp 46), 0, "column.go:44", #[⟨10, .data⟩, ⟨7, .data⟩, ⟨0, .phase⟩, ⟨1, .phase⟩, ⟨2, .phase⟩, { on := 3, ground := Ground.textOnly Departure.lateStores }, { on := 4, ground := Ground.textOnly Departure.lateStores }, { on := 5, ground := Ground.textOnly Departure.lateStores }, ⟨6, .phase⟩, ⟨7, .phase⟩, { on := 8, ground := Ground.textOnly Departure.lateStores }, { on := 9, ground := Ground.textOnly Departure.lateStores }], none⟩) rfl (fun K hK => ?_) AllReadyH.nil
         go_simp
   
         try go_wp2_with fail
         refine hK.out _ _ ?_ (fun hHeld1 => ?_)
         · (try dsimp only); first | exact ⟨y0, y1, t1, t3⟩ | exact ⟨y0a, y1a, t1a, t3a⟩ | exact ⟨y0b, y1b, t1b, t3b⟩
         clear hK K hHeld0
         try simp only [Act.put, List.setIfInBounds_toArray, List.set_cons_zero, List.set_cons_succ]
         refine wpAnyH_take (i := 12) (oi := ⟨some 50, .indexAddr 24 (.tmp 43) (.tmp 44), 0, "column.go:44", #[⟨4, .data⟩, ⟨5, .data⟩, ⟨0, .phase⟩, ⟨1, .phase⟩, ⟨2, .phase⟩, ⟨3, .phase⟩, ⟨4, .phase⟩, ⟨5, .phase⟩, ⟨6, .phase⟩, ⟨7, .phase⟩, ⟨8, .phase⟩, ⟨9, .phase⟩, ⟨10, .phase⟩, ⟨11, .phase⟩], none⟩) (v := ?_) rfl (by kernel_rfl) (by kernel_rfl) (by kernel_rfl) (fun _ _ _ h => h) (Or.inl ⟨by rfl, ?_⟩) (by assumption) ?_
         rotate_left
         · intro w hSw; (try dsimp only at hSw); first | (go_simp; done) | (go_simp; with_reducible rfl)
         try simp only [Act.put, List.setIfInBounds_toArray, List.set_cons_zero, List.set_cons_succ]
         refine wpAnyH_ready (rs := [13]) (by kernel_rfl) (by simp) ?_
         refine AllReadyH.cons (o := ⟨none, .store 3 (.tmp 50) (.tmp 48), 0, "column.go:44", #[⟨12, .data⟩, ⟨9, .data⟩, ⟨11, .chain⟩, ⟨0, .phase⟩, ⟨1, .phase⟩, ⟨2, .phase⟩, ⟨3, .phase⟩, ⟨4, .phase⟩, ⟨5, .phase⟩, ⟨6, .phase⟩, ⟨7, .phase⟩, ⟨8, .phase⟩, ⟨9, .phase⟩, ⟨10, .phase⟩, ⟨11, .phase⟩], none⟩) rfl (fun K hK => ?_) AllReadyH.nil
         go_simp
   
         try go_wp2_with fail
         refine hK.out _ _ ?_ (fun hHeld2 => ?_)
         · (try dsimp only); first | exact ⟨y0, y1, t1, t3⟩ | exact ⟨y0a, y1a, t1a, t3a⟩ | exact ⟨y0b, y1b, t1b, t3b⟩
         clear hK K hHeld1
         try simp only [Act.put, List.setIfInBounds_toArray, List.set_cons_zero, List.set_cons_succ]
         refine wpAnyH_done (by kernel_rfl) ?_ _
         have Ed : Ext wr W10.drew := X10.out.drew
         have N2 : CelI ((W10.drew.setCell ⟨g2, j, none⟩ (.int .i64 z1)).setCell ⟨g5, j, none⟩ (.int .i64 z3)) g2 (fillI (lnN area l) (j + 1)) := by
           have := (H2.out.ext Ed).set (List.getElem?_eq_some_iff.1 G2.out).1 z1
           rw [fill_step LN.out] at this
           exact this.far1 HG.out.1.symm _
         have N5 : CelI ((W10.drew.setCell ⟨g2, j, none⟩ (.int .i64 z1)).setCell ⟨g5, j, none⟩ (.int .i64 z3)) g5 (fillI (lnE area l) (j + 1)) := by
           have := ((H5.out.ext Ed).far1 (b := g2) (o := j) HG.out.1 (.int .i64 z1)).set (List.getElem?_eq_some_iff.1 G5.out).1 z3
           rw [fill_step LE.out] at this
           exact this
         have N7 := ((H7.out.ext Ed).far (c := g2) (o := j) HG.out.2.1.symm (.int .i64 z1)).far (c := g5) (o := j) HG.out.2.2.1.symm (.int .i64 z3)
         have N4 := ((H4.out.ext Ed).far (c := g2) (o := j) (by have := HG.out; omega) (.int .i64 z1)).far (c := g5) (o := j) (by have := HG.out; omega) (.int .i64 z3)
         have NX := ((HE.out.trans Ed).setCell (p := ⟨g2, j, none⟩) (by have := HG.out; (try dsimp only); omega) (.int .i64 z1)).setCell (p := ⟨g5, j, none⟩) (by have := HG.out; (try dsimp only); omega) (.int .i64 z3)
         have L2 : Hid (Ext W (((W10.setCell ⟨g2, j, none⟩ (.int .i64 z1)).setCell ⟨g5, j, none⟩ (.int .i64 z3)).drew) ∧ CelI (((W10.setCell ⟨g2, j, none⟩ (.int .i64 z1)).setCell ⟨g5, j, none⟩ (.int .i64 z3)).drew) g2 (fillI (lnN area l) (j + 1)) ∧ CelI (((W10.setCell ⟨g2, j, none⟩ (.int .i64 z1)).setCell ⟨g5, j, none⟩ (.int .i64 z3)).drew) g5 (fillI (lnE area l) (j + 1)) ∧ VB (((W10.setCell ⟨g2, j, none⟩ (.int .i64 z1)).setCell ⟨g5, j, none⟩ (.int .i64 z3)).drew) g7 (.slice (some ⟨g2, 0, none⟩) n n) (.slice (some ⟨g5, 0, none⟩) n n) ∧ VB (((W10.setCell ⟨g2, j, none⟩ (.int .i64 z1)).setCell ⟨g5, j, none⟩ (.int .i64 z3)).drew) W.heap.size (.slice none 0 0) (.slice none 0 0)) := ⟨NX, N2, N5, N7, N4⟩
         clear NX N2 N5 N7 N4 y0 y1 t0 t1 t2 t3 y0a y1a t1a t3a y0b y1b t1b t3b c2c c2f c5c c5f c5a f5a p0 p1 o0 o1 o2 o3 h27 h57 h25 Ed X10 X3 hb10 D10 H2 H5 H7 H4 hltI
         try clear hHeld2
         try clear hHeld1
         try clear hHeld0
         generalize ((W10.setCell ⟨g2, j, none⟩ (.int .i64 z1)).setCell ⟨g5, j, none⟩ (.int .i64 z3)).drew = Wz at *
         have wk := WK.out
         go_wp2_with fail
         go_roundw
         case rel =>
           obtain ⟨NX, N2, N5, N7, N4⟩ := L2.out
           exact ⟨j + 1, by go_num, HJ.out, by rw [LP2.out], NX, N2, N5, N7, N4⟩
         case measure => exact meas_lt (congrArg _ WK.out) HJ.out
       · have LP2 : Hid (plainL (l.take (j + 1)) = pb) := by show _ = _; have := LP.out; simpa using this
         clear LP
         go_wp2_with fail
         refine (c1 _).mono ?_
         rintro e2 w2 ⟨rfl, E2⟩
         have hN8 : Nm w2 := HN.out.ext (HE.out.trans (X8.trans E2))
         have X8b : Ext wr w2 := X8.trans E2
         have kk0 := E2.some b0
         have kk1 := E2.some b1
         have kk2 := E2.some b2
         have kk3 := E2.some b3
         clear c1 E2 b0 b1 b2 b3 f0 f1 f2 f3 X8
         go_wp2_with fail
         refine (c2 _ hN8).mono ?_
         rintro e3 w3 ⟨rfl, E3⟩
         have X3 : Ext wr w3 := X8b.trans E3
         clear c2 hN8 E3 
         go_wp2_with fail
         have T10 := blk_top (w := w3) (x0 := .int .i64 z0) (x1 := .int .i64 z1) (x2 := .string z2) (x3 := .int .i64 z3) (T := 33) (b := w3.heap.size) rfl (Ext.refl _)
         have X10 : Hid (Ext wr (w3.alloc (.cells #[.int .i64 z0, .int .i64 z1, .string z2, .int .i64 z3] 33))) := X3.alloc _
         have hb10 : g2 ≠ w3.heap.size ∧ g5 ≠ w3.heap.size := ⟨by have := H2.out.lt; have := X3.size; omega, by have := H5.out.lt; have := X3.size; omega⟩
         generalize w3.alloc (.cells #[.int .i64 z0, .int .i64 z1, .string z2, .int .i64 z3] 33) = W10 at *
         generalize w3.heap.size = b10 at *
         have D10 : Hid (g2 ≠ b10 ∧ g5 ≠ b10) := hb10
         obtain ⟨_, ⟨t0, t1, t2, t3⟩, o0, o1, o2, o3⟩ := T10
         obtain ⟨_, ⟨y0, y1⟩, p0, p1⟩ := (H7.out.ext X10.out).blk
         obtain ⟨c2c, c2f⟩ := (H2.out.ext X10.out).c j 0 G2.out
         obtain ⟨c5c, c5f⟩ := (H5.out.ext X10.out).c j 0 G5.out
         have h27 := HG.out.2.1
         have h57 := HG.out.2.2.1
         have h25 := HG.out.1
         have y0a : (W10.drew.setCell ⟨g2, j, none⟩ (.int .i64 z1)).cell? ⟨g7, 0, none⟩ = some (.slice (some ⟨g2, 0, none⟩) n n) := by rw [World.cell?_setCell_far _ _ _ _ h27]; exact y0
         have y1a : (W10.drew.setCell ⟨g2, j, none⟩ (.int .i64 z1)).cell? ⟨g7, 1, none⟩ = some (.slice (some ⟨g5, 0, none⟩) n n) := by rw [World.cell?_setCell_far _ _ _ _ h27]; exact y1
         have t1a : (W10.drew.setCell ⟨g2, j, none⟩ (.int .i64 z1)).cell? ⟨b10, 1, none⟩ = some (.int .i64 z1) := by rw [World.cell?_setCell_far _ _ _ _ D10.out.1]; exact t1
         have t3a : (W10.drew.setCell ⟨g2, j, none⟩ (.int .i64 z1)).cell? ⟨b10, 3, none⟩ = some (.int .i64 z3) := by rw [World.cell?_setCell_far _ _ _ _ D10.out.1]; exact t3
         have c5a : (W10.drew.setCell ⟨g2, j, none⟩ (.int .i64 z1)).cell? ⟨g5, j, none⟩ = some (.int .i64 0) := by rw [World.cell?_setCell_far _ _ _ _ h25]; exact c5c
         have f5a : (W10.drew.setCell ⟨g2, j, none⟩ (.int .i64 z1)).frozen? ⟨g5, j, none⟩ = false := by rw [World.frozen?_setCell]; exact c5f
         have y0b : ((W10.drew.setCell ⟨g2, j, none⟩ (.int .i64 z1)).setCell ⟨g5, j, none⟩ (.int .i64 z3)).cell? ⟨g7, 0, none⟩ = some (.slice (some ⟨g2, 0, none⟩) n n) := by rw [World.cell?_setCell_far _ _ _ _ h57]; exact y0a
         have y1b : ((W10.drew.setCell ⟨g2, j, none⟩ (.int .i64 z1)).setCell ⟨g5, j, none⟩ (.int .i64 z3)).cell? ⟨g7, 1, none⟩ = some (.slice (some ⟨g5, 0, none⟩) n n) := by rw [World.cell?_setCell_far _ _ _ _ h57]; exact y1a
         have t1b : ((W10.drew.setCell ⟨g2, j, none⟩ (.int .i64 z1)).setCell ⟨g5, j, none⟩ (.int .i64 z3)).cell? ⟨b10, 1, none⟩ = some (.int .i64 z1) := by rw [World.cell?_setCell_far _ _ _ _ D10.out.2]; exact t1a
         have t3b : ((W10.drew.setCell ⟨g2, j, none⟩ (.int .i64 z1)).setCell ⟨g5, j, none⟩ (.int .i64 z3)).cell? ⟨b10, 3, none⟩ = some (.int .i64 z3) := by rw [World.cell?_setCell_far _ _ _ _ D10.out.2]; exact t3a
         refine wp_region_held_drew (S := fun w => w.cell? ⟨g7, 0, none⟩ = some (.slice (some ⟨g2, 0, none⟩) n n) ∧ w.cell? ⟨g7, 1, none⟩ = some (.slice (some ⟨g5, 0, none⟩) n n) ∧ w.cell? ⟨b10, 1, none⟩ = some (.int .i64 z1) ∧ w.cell? ⟨b10, 3, none⟩ = some (.int .i64 z3)) (by kernel_rfl) ?_ (fun hHeld0 => ?_)
         · first | exact ⟨y0, y1, t1, t3⟩ | exact ⟨y0a, y1a, t1a, t3a⟩ | exact ⟨y0b, y1b, t1b, t3b⟩
         refine wpAnyH_take (i := 0) (oi := ⟨some 39, .fieldAddr 26 (.tmp 6) 0, 0, "column.go:44", #[], none⟩) (v := ?_) rfl (by kernel_rfl) (by kernel_rfl) (by kernel_rfl) (fun _ _ _ h => h) (Or.inl ⟨by rfl, ?_⟩) (by assumption) ?_
         rotate_left
         · intro w hSw; (try dsimp only at hSw); first | (go_simp; done) | (go_simp; with_reducible rfl)
         try simp only [Act.put, List.setIfInBounds_toArray, List.set_cons_zero, List.set_cons_succ]
         refine wpAnyH_take (i := 1) (oi := ⟨some 40, .load 23 (.tmp 39), 23, "column.go:44", #[⟨0, .data⟩], none⟩) (v := ?_) rfl (by kernel_rfl) (by kernel_rfl) (by kernel_rfl) (fun _ _ _ h => h) (Or.inl ⟨by rfl, ?_⟩) (by assumption) ?_
         rotate_left
         · intro w hSw; (try dsimp only at hSw); first | (go_simp; done) | (go_simp; with_reducible rfl)
         try simp only [Act.put, List.setIfInBounds_toArray, List.set_cons_zero, List.set_cons_succ]
         refine wpAnyH_take (i := 2) (oi := ⟨some 41, .move (.tmp 8), 3, "column.go:44", #[], none⟩) (v := ?_) rfl (by kernel_rfl) (by kernel_rfl) (by kernel_rfl) (fun _ _ _ h => h) (Or.inl ⟨by rfl, ?_⟩) (by assumption) ?_
         rotate_left
         · intro w hSw; (try dsimp only at hSw); first | (go_simp; done) | (go_simp; with_reducible rfl)
         try simp only [Act.put, List.setIfInBounds_toArray, List.set_cons_zero, List.set_cons_succ]
         refine wpAnyH_take (i := 3) (oi := ⟨some 42, .fieldAddr 26 (.tmp 6) 1, 0, "column.go:44", #[{ on := 11, ground := Ground.gcOnly Departure.lateStores }], none⟩) (v := ?_) rfl (by kernel_rfl) (by kernel_rfl) (by kernel_rfl) (fun _ _ _ h => h) (Or.inl ⟨by rfl, ?_⟩) (by assumption) ?_
         rotate_left
         · intro w hSw; (try dsimp only at hSw); first | (go_simp; done) | (go_simp; with_reducible rfl)
         try simp only [Act.put, List.setIfInBounds_toArray, List.set_cons_zero, List.set_cons_succ]
         refine wpAnyH_take (i := 4) (oi := ⟨some 43, .load 24 (.tmp 42), 24, "column.go:44", #[⟨3, .data⟩, { on := 11, ground := Ground.gcOnly Departure.lateStores }], none⟩) (v := ?_) rfl (by kernel_rfl) (by kernel_rfl) (by kernel_rfl) (fun _ _ _ h => h) (Or.inl ⟨by rfl, ?_⟩) (by assumption) ?_
         rotate_left
         · intro w hSw; (try dsimp only at hSw); first | (go_simp; done) | (go_simp; with_reducible rfl)
         try simp only [Act.put, List.setIfInBounds_toArray, List.set_cons_zero, List.set_cons_succ]
         refine wpAnyH_take (i := 5) (oi := ⟨some 44, .move (.tmp 8), 3, "column.go:44", #[{ on := 11, ground := Ground.gcOnly Departure.lateStores }], none⟩) (v := ?_) rfl (by kernel_rfl) (by kernel_rfl) (by kernel_rfl) (fun _ _ _ h => h) (Or.inl ⟨by rfl, ?_⟩) (by assumption) ?_
         rotate_left
         · intro w hSw; (try dsimp only at hSw); first | (go_simp; done) | (go_simp; with_reducible rfl)
         try simp only [Act.put, List.setIfInBounds_toArray, List.set_cons_zero, List.set_cons_succ]
         refine wpAnyH_take (i := 6) (oi := ⟨some 45, .fieldAddr 33 (.tmp 10) 1, 0, "column.go:44", #[], none⟩) (v := ?_) rfl (by kernel_rfl) (by kernel_rfl) (by kernel_rfl) (fun _ _ _ h => h) (Or.inl ⟨by rfl, ?_⟩) (by assumption) ?_
         rotate_left
         · intro w hSw; (try dsimp only at hSw); first | (go_simp; done) | (go_simp; with_reducible rfl)
         try simp only [Act.put, List.setIfInBounds_toArray, List.set_cons_zero, List.set_cons_succ]
         refine wpAnyH_take (i := 7) (oi := ⟨some 46, .load 2 (.tmp 45), 2, "column.go:44", #[⟨6, .data⟩], none⟩) (v := ?_) rfl (by kernel_rfl) (by kernel_rfl) (by kernel_rfl) (fun _ _ _ h => h) (Or.inl ⟨by rfl, ?_⟩) (by assumption) ?_
         rotate_left
         · intro w hSw; (try dsimp only at hSw); first | (go_simp; done) | (go_simp; with_reducible rfl)
         try simp only [Act.put, List.setIfInBounds_toArray, List.set_cons_zero, List.set_cons_succ]
         refine wpAnyH_take (i := 8) (oi := ⟨some 47, .fieldAddr 33 (.tmp 10) 3, 0, "column.go:44", #[{ on := 11, ground := Ground.gcOnly Departure.lateStores }], none⟩) (v := ?_) rfl (by kernel_rfl) (by kernel_rfl) (by kernel_rfl) (fun _ _ _ h => h) (Or.inl ⟨by rfl, ?_⟩) (by assumption) ?_
         rotate_left
         · intro w hSw; (try dsimp only at hSw); first | (go_simp; done) | (go_simp; with_reducible rfl)
         try simp only [Act.put, List.setIfInBounds_toArray, List.set_cons_zero, List.set_cons_succ]
         refine wpAnyH_take (i := 9) (oi := ⟨some 48, .load 3 (.tmp 47), 3, "column.go:44", #[⟨8, .data⟩, { on := 11, ground := Ground.gcOnly Departure.lateStores }], none⟩) (v := ?_) rfl (by kernel_rfl) (by kernel_rfl) (by kernel_rfl) (fun _ _ _ h => h) (Or.inl ⟨by rfl, ?_⟩) (by assumption) ?_
         rotate_left
         · intro w hSw; (try dsimp only at hSw); first | (go_simp; done) | (go_simp; with_reducible rfl)
         try simp only [Act.put, List.setIfInBounds_toArray, List.set_cons_zero, List.set_cons_succ]
         refine wpAnyH_take (i := 10) (oi := ⟨some 49, .indexAddr 23 (.tmp 40) (.tmp 41), 0, "column.go:44", #[⟨1, .data⟩, ⟨2, .data⟩, ⟨0, .phase⟩, ⟨1, .phase⟩, ⟨2, .phase⟩, { on := 3, ground := Ground.textOnly Departure.lateStores }, { on := 4, ground := Ground.textOnly Departure.lateStores }, { on := 5, ground := Ground.textOnly Departure.lateStores }, ⟨6, .phase⟩, ⟨7, .phase⟩, { on := 8, ground := Ground.textOnly Departure.lateStores }, { on := 9, ground := Ground.textOnly Departure.lateStores }], none⟩) (v := ?_) rfl (by kernel_rfl) (by kernel_rfl) (by kernel_rfl) (fun _ _ _ h => h) (Or.inl ⟨by rfl, ?_⟩) (by assumption) ?_
         rotate_left
         · intro w hSw; (try dsimp only at hSw); first | (go_simp; done) | (go_simp; with_reducible rfl)
         try simp only [Act.put, List.setIfInBounds_toArray, List.set_cons_zero, List.set_cons_succ]
         refine wpAnyH_ready (rs := [11]) (by kernel_rfl) (by simp) ?_
         refine AllReadyH.cons (o := ⟨none, .store 2 (.tmp 49) (.tmp 46), 0, "column.go:44", #[⟨10, .data⟩, ⟨7, .data⟩, ⟨0, .phase⟩, ⟨1, .phase⟩, ⟨2, .phase⟩, { on := 3, ground := Ground.textOnly Departure.lateStores }, { on := 4, ground := Ground.textOnly Departure.lateStores }, { on := 5, ground := Ground.textOnly Departure.lateStores }, ⟨6, .phase⟩, ⟨7, .phase⟩, { on := 8, ground := Ground.textOnly Departure.lateStores }, { on := 9, ground := Ground.textOnly Departure.lateStores }], none⟩) rfl (fun K hK => ?_) AllReadyH.nil
         go_simp
   
         try go_wp2_with fail
         refine hK.out _ _ ?_ (fun hHeld1 => ?_)
         · (try dsimp only); first | exact ⟨y0, y1, t1, t3⟩ | exact ⟨y0a, y1a, t1a, t3a⟩ | exact ⟨y0b, y1b, t1b, t3b⟩
         clear hK K hHeld0
         try simp only [Act.put, List.setIfInBounds_toArray, List.set_cons_zero, List.set_cons_succ]
         refine wpAnyH_take (i := 12) (oi := ⟨some 50, .indexAddr 24 (.tmp 43) (.tmp 44), 0, "column.go:44", #[⟨4, .data⟩, ⟨5, .data⟩, ⟨0, .phase⟩, ⟨1, .phase⟩, ⟨2, .phase⟩, ⟨3, .phase⟩, ⟨4, .phase⟩, ⟨5, .phase⟩, ⟨6, .phase⟩, ⟨7, .phase⟩, ⟨8, .phase⟩, ⟨9, .phase⟩, ⟨10, .phase⟩, ⟨11, .phase⟩], none⟩) (v := ?_) rfl (by kernel_rfl) (by kernel_rfl) (by kernel_rfl) (fun _ _ _ h => h) (Or.inl ⟨by rfl, ?_⟩) (by assumption) ?_
         rotate_left
         · intro w hSw; (try dsimp only at hSw); first | (go_simp; done) | (go_simp; with_reducible rfl)
         try simp only [Act.put, List.setIfInBounds_toArray, List.set_cons_zero, List.set_cons_succ]
         refine wpAnyH_ready (rs := [13]) (by kernel_rfl) (by simp) ?_
         refine AllReadyH.cons (o := ⟨none, .store 3 (.tmp 50) (.tmp 48), 0, "column.go:44", #[⟨12, .data⟩, ⟨9, .data⟩, ⟨11, .chain⟩, ⟨0, .phase⟩, ⟨1, .phase⟩, ⟨2, .phase⟩, ⟨3, .phase⟩, ⟨4, .phase⟩, ⟨5, .phase⟩, ⟨6, .phase⟩, ⟨7, .phase⟩, ⟨8, .phase⟩, ⟨9, .phase⟩, ⟨10, .phase⟩, ⟨11, .phase⟩], none⟩) rfl (fun K hK => ?_) AllReadyH.nil
         go_simp
   
         try go_wp2_with fail
         refine hK.out _ _ ?_ (fun hHeld2 => ?_)
         · (try dsimp only); first | exact ⟨y0, y1, t1, t3⟩ | exact ⟨y0a, y1a, t1a, t3a⟩ | exact ⟨y0b, y1b, t1b, t3b⟩
         clear hK K hHeld1
         try simp only [Act.put, List.setIfInBounds_toArray, List.set_cons_zero, List.set_cons_succ]
         refine wpAnyH_done (by kernel_rfl) ?_ _
         have Ed : Ext wr W10.drew := X10.out.drew
         have N2 : CelI ((W10.drew.setCell ⟨g2, j, none⟩ (.int .i64 z1)).setCell ⟨g5, j, none⟩ (.int .i64 z3)) g2 (fillI (lnN area l) (j + 1)) := by
           have := (H2.out.ext Ed).set (List.getElem?_eq_some_iff.1 G2.out).1 z1
           rw [fill_step LN.out] at this
           exact this.far1 HG.out.1.symm _
         have N5 : CelI ((W10.drew.setCell ⟨g2, j, none⟩ (.int .i64 z1)).setCell ⟨g5, j, none⟩ (.int .i64 z3)) g5 (fillI (lnE area l) (j + 1)) := by
           have := ((H5.out.ext Ed).far1 (b := g2) (o := j) HG.out.1 (.int .i64 z1)).set (List.getElem?_eq_some_iff.1 G5.out).1 z3
           rw [fill_step LE.out] at this
           exact this
         have N7 := ((H7.out.ext Ed).far (c := g2) (o := j) HG.out.2.1.symm (.int .i64 z1)).far (c := g5) (o := j) HG.out.2.2.1.symm (.int .i64 z3)
         have N4 := ((H4.out.ext Ed).far (c := g2) (o := j) (by have := HG.out; omega) (.int .i64 z1)).far (c := g5) (o := j) (by have := HG.out; omega) (.int .i64 z3)
         have NX := ((HE.out.trans Ed).setCell (p := ⟨g2, j, none⟩) (by have := HG.out; (try dsimp only); omega) (.int .i64 z1)).setCell (p := ⟨g5, j, none⟩) (by have := HG.out; (try dsimp only); omega) (.int .i64 z3)
         have L2 : Hid (Ext W (((W10.setCell ⟨g2, j, none⟩ (.int .i64 z1)).setCell ⟨g5, j, none⟩ (.int .i64 z3)).drew) ∧ CelI (((W10.setCell ⟨g2, j, none⟩ (.int .i64 z1)).setCell ⟨g5, j, none⟩ (.int .i64 z3)).drew) g2 (fillI (lnN area l) (j + 1)) ∧ CelI (((W10.setCell ⟨g2, j, none⟩ (.int .i64 z1)).setCell ⟨g5, j, none⟩ (.int .i64 z3)).drew) g5 (fillI (lnE area l) (j + 1)) ∧ VB (((W10.setCell ⟨g2, j, none⟩ (.int .i64 z1)).setCell ⟨g5, j, none⟩ (.int .i64 z3)).drew) g7 (.slice (some ⟨g2, 0, none⟩) n n) (.slice (some ⟨g5, 0, none⟩) n n) ∧ VB (((W10.setCell ⟨g2, j, none⟩ (.int .i64 z1)).setCell ⟨g5, j, none⟩ (.int .i64 z3)).drew) W.heap.size (.slice none 0 0) (.slice none 0 0)) := ⟨NX, N2, N5, N7, N4⟩
         clear NX N2 N5 N7 N4 y0 y1 t0 t1 t2 t3 y0a y1a t1a t3a y0b y1b t1b t3b c2c c2f c5c c5f c5a f5a p0 p1 o0 o1 o2 o3 h27 h57 h25 Ed X10 X3 hb10 D10 H2 H5 H7 H4 hltI
         try clear hHeld2
         try clear hHeld1
         try clear hHeld0
         generalize ((W10.setCell ⟨g2, j, none⟩ (.int .i64 z1)).setCell ⟨g5, j, none⟩ (.int .i64 z3)).drew = Wz at *
         have wk := WK.out
         go_wp2_with fail
         go_roundw
         case rel =>
           obtain ⟨NX, N2, N5, N7, N4⟩ := L2.out
           exact ⟨j + 1, by go_num, HJ.out, by rw [LP2.out], NX, N2, N5, N7, N4⟩
         case measure => exact meas_lt (congrArg _ WK.out) HJ.out
     · have hltI : ¬ (j : Int) < (n : Int) := by omega
       have hjn : j = n := by omega
       have R2 : Hid (RdI wr (.slice (some ⟨g2, 0, none⟩) n n) (lnN area l)) := by
         have := H2.out
         rw [show j = (lnN area l).length by rw [(ln_len area l).1, HL.out.1, hjn], fill_full] at this
         exact this.rd (by rw [(ln_len area l).1, HL.out.1])
       have R5 : Hid (RdI wr (.slice (some ⟨g5, 0, none⟩) n n) (lnE area l)) := by
         have := H5.out
         rw [show j = (lnE area l).length by rw [(ln_len area l).2, HL.out.1, hjn], fill_full] at this
         exact this.rd (by rw [(ln_len area l).2, HL.out.1])
       have RP : Hid (plainL (l.take j) = plainL l) := by show _ = _; rw [List.take_of_length_le (by rw [HL.out.1]; omega)]
       clear hj hlt hjn H2 H5
       obtain ⟨_, ⟨y0, y1⟩, p0, p1⟩ := H7.out.blk
       obtain ⟨_, ⟨j0, j1⟩, g0, g1⟩ := H4.out.blk
       generalize plainL (l.take j) = pl at RP ⊢
       go_wp2_with fail
       have hlt4 := H4.out.lt
       refine fin2 (.tuple #[.agg #[(.slice (some ⟨g2, 0, none⟩) n n), (.slice (some ⟨g5, 0, none⟩) n n)], .bool pl]) (H4.out.blk.set _ _) rfl ((HE.out.setCell (by (try dsimp only); omega) _).setCell (by (try dsimp only); omega) _) (fun g0 g1 => by simp [results, Tryd.results7, go_sem, g0, g1]) (fun h => ⟨_, _, by rw [RP.out], ?_, ?_, h⟩)
       · exact R2.out.far2 HG.out.2.2.2.1 _ _
       · exact R5.out.far2 HG.out.2.2.2.2.1 _ _

open Go.RowKit
set_option maxHeartbeats 4000000

def lv19 : List Rw := [⟨2, 10000, ⟨#[]⟩, 0⟩, ⟨0, 0, ⟨#[]⟩, 0⟩, ⟨3, 0, ⟨#[120]⟩, 0⟩]
theorem lv19_n : lnN false lv19 = [10000, 0, 0] := by decide
theorem lv19_e : lnE false lv19 = [0, 0, 2] := by decide
theorem lv19_p : plainL lv19 = false := by decide
set_option maxRecDepth 100000 in
theorem lives19_any (W : World) (hN : Nm W) : Calls Tryd.prog 13 #[] W fun r w' => r = .returned (.bool true) ∧ Ext W w' := by
 have c1 := fun w => rnum_any 10000 w
 rw [mkNum_is (by decide)] at c1
 have c2 := fun w => rtext_any ⟨#[120]⟩ w
 rw [mkText_is (by decide)] at c2
 simp only [V.dat] at c1 c2
 go_enter Tryd.func13, Tryd.ntmps13
 go_wp2_with fail
 refine (c1 _).mono ?_
 rintro r1 w1 ⟨rfl, E1⟩
 go_wp2_with fail
 refine (c2 _).mono ?_
 rintro r2 w2 ⟨rfl, E2⟩
 have X2 : Ext W w2 := E1.trans E2
 clear E1 E2 c1 c2
 go_wp2_with fail
 have R0 : RdV (w2.alloc (.cells #[.int .i64 2, .int .i64 10000, .string ⟨#[]⟩, .int .i64 0, .int .i64 0, .int .i64 0, .string ⟨#[]⟩, .int .i64 0, .int .i64 3, .int .i64 0, .string ⟨#[120]⟩, .int .i64 0] 33)).heap.size (w2.alloc (.cells #[.int .i64 2, .int .i64 10000, .string ⟨#[]⟩, .int .i64 0, .int .i64 0, .int .i64 0, .string ⟨#[]⟩, .int .i64 0, .int .i64 3, .int .i64 0, .string ⟨#[120]⟩, .int .i64 0] 33)) (.slice (some ⟨w2.heap.size, 0, none⟩) 3 3) lv19 := by
   refine ⟨_, 3, rfl, Nat.le_refl _, .inr ⟨w2.heap.size, 0, rfl, by simp, by simp, fun i r hr => ?_⟩⟩
   match i, hr with
   | 0, hr => simp [lv19] at hr; subst hr; refine ⟨?_, ?_, ?_, ?_⟩ <;> simp [go_sem]
   | 1, hr => simp [lv19] at hr; subst hr; refine ⟨?_, ?_, ?_, ?_⟩ <;> simp [go_sem]
   | 2, hr => simp [lv19] at hr; subst hr; refine ⟨?_, ?_, ?_, ?_⟩ <;> simp [go_sem]
   | i + 3, hr => simp [lv19] at hr
 have X3 : Ext W (w2.alloc (.cells #[.int .i64 2, .int .i64 10000, .string ⟨#[]⟩, .int .i64 0, .int .i64 0, .int .i64 0, .string ⟨#[]⟩, .int .i64 0, .int .i64 3, .int .i64 0, .string ⟨#[120]⟩, .int .i64 0] 33)) := X2.alloc _
 generalize w2.alloc (.cells #[.int .i64 2, .int .i64 10000, .string ⟨#[]⟩, .int .i64 0, .int .i64 0, .int .i64 0, .string ⟨#[]⟩, .int .i64 0, .int .i64 3, .int .i64 0, .string ⟨#[120]⟩, .int .i64 0] 33) = W3 at *
 have cO := cof_any W3 _ lv19 false (hN.ext X3) R0 (by intro r hr; simp [lv19] at hr; rcases hr with rfl | rfl | rfl <;> exact ⟨by decide, by decide⟩) (by decide)
 rw [lv19_n, lv19_e, lv19_p] at cO
 refine cO.mono ?_
 rintro r3 w3 ⟨u, v, rfl, R1, R2, E3⟩
 have X4 : Ext W w3 := X3.trans E3
 have hN3 : Nm w3 := hN.ext X4
 clear cO R0 E3 X3 X2
 obtain ⟨p, cp, rfl, hz⟩ := R1.form
 clear hz
 obtain ⟨q, cq, rfl, hz⟩ := R2.form
 clear hz
 have l1 : ([10000, 0, 0] : List Int).length = 3 := rfl
 have l2 : ([0, 0, 2] : List Int).length = 3 := rfl
 rw [l1] at R1
 rw [l2] at R2
 rw [l1, l2]
 clear l1 l2
 obtain ⟨b1, o1, hp1, hb1, k1⟩ := R1.cell (i := 0) (x := 10000) rfl
 obtain ⟨b2, o2, hp2, hb2, k2⟩ := R2.cell (i := 2) (x := 2) rfl
 subst hp1 hp2
 have cC := fun w (e : Ext w3 w) => ccan_any w _ _ [10000, 0, 0] [0, 0, 2] (hN3.ext e) (R1.ext e) (R2.ext e)
 rw [show canC [10000, 0, 0] [0, 0, 2] = true from by decide] at cC
 have R1h : Hid (RdI w3 (.slice (some ⟨b1, o1, none⟩) 3 cp) [10000, 0, 0]) := R1
 have R2h : Hid (RdI w3 (.slice (some ⟨b2, o2, none⟩) 3 cq) [0, 0, 2]) := R2
 clear R1 R2 hb1 hb2 hN3
 go_wp2_with fail
 refine (cC _ ((Ext.refl _).alloc _)).mono ?_
 rintro r4 w4 ⟨rfl, E4⟩
 have B4 := blk2_top (w := w3) (b := w3.heap.size) rfl E4
 have e34 : Ext w3 w4 := ((Ext.refl _).alloc _).trans E4
 obtain ⟨_, ⟨j0, j1⟩, g0, g1⟩ := B4
 have kk1 := (e34.cell.1 b1 _ (World.block_lt_of_cell? _ _ k1)).trans k1
 have kk2 := (e34.cell.1 b2 _ (World.block_lt_of_cell? _ _ k2)).trans k2
 simp only [Nat.add_zero] at kk1
 have X5 : Ext W w4 := X4.trans e34
 clear cC E4 k1 k2 e34 X4
 go_wp2_with fail
 go_ret
 exact ⟨rfl, X5⟩

open Go.ChangeShapes Go.WideShapes Go.RowKit
open Go.Joins (trod_struct4)
open Go.Deep (choose_lt)
set_option maxHeartbeats 2000000

theorem qc_int : Tryd.prog.cellsOf 3 = 1 := by kernel_rfl
theorem qc_int64 : Tryd.prog.cellsOf 2 = 1 := by kernel_rfl
section
variable {H : Type} {enc : TypeId × Value → H} {w : World} {base : Nat} {sp : Nat → Bool} {hd : Bool}
instance : Inhabited Rw := ⟨⟨0, 0, ⟨#[]⟩, 0⟩⟩
instance : Inhabited Ag := ⟨⟨false, []⟩⟩
end

open Go.ChangeShapes Go.WideShapes Go.RowKit
set_option maxHeartbeats 2000000

theorem qv_int : Tryd.prog.bytesOf 3 = 8 := by kernel_rfl
theorem qv_int64 : Tryd.prog.bytesOf 2 = 8 := by kernel_rfl
theorem cells_vec : Tryd.prog.cellsOf 26 = 2 := by kernel_rfl
section
variable {H : Type} {enc : TypeId × Value → H} {w : World} {base : Nat} {sp : Nat → Bool} {hd : Bool}
theorem open_list {TS T : TypeId} {fuel : Nat} {c : Value} {x : DataW H × List MemPlace} (hu : Tryd.prog.underlying TS = some (.slice T)) (hc1 : Tryd.prog.cellsOf T = 1) (hb8 : Tryd.prog.bytesOf T = 8)
   (hel : ∀ {f : Nat} {c : Value} {y : DataW H × List MemPlace}, DataW.trod enc Tryd.prog w base sp hd f T [c] = some y → ∃ q : Int, c = .int .i64 q) (h : DataW.trod enc Tryd.prog w base sp hd fuel TS [c] = some x) :
   ∃ l, RdI w c l ∧ ((∀ n ∈ x.1.weights Tryd.prog TS, n ≤ reachBytes) → l.length * 8 ≤ reachBytes) := by
 rcases DataW.trod_slice hu h with ⟨e6, _⟩ | ⟨a, len, cap, elems, rest, n', hn', e6, hx0, hb, hl, hm, hln, hx, _, _⟩
 · simp only [List.cons.injEq, and_true] at e6
   subst e6
   exact ⟨[], RdG.nil w, fun _ => by simp⟩
 · simp only [List.cons.injEq, and_true] at e6
   subst e6
   have hsize : (∀ n ∈ x.1.weights Tryd.prog TS, n ≤ reachBytes) → len * 8 ≤ reachBytes := by
     intro hw
     subst hx0
     have := hw ((elems.length + rest.length) * Tryd.prog.bytesOf T) (by simp [DataW.weights, hu])
     rw [hb8] at this
     omega
   rw [hc1] at hx
   have each : ∀ i, i < len → ∃ q : Int, w.cell? (a.add (i * 1)) = some (.int .i64 q) := by
     intro i hi
     have h0 := hx i hi
     rw [List.getElem?_eq_getElem (show i < elems.length by omega)] at h0
     obtain ⟨cs', h1, h2⟩ := Option.bind_eq_some_iff.1 h0
     obtain ⟨_, k1, k2⟩ := World.cells?_some h1
     match cs', k1 with
     | [c0], _ =>
       obtain ⟨q, rfl⟩ := hel h2
       exact ⟨q, by have := k2 0 (by simp); rw [show (a.add (i * 1)).add 0 = a.add (i * 1) from rfl] at this; simpa using this⟩
   obtain ⟨f, hf⟩ := Go.Deep.choose_lt each
   by_cases h0 : len = 0
   · subst h0
     exact ⟨[], ⟨_, _, rfl, by simp, .inl rfl⟩, fun _ => by simp⟩
   obtain ⟨b, off, spot⟩ := a
   have hz := hf 0 (by omega)
   have hspot : spot = none := by simpa [Addr.add] using World.cell?_spot hz
   subst hspot
   have hblt : b < w.heap.size := World.block_lt_of_cell? _ _ hz
   have hgl : ((List.range len).map f).length = len := by simp
   refine ⟨(List.range len).map f, ⟨_, cap, by rw [hgl], by rw [hgl]; omega, .inr ⟨b, off, rfl, hblt, fun i x j u hi hj => ?_⟩⟩, fun hw => by rw [hgl]; exact hsize hw⟩
   have hi' : i < len := by
     have := (List.getElem?_eq_some_iff.1 hi).1
     simpa using this
   rw [List.getElem?_map, List.getElem?_range hi'] at hi
   simp at hi
   subst hi
   match j, hj with
   | 0, hj =>
     simp [dI] at hj
     subst hj
     have := hf i hi'
     rw [Addr.add_lit] at this
     rw [Nat.add_zero]
     exact this
   | j + 1, hj => simp [dI] at hj
theorem open_i64s {fuel : Nat} {c : Value} {x : DataW H × List MemPlace} (h : DataW.trod enc Tryd.prog w base sp hd fuel 23 [c] = some x) :
   ∃ l, RdI w c l ∧ ((∀ n ∈ x.1.weights Tryd.prog 23, n ≤ reachBytes) → l.length * 8 ≤ reachBytes) :=
 open_list Tryd.underlying23 qc_int64 qv_int64 (fun h => by
   obtain ⟨a, e, _⟩ := DataW.trod_int Tryd.underlying2 h
   simp only [List.cons.injEq, and_true] at e
   exact ⟨a, e⟩) h
theorem open_ints {fuel : Nat} {c : Value} {x : DataW H × List MemPlace} (h : DataW.trod enc Tryd.prog w base sp hd fuel 24 [c] = some x) :
   ∃ l, RdI w c l ∧ ((∀ n ∈ x.1.weights Tryd.prog 24, n ≤ reachBytes) → l.length * 8 ≤ reachBytes) :=
 open_list Tryd.underlying24 qc_int qv_int (fun h => by
   obtain ⟨a, e, _⟩ := DataW.trod_int Tryd.underlying3 h
   simp only [List.cons.injEq, and_true] at e
   exact ⟨a, e⟩) h
end

open Go.ChangeShapes Go.WideShapes Go.ChangeAt Go.RowKit

theorem ownK : ownKnob Tryd.prog.godebug = none := by kernel_rfl
/-- A datum's cells. -/
def flat : Nat → DataW Unit → List Value
 | _ + 1, .lit (.int k z) => [.int k z]
 | _ + 1, .lit (.string l) => [.string ⟨l.toArray⟩]
 | n + 1, .agg ds => ds.flatMap (flat n)
 | _, _ => []
def layIn (cs : List Value) : Obj → Obj
 | .cells _ t frozen => .cells cs.toArray t frozen
 | o => o
theorem gNames : Tryd.prog.globalNamed "cadastre/value.names" = some 0 := by kernel_rfl
theorem gNamesType : (Tryd.prog.globals[0]?).map (·.type) = some 60 := by kernel_rfl
theorem cellsNames : Tryd.prog.cellsOf 60 = 6 := by kernel_rfl
theorem cellsStr : Tryd.prog.cellsOf 9 = 1 := by kernel_rfl
theorem names_of {W : World} {rest : List (String × DataW Unit)} (h : laidMet Tryd.prog (("cadastre/value.names", Rows.laid_cadastre_value_names) :: rest) W) : Nm W := by
 obtain ⟨ps, ⟨g', t', cs, fuel, p, q, hg', ht', hvar, hd, _, _⟩, _⟩ := h
 obtain rfl := Option.some.inj (gNames.symm.trans hg')
 obtain rfl := Option.some.inj (gNamesType.symm.trans ht')
 have hcell := World.var?_cell gNames hvar
 have hsz : 0 < W.heap.size := by
   have h0 := hvar
   simp only [World.var?, gNames, Option.bind_some] at h0
   cases hb : W.heap[0]? with
   | none => rw [hb] at h0; cases h0
   | some o => exact (Array.getElem?_eq_some_iff.1 hb).1
 cases fuel with
 | zero => simp [DataW.trod] at hd
 | succ fuel =>
   simp only [DataW.trod, Tryd.underlying60, cellsStr, cellsNames, Nat.mul_one] at hd
   split at hd
   · obtain ⟨xs, hm, hx⟩ := Option.map_eq_some_iff.1 hd
     have hxs : xs.map (·.1) = ([.lit (.string []), .lit (.string [35, 82, 69, 70, 33]), .lit (.string [35, 86, 65, 76, 85, 69, 33]), .lit (.string [35, 68, 73, 86, 47, 48, 33]), .lit (.string [35, 78, 85, 77, 33]), .lit (.string [35, 67, 89, 67, 76, 69, 33])] : List (DataW Unit)) := by
       have := congrArg Prod.fst hx
       simpa [Rows.laid_cadastre_value_names] using this
     have key : ∀ (i : Nat) (l : List UInt8), i < 6 → (xs.map (·.1))[i]? = some (DataW.lit (.string l)) → W.cell? ⟨0, i, none⟩ = some (.string ⟨l.toArray⟩) := by
       intro i l hi hl
       obtain ⟨b, hb, hf⟩ := Lib.mapM_at hm i i (by simp [hi])
       obtain ⟨s, hc, rfl, _⟩ := DataW.trod_string Tryd.underlying9 hf
       have h1 : cs.toList[i]? = some (.string s) := by
         have := congrArg (·[0]?) hc
         simpa [List.getElem?_take, List.getElem?_drop] using this
       have h2 : (xs.map (·.1))[i]? = some (DataW.lit (.string s.data.toList) : DataW Unit) := by simp [hb]
       rw [hl] at h2
       simp only [Option.some.injEq, DataW.lit.injEq, Lit.string.injEq] at h2
       rw [hcell i, h2]
       simpa using h1
     rw [hxs] at key
     exact ⟨hsz, key 0 _ (by decide) rfl, key 1 _ (by decide) rfl, key 2 _ (by decide) rfl, key 3 _ (by decide) rfl, key 4 _ (by decide) rfl, key 5 _ (by decide) rfl⟩
   · cases hd

open Go.ChangeShapes Go.WideShapes Go.ChangeAt Go.RowKit

def laidListC : List (String × DataW Unit) := Rows.columnOfRow.laid
def layAllC (h : Array Obj) : Array Obj := [(0, flat 4 Rows.laid_cadastre_value_names)].foldl (fun h x => h.modify x.1 (layIn x.2)) h
noncomputable def laidWorldC (os : Os) : World :=
 { World.holding Tryd.prog os ⟨#[], #[], []⟩ with heap := layAllC (World.holding Tryd.prog os ⟨#[], #[], []⟩).heap }
theorem nm_ofC {W : World} (h : laidMetH Tryd.prog laidListC W) : Nm W := by
 rw [MakeChecks.laidMetH_plain _ _ _ (by kernel_rfl)] at h
 exact names_of (show laidMet Tryd.prog (_ :: _) W from h)
end Go.Proofs.YteaoeichgibgiaaDoor

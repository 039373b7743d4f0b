/-
 Package order: groups.
 Package order: a search's steps: meet.
 Package order: a search's steps: gather.
 Package order: a search's steps: leave.
 Package order: a search's walk.
 Package order: others.
 How things come up: plain data.
 Package order's inOrder: what lies in memory.
-/
import Derived.Test.YtcjenjeggmlanaaY2
import Derived.Test.YtcjenjeggmlanaaY1
import Derived.Deep.CutBlock
import Derived.Maps.RangeWalk
namespace Go.Proofs.Ytcjenjeggmlanaa
open Go.RowKit
set_option maxHeartbeats 4000000

/-- The number that a thing is told. -/
def gF (ls : Nat → Nat) (L : List (Nat × Nat)) (v : Nat) : Int := if L.any (fun p => p.1 == v && ls p.1 == ls p.2) then (ls v : Int) else -1
theorem gF_nil (ls : Nat → Nat) : gF ls [] = fun _ => -1 := rfl
theorem gF_yes {ls : Nat → Nat} {L : List (Nat × Nat)} {k a b : Nat} (h : L[k]? = some (a, b)) (e : ls a = ls b) : gF ls (L.take (k + 1)) = upd (gF ls (L.take k)) a (ls a) := by
 funext v
 unfold gF upd
 rw [take_at h, List.any_append]
 by_cases hv : v = a
 · subst hv; simp [e]
 · have e' : (a == v && ls a == ls b) = false := by simp; exact fun e => absurd e.symm hv
   rw [if_neg hv]
   simp only [List.any_cons, List.any_nil, e', Bool.or_false]
theorem gF_no {ls : Nat → Nat} {L : List (Nat × Nat)} {k a b : Nat} (h : L[k]? = some (a, b)) (e : ls a ≠ ls b) : gF ls (L.take (k + 1)) = gF ls (L.take k) := by
 funext v
 unfold gF
 have e' : (a == v && ls a == ls b) = false := by simp; exact fun _ => e
 rw [take_at h, List.any_append]
 simp only [List.any_cons, List.any_nil, e', Bool.or_false]
set_option maxRecDepth 100000 in
theorem groups_any (w : World) (v vl : Value) (L : List (Nat × Nat)) (n : Nat) (ls : Nat → Nat) (h : RdG cM 2 w v L) (hL : L.length ≤ 100000) (hl : RdG cN 1 w vl (rng n ls)) (hn : n ≤ 5000) (hb : ∀ p ∈ L, p.1 < n ∧ p.2 < n) :
   Calls Try.prog 17 #[v, vl] w fun e w' => ∃ v', e = .returned v' ∧ w'.ownsRow w.heap.size 3 1 v' n ((rng n (gF ls L)).flatMap cI) ∧ Ext w w' := by
 obtain ⟨p, c, rfl, _⟩ := h.form
 obtain ⟨q, d, rfl, hqd⟩ := hl.form
 have HR : Hid (RdG cM 2 w (.slice p L.length c) L ∧ RdG cN 1 w (.slice q n d) (rng n ls)) := ⟨h, by have := hl; rwa [rng_len] at this⟩
 have HB : Hid (L.length ≤ 100000 ∧ n ≤ 5000 ∧ ∀ p ∈ L, p.1 < n ∧ p.2 < n) := ⟨hL, hn, hb⟩
 rw [rng_len] at hqd ⊢
 have mk := fun W => mk_int W n n (Nat.le_refl _) (by omega)
 obtain ⟨M, hM⟩ : ∃ M, L.length = M := ⟨_, rfl⟩
 have HM : Hid (L.length = M) := hM
 rw [hM] at HR ⊢
 have H0 : Hid ((w.alloc (.cells (zI n) 3)).ownsRow w.heap.size 3 1 (sl w.heap.size n) n ((rng n (fun v => if v < 0 then (-1 : Int) else 0)).flatMap cI)) := mk_full (Nat.le_refl _) (by omega) hI 0 rfl
 clear h hl hL hn hb hM hqd
 go_enter Try.func17, Try.ntmps17
 go_wp2_with fail
 go_loopw [14] (fun x wr => ∃ k : Nat, x = .int .i64 (k : Int) ∧ k ≤ n ∧ wr.ownsRow w.heap.size 3 1 (sl w.heap.size n) n ((rng n (fun v => if v < k then (-1 : Int) else 0)).flatMap cI) ∧ Ext w wr) (fun x _ => n - (intOf x).toNat)
 case atStart => exact ⟨0, rfl, Nat.zero_le _, H0.out, (Ext.refl _).alloc _⟩
 case round =>
   clear H0 mk
   obtain ⟨k, rfl, hk, hO, hE⟩ := hrel
   have HO : Hid (wr.ownsRow w.heap.size 3 1 (sl w.heap.size n) n ((rng n (fun v => if v < k then (-1 : Int) else 0)).flatMap cI) ∧ Ext w wr) := ⟨hO, hE⟩
   clear hE
   rcases Nat.lt_or_ge k n with hlt | hge
   · have hltI : (k : Int) < (n : Int) := by omega
     obtain ⟨c1, c2⟩ := own_cell hI hO hlt
     have wk := wrapI k (by have := HB.out; omega)
     clear hO
     go_wp2
     go_roundw
     case rel =>
       refine ⟨k + 1, by rw [wk], hlt, ?_, HO.out.2.setCell (Nat.le_refl _) _⟩
       have := own_put hI HO.out.1 k (-1)
       rwa [show upd (fun v => if v < k then (-1 : Int) else 0) k (-1) = fun v => if v < k + 1 then (-1 : Int) else 0 by
         funext v
         unfold upd
         by_cases e : v = k
         · subst e; simp
         · by_cases e2 : v < k
           · simp [e, e2, show v < k + 1 by omega]
           · simp [e, e2, show ¬ v < k + 1 by omega]] at this
     case measure => rw [wk]; simp [intOf]; omega
   · have hltI : ¬ (k : Int) < (n : Int) := by omega
     have H1 : Hid (wr.ownsRow w.heap.size 3 1 (sl w.heap.size n) n ((rng n (gF ls (L.take 0))).flatMap cI)) := by
       refine own_eq HO.out.1 rfl ?_
       rw [List.take_zero, gF_nil, rng_eq (g := fun _ => -1) (fun i hi => by rw [if_pos (by omega)])]
     clear hO hge
     go_wp2_with fail
     go_loopw [23] (fun x wq => ∃ j : Nat, x = .int .i64 (j : Int) ∧ j ≤ M ∧ wq.ownsRow w.heap.size 3 1 (sl w.heap.size n) n ((rng n (gF ls (L.take j))).flatMap cI) ∧ Ext w wq) (fun x _ => M - (intOf x).toNat)
     case atStart => exact ⟨0, rfl, Nat.zero_le _, H1.out, HO.out.2⟩
     case round =>
       clear H1 HO hltI
       obtain ⟨j, rfl, hj, hO, hE⟩ := hrel
       have HO : Hid (wr.ownsRow w.heap.size 3 1 (sl w.heap.size n) n ((rng n (gF ls (L.take j))).flatMap cI) ∧ Ext w wr) := ⟨hO, hE⟩
       rcases Nat.lt_or_ge j M with hlt | hge
       · have hltI : (j : Int) < (M : Int) := by omega
         obtain ⟨x, hx⟩ : ∃ x, L[j]? = some x := ⟨_, List.getElem?_eq_getElem (by have := HM.out; omega)⟩
         obtain ⟨x1, x2⟩ := x
         obtain ⟨b, off, rfl, bl, c1, c2⟩ := RdM.cell (HR.out.1.ext hE) hx
         have wj := wrapI j (by have := HB.out; have := HM.out; omega)
         obtain ⟨hx1, hx2⟩ := HB.out.2.2 _ (List.mem_of_getElem? hx)
         obtain ⟨lb, lo, rfl, ll, -⟩ := rd_at hN (HR.out.2.ext hE) (by omega)
         have HX : Hid (L[j]? = some (x1, x2) ∧ x1 < n ∧ x2 < n) := ⟨hx, hx1, hx2⟩
         clear hO hE hx hx1 hx2
         go_upto_region 10 with fail
         have HV : Hid (Ext wr (wr.alloc (.cells #[.int .i64 (x1 : Int), .int .i64 (x2 : Int)] 33))) := (Ext.refl _).alloc _
         have c3 : (wr.alloc (.cells #[.int .i64 (x1 : Int), .int .i64 (x2 : Int)] 33)).cell? ⟨wr.heap.size, 0, none⟩ = some (.int .i64 (x1 : Int)) := by simp [go_sem]
         have c4 : (wr.alloc (.cells #[.int .i64 (x1 : Int), .int .i64 (x2 : Int)] 33)).cell? ⟨wr.heap.size, 1, none⟩ = some (.int .i64 (x2 : Int)) := by simp [go_sem]
         generalize wr.alloc (.cells #[.int .i64 (x1 : Int), .int .i64 (x2 : Int)] 33) = W2 at *
         have HO2 : Hid (W2.ownsRow w.heap.size 3 1 (sl w.heap.size n) n ((rng n (gF ls (L.take j))).flatMap cI) ∧ Ext w W2) := ⟨ownsRow_ext HO.out.1 HV.out, HO.out.2.trans HV.out⟩
         clear c1 c2 bl ll HV
         obtain ⟨lb', lo', e1, -, lc⟩ := rd_at hN (HR.out.2.ext HO2.out.2) (Nat.lt_of_le_of_lt (Nat.zero_le _) HX.out.2.1)
         simp only [Option.some.injEq, Addr.mk.injEq, and_true] at e1
         obtain ⟨rfl, rfl⟩ := e1
         have l1 := lc x1 HX.out.2.1
         have l2 := lc x2 HX.out.2.2
         have i1 : (x1 : Int) < (n : Int) := by have := HX.out; omega
         have i2 : (x2 : Int) < (n : Int) := by have := HX.out; omega
         obtain ⟨g1, g2⟩ := own_cell hI HO2.out.1 HX.out.2.1
         obtain ⟨y1, hy1⟩ : ∃ y, ls x1 = y := ⟨_, rfl⟩
         obtain ⟨y2, hy2⟩ : ∃ y, ls x2 = y := ⟨_, rfl⟩
         unfold eN at l1 l2
         unfold eI at g1
         rw [hy1] at l1
         rw [hy2] at l2
         have HY : Hid (ls x1 = y1 ∧ ls x2 = y2) := ⟨hy1, hy2⟩
         clear lc hy1 hy2
         by_cases hyy : y1 = y2
         · have e1 : ((y1 : Int) == (y2 : Int)) = true := by simp [hyy]
           have HF : Hid ((W2.setCell ⟨w.heap.size, x1, none⟩ (.int .i64 (y1 : Int))).ownsRow w.heap.size 3 1 (sl w.heap.size n) n ((rng n (gF ls (L.take (j + 1)))).flatMap cI)) := by
             show World.ownsRow _ _ _ _ _ _ _
             rw [gF_yes HX.out.1 (by rw [HY.out.1, HY.out.2, hyy]), HY.out.1]
             exact own_put hI HO2.out.1 x1 (y1 : Int)
           clear hyy
           go_region
           go_upto_region 11 with fail
           go_region
           go_wp2
           go_roundw
           case rel => exact ⟨j + 1, by rw [wj], hlt, ownsRow_ext HF.out ((Ext.refl _).drewN 2), (HO2.out.2.setCell (Nat.le_refl _) _).drewN 2⟩
           case measure => rw [wj]; simp [intOf]; omega
         · have e1 : ((y1 : Int) == (y2 : Int)) = false := by simp; omega
           have HF : Hid (W2.ownsRow w.heap.size 3 1 (sl w.heap.size n) n ((rng n (gF ls (L.take (j + 1)))).flatMap cI)) := by
             show World.ownsRow _ _ _ _ _ _ _
             rw [gF_no HX.out.1 (by rw [HY.out.1, HY.out.2]; exact hyy)]
             exact HO2.out.1
           clear hyy
           go_region
           go_wp2
           go_roundw
           case rel => exact ⟨j + 1, by rw [wj], hlt, ownsRow_ext HF.out (Ext.refl _).drew, HO2.out.2.drew⟩
           case measure => rw [wj]; simp [intOf]; omega
       · have hltI : ¬ (j : Int) < (M : Int) := by omega
         have HQ : Hid (wr.ownsRow w.heap.size 3 1 (sl w.heap.size n) n ((rng n (gF ls L)).flatMap cI)) := by
           have := HO.out.1
           rwa [List.take_of_length_le (by have := HM.out; omega)] at this
         clear hO hE
         go_wp2
         go_ret
         exact ⟨_, rfl, HQ.out, HO.out.2⟩

open Go.RowKit
set_option maxHeartbeats 4000000

/-- A search at a place: which world it came to. -/
def SMx (base b bg bm bf bl n : Nat) (vn : Value) (w0 W : World) (σ : S) : Prop := Ext w0 W ∧ w0.heap.size ≤ base ∧ ∃ vp vo, SM base b bg bm bf bl n vn W vp vo σ
set_option maxRecDepth 100000 in
theorem meet_any (base b bg bm bf bl n : Nat) (vn vp vo : Value) (w0 W : World) (σ : S) (u : Nat) (h : SM base b bg bm bf bl n vn W vp vo σ) (E : Ext w0 W) (hb : w0.heap.size ≤ base) (hn : n ≤ 5000) (hu : u < n) (hc : σ.cnt ≤ n) (hp : σ.path.length ≤ n) (ho : σ.op.length ≤ n) :
   Calls Try.prog 23 #[.pointer (some ⟨b, 0, none⟩), .int .i64 (u : Int)] W fun e w' => e = .returned (.tuple #[]) ∧ SMx base b bg bm bf bl n vn w0 w' (meetS σ u) := by
 have H : Hid (SM base b bg bm bf bl n vn W vp vo σ) := h
 have HE : Hid (Ext w0 W ∧ w0.heap.size ≤ base) := ⟨E, hb⟩
 obtain ⟨c1, hc1⟩ : ∃ c1 : Nat, c1 = σ.cnt + 1 := ⟨_, rfl⟩
 have wk : wrap64 ((σ.cnt : Int) + 1) = (c1 : Int) := by rw [hc1]; exact wrapI σ.cnt (by omega)
 have HB : Hid (n ≤ 5000 ∧ u < n ∧ σ.cnt ≤ n ∧ σ.path.length ≤ n ∧ σ.op.length ≤ n ∧ c1 = σ.cnt + 1) := ⟨hn, hu, hc, hp, ho, hc1⟩
 obtain ⟨k0, k1, k2, k3, k4, k5, k6, k7⟩ := h.fld
 have fz := h.frz
 clear h E hb hn hu hc hp ho hc1
 go_enter Try.func23, Try.ntmps23
 go_upto_region 1 with fail
 have H1 : Hid (SM base b bg bm bf bl n vn (W.setCell ⟨b, 7, none⟩ (.int .i64 (c1 : Int))) vp vo { σ with cnt := c1 }) := H.out.setC _
 have E1 : Hid (Ext w0 (W.setCell ⟨b, 7, none⟩ (.int .i64 (c1 : Int)))) := HE.out.1.setCell (Nat.le_trans HE.out.2 H.out.bb) _
 generalize W.setCell ⟨b, 7, none⟩ (.int .i64 (c1 : Int)) = W1 at *
 clear k0 k1 k2 k3 k4 k5 k6 k7 fz wk H
 obtain ⟨k0, k1, k2, k3, k4, k5, k6, k7⟩ := H1.out.fld
 have fz := H1.out.frz
 obtain ⟨m1, m2⟩ := H1.out.mt HB.out.2.1
 obtain ⟨f1, f2⟩ := H1.out.ft HB.out.2.1
 have hlt : (u : Int) < (n : Int) := by have := HB.out.2.1; omega
 unfold sl at k2 k3
 have g1 : ∀ x, (W1.setCell ⟨bm, u, none⟩ x).cell? ⟨bf, u, none⟩ = some (.int .i64 (σ.low u : Int)) := fun x => by
   rw [World.cell?_setCell_far _ _ _ _ (H1.out.dm.2.1)]; exact f1
 clear k0 k1 k4 k5 k6
 go_region
 go_upto_region 2 with fail
 generalize hW2 : World.drew _ = W2
 have HV : SM base b bg bm bf bl n vn W2 vp vo { meetS σ u with path := σ.path, op := σ.op } := by
   have e := HB.out.2.2.2.2.2
   rw [← hW2]
   have k := ((H1.out.setM u c1).setF u c1).ext (Ext.refl _).drew
   subst e
   exact k
 have H2 : Hid (SM base b bg bm bf bl n vn W2 vp vo { meetS σ u with path := σ.path, op := σ.op }) := HV
 have E2 : Hid (Ext w0 W2) := by
   obtain ⟨_, _, z2, z3, _, _⟩ := H1.out.low HE.out.2
   rw [← hW2]
   have q : Ext w0 ((W1.setCell ⟨bm, u, none⟩ (.int .i64 (c1 : Int))).setCell ⟨bf, u, none⟩ (.int .i64 (c1 : Int))).drew := ((E1.out.setCell z2 _).setCell z3 _).drew
   exact q
 clear hW2 k2 k3 k7 fz m1 m2 f1 f2 g1 hlt H1 E1
 obtain ⟨k0, k1, k2, k3, k4, k5, k6, k7⟩ := HV.fld
 have fz := HV.frz
 have HL : Hid (base ≤ W2.heap.size) := (HV.low HE.out.2).2.2.2.2.2
 clear k0 k1 k2 k3 k4 k6 k7
 obtain ⟨pp, pc, rfl, _⟩ := own_form HV.p
 clear HV
 go_upto_region 3 with (at_builtin; refine app_g eltI cN_len cN_one (by decide) _ w0 _ _ _ _ σ.path.length 1 σ.path [u] base rfl rfl (by rfl) (by rfl) (H2.out.p.alloc _) rfl (rd_oneN (Ext.refl _)) (by have := HB.out; omega) (E2.out.alloc _) HE.out.2 (by have := HL.out; simp; omega) ?_; intro v9 w9 O9 X9 G9 B9; obtain ⟨p9, c9, rfl, -⟩ := own_form O9; have HO : Hid (w9.ownsRow base 3 1 (.slice p9 (σ.path.length + 1) c9) (σ.path.length + 1) ((σ.path ++ [u]).flatMap cN) ∧ Ext w0 w9 ∧ (W2.alloc (.cells #[.int .i64 (u : Int)] 3)).grownBy w9 (Value.slice pp σ.path.length pc).ownBlock ∧ ((Value.slice p9 (σ.path.length + 1) c9).ownBlock = (Value.slice pp σ.path.length pc).ownBlock ∨ (Value.slice p9 (σ.path.length + 1) c9).ownBlock = some (W2.alloc (.cells #[.int .i64 (u : Int)] 3)).heap.size)) := ⟨O9, X9, G9, B9⟩; have HA : Hid (SM base b bg bm bf bl n vn (W2.alloc (.cells #[.int .i64 (u : Int)] 3)) (.slice pp σ.path.length pc) vo { meetS σ u with path := σ.path, op := σ.op }) := H2.out.ext ((Ext.refl _).alloc _); obtain ⟨kb, fb⟩ := HA.out.growF G9 (.inl rfl) 5; rw [HA.out.fld.2.2.2.2.2.1] at kb; clear O9 X9 G9 B9 k5 fz)
 have HV : SM base b bg bm bf bl n vn (w9.setCell ⟨b, 5, none⟩ (.slice p9 (σ.path.length + 1) c9)) (.slice p9 (σ.path.length + 1) c9) vo { meetS σ u with op := σ.op } :=
   HA.out.growP HO.out.2.2.1 (q := σ.path ++ [u]) (own_eq HO.out.1 (by simp) rfl) HO.out.2.2.2
 have E3 : Hid (Ext w0 (w9.setCell ⟨b, 5, none⟩ (.slice p9 (σ.path.length + 1) c9))) := HO.out.2.1.setCell (H2.out.low HE.out.2).1 _
 generalize w9.setCell ⟨b, 5, none⟩ (.slice p9 (σ.path.length + 1) c9) = W3 at *
 have H3 : Hid (SM base b bg bm bf bl n vn W3 (.slice p9 (σ.path.length + 1) c9) vo { meetS σ u with op := σ.op }) := HV
 obtain ⟨k0, k1, k2, k3, k4, k5, k6, k7⟩ := HV.fld
 have fz := HV.frz
 have HM : Hid (base ≤ W3.heap.size) := (HV.low HE.out.2).2.2.2.2.2
 clear k0 k1 k2 k3 k4 k5 k7 kb fb HO HA H2 E2 HL
 obtain ⟨po, oc, rfl, -⟩ := own_form HV.o
 clear HV
 go_wp2_with (at_builtin; refine app_g eltI cN_len cN_one (by decide) _ w0 _ _ _ _ σ.op.length 1 σ.op [u] base rfl rfl (by rfl) (by rfl) (H3.out.o.alloc _) rfl (rd_oneN (Ext.refl _)) (by have := HB.out; omega) (E3.out.alloc _) HE.out.2 (by have := HM.out; simp; omega) ?_; intro v9 w9 O9 X9 G9 B9; obtain ⟨p8, c8, rfl, -⟩ := own_form O9; have HO : Hid (w9.ownsRow base 3 1 (.slice p8 (σ.op.length + 1) c8) (σ.op.length + 1) ((σ.op ++ [u]).flatMap cN) ∧ Ext w0 w9 ∧ (W3.alloc (.cells #[.int .i64 (u : Int)] 3)).grownBy w9 (Value.slice po σ.op.length oc).ownBlock ∧ ((Value.slice p8 (σ.op.length + 1) c8).ownBlock = (Value.slice po σ.op.length oc).ownBlock ∨ (Value.slice p8 (σ.op.length + 1) c8).ownBlock = some (W3.alloc (.cells #[.int .i64 (u : Int)] 3)).heap.size)) := ⟨O9, X9, G9, B9⟩; have HA : Hid (SM base b bg bm bf bl n vn (W3.alloc (.cells #[.int .i64 (u : Int)] 3)) (.slice p9 (σ.path.length + 1) c9) (.slice po σ.op.length oc) { meetS σ u with op := σ.op }) := H3.out.ext ((Ext.refl _).alloc _); obtain ⟨kb, fb⟩ := HA.out.growF G9 (.inr rfl) 6; rw [HA.out.fld.2.2.2.2.2.2.1] at kb; clear O9 X9 G9 B9 k6 fz)
 have HV : SMx base b bg bm bf bl n vn w0 (w9.setCell ⟨b, 6, none⟩ (.slice p8 (σ.op.length + 1) c8)) (meetS σ u) :=
   ⟨HO.out.2.1.setCell (H3.out.low HE.out.2).1 _, HE.out.2, _, _, HA.out.growO HO.out.2.2.1 (q := σ.op ++ [u]) (own_eq HO.out.1 (by simp) rfl) HO.out.2.2.2⟩
 refine bodyPost_end (v := .tuple #[]) (by simp [results, Try.results23, go_sem]) rfl ?_
 exact ⟨rfl, HV⟩

open Go.RowKit
set_option maxHeartbeats 4000000

theorem drop_pred {l : List Nat} {j y : Nat} (h : l[j]? = some y) : l.drop j = y :: l.drop (j + 1) := by
 obtain ⟨hlt, e⟩ := List.getElem?_eq_some_iff.1 h
 rw [← e, List.drop_eq_getElem_cons hlt]
theorem wrapP (k : Nat) (h : k ≤ 1000000) (h1 : 1 ≤ k) : wrap64 ((k : Int) - 1) = ((k - 1 : Nat) : Int) := by unfold wrap64; omega
/-- What gather leaves. -/
def GaQ (base b bg bm bf bl n : Nat) (vn : Value) (w0 : World) (σ : S) (o r : List Nat) (t : Nat) (w' : World) : Prop :=
 ∃ g, g ∈ t :: r ∧ (∀ v ∈ t :: r, g ≤ v) ∧ SMx base b bg bm bf bl n vn w0 w' { σ with op := o, cls := fun v => if v ∈ t :: r then (g : Int) else σ.cls v }
set_option maxRecDepth 100000 in
theorem gather_any (base b bg bm bf bl n : Nat) (vn vp vo : Value) (w0 W : World) (σ : S) (o r : List Nat) (t : Nat) (h : SM base b bg bm bf bl n vn W vp vo σ) (E : Ext w0 W) (hb : w0.heap.size ≤ base) (hn : n ≤ 5000) (ho : σ.op = o ++ t :: r) (ht : t ∉ o) (htr : t ∉ r) (hlt : ∀ v ∈ σ.op, v < n) (hl : σ.op.length ≤ n) :
   Calls Try.prog 27 #[.pointer (some ⟨b, 0, none⟩), .int .i64 (t : Int)] W fun e w' => e = .returned (.tuple #[]) ∧ GaQ base b bg bm bf bl n vn w0 σ o r t w' := by
 have HE : Hid (Ext w0 W ∧ w0.heap.size ≤ base) := ⟨E, hb⟩
 have HB : Hid (n ≤ 5000 ∧ σ.op = o ++ t :: r ∧ t ∉ o ∧ t ∉ r ∧ (∀ v ∈ σ.op, v < n) ∧ σ.op.length ≤ n) := ⟨hn, ho, ht, htr, hlt, hl⟩
 have h6 := h.fld.2.2.2.2.2.2.1
 have hO := h.o
 rw [ho] at hO
 obtain ⟨go, oc, rfl, hoc, hcut⟩ := own_cut hO (by simp)
 have HC : Hid (W.ownsRow base 3 1 (.slice (some ⟨go, 0, none⟩) o.length oc) o.length (o.flatMap cN)) := hcut
 rw [← ho] at h6 hoc
 obtain ⟨N, hN⟩ : ∃ N, σ.op.length = N := ⟨_, rfl⟩
 rw [hN] at h6 hoc
 have H : Hid (SM base b bg bm bf bl n vn W vp (.slice (some ⟨go, 0, none⟩) N oc) σ) := by rw [← hN, ho]; exact h
 have hNo : o.length + 1 ≤ N := by rw [← hN, ho]; simp
 have HN : Hid (σ.op.length = N) := hN
 have wN := wrapP N (by omega) (by omega)
 have hd : Hid (∀ j, j < N → ∃ x : Nat, σ.op[j]? = some x ∧ W.cell? ⟨go, j, none⟩ = some (.int .i64 (x : Int))) := by
   intro j hj
   have hx : σ.op[j]? = some σ.op[j] := List.getElem?_eq_getElem (by omega)
   rw [← ho] at hO
   exact ⟨_, hx, own_at hO hx rfl⟩
 clear h E hb hn ho ht htr hlt hl hO hcut hN
 obtain ⟨x0, hx0, c0⟩ := hd.out (N - 1) (by omega)
 have HX : Hid (σ.op[N - 1]? = some x0) := hx0
 have i0 : ((N - 1 : Nat) : Int) < (N : Int) := by omega
 clear hx0
 go_enter Try.func27, Try.ntmps27
 go_wp2_with fail
 go_loopw [4, 5] (fun fr le wr => ∃ (j m : Nat), fr = .int .i64 (j : Int) ∧ o.length ≤ j ∧ j < N ∧ le = .int .i64 (m : Int) ∧ m ∈ σ.op.drop j ∧ (∀ v ∈ σ.op.drop j, m ≤ v) ∧ wr = W) (fun fr _ _ => (intOf fr).toNat)
 case atStart =>
   have e : σ.op.drop (N - 1) = [x0] := by
     rw [drop_pred HX.out, List.drop_of_length_le (by have := HN.out; omega)]
   exact ⟨N - 1, x0, by rw [wN], by omega, by omega, rfl, by rw [e]; simp, by rw [e]; simp, rfl⟩
 case round =>
   obtain ⟨j, m, rfl, hj1, hj2, rfl, hm, hle, rfl⟩ := hrel
   have HM : Hid (m ∈ σ.op.drop j ∧ ∀ v ∈ σ.op.drop j, m ≤ v) := ⟨hm, hle⟩
   clear hm hle c0 i0 HX wN
   obtain ⟨x, hx, cx⟩ := hd.out j hj2
   have HX : Hid (σ.op[j]? = some x) := hx
   have jN : (j : Int) < (N : Int) := by omega
   clear hx
   by_cases hxt : x = t
   · have hj : j = o.length := by
       rcases Nat.lt_or_ge o.length j with hlt | hge
       · exfalso
         have := HX.out
         rw [HB.out.2.1, List.getElem?_append_right (by omega), show j - o.length = (j - o.length - 1) + 1 by omega, List.getElem?_cons_succ, hxt] at this
         exact HB.out.2.2.2.1 (List.mem_of_getElem? this)
       · omega
     have e1 : ((x : Int) != (t : Int)) = false := by rw [hxt]; simp
     have HG : Hid (m ∈ t :: r ∧ ∀ v ∈ t :: r, m ≤ v) := by
       have e : σ.op.drop j = t :: r := by rw [HB.out.2.1, hj, List.drop_left]
       have := HM.out
       rwa [e] at this
     subst hj
     clear hj1 hj2 HX hxt HM hd
     have wz : N - o.length = (t :: r).length := by rw [← HN.out, HB.out.2.1, List.length_append]; omega
     obtain ⟨M, hM⟩ : ∃ M, (t :: r).length = M := ⟨_, rfl⟩
     rw [hM] at wz
     have HZ : Hid ((t :: r).length = M) := hM
     have wi : ((N - o.length : Nat) : Int) = (M : Int) := by rw [wz]
     have r1 : ((o.length : Int)) ≤ (N : Int) := by omega
     have r2 : (N : Int) ≤ (oc : Int) := by omega
     have HK : Hid (M ≤ 5000) := by have := HN.out; have := HB.out; show _ ≤ _; omega
     have H0 : Hid (SM base b bg bm bf bl n vn wr vp (.slice (some ⟨go, 0, none⟩) N oc) { σ with cls := fun v => if v ∈ (t :: r).take 0 then (m : Int) else σ.cls v }) := by
       have e : { σ with cls := fun v => if v ∈ (t :: r).take 0 then (m : Int) else σ.cls v } = σ := by simp
       rw [e]; exact H.out
     clear hM
     go_wp2_with fail
     go_loopw [48] (fun x wq => ∃ i : Nat, x = .int .i64 (i : Int) ∧ i ≤ M ∧ SM base b bg bm bf bl n vn wq vp (.slice (some ⟨go, 0, none⟩) N oc) { σ with cls := fun v => if v ∈ (t :: r).take i then (m : Int) else σ.cls v } ∧ Ext w0 wq) (fun x _ => M - (intOf x).toNat)
     case atStart => exact ⟨0, rfl, Nat.zero_le _, H0.out, HE.out.1⟩
     case round =>
       obtain ⟨i, rfl, hi, hS, hE⟩ := hrel
       have HS : Hid (SM base b bg bm bf bl n vn wr vp (.slice (some ⟨go, 0, none⟩) N oc) { σ with cls := fun v => if v ∈ (t :: r).take i then (m : Int) else σ.cls v } ∧ Ext w0 wr) := ⟨hS, hE⟩
       obtain ⟨k0, k1, k2, k3, k4, k5, k6, k7⟩ := hS.fld
       have fz := hS.frz
       clear k0 k1 k2 k3 k5 k7 hE h6
       unfold sl at k4
       rcases Nat.lt_or_ge i M with hlt | hge
       · have hltI : (i : Int) < (M : Int) := by omega
         obtain ⟨x, hx⟩ : ∃ x, (t :: r)[i]? = some x := ⟨_, List.getElem?_eq_getElem (by have := HZ.out; omega)⟩
         have hxo : σ.op[o.length + i]? = some x := by
           rw [HB.out.2.1, List.getElem?_append_right (by omega), Nat.add_sub_cancel_left]; exact hx
         have cx := own_at (own_eq (k := 1) hS.o HN.out rfl) hxo HN.out.symm
         have hxn := HB.out.2.2.2.2.1 x (List.mem_of_getElem? hxo)
         have hxI : (x : Int) < (n : Int) := by omega
         obtain ⟨l1, l2⟩ := hS.lt hxn
         have wk := wrapI i (by have := HK.out; omega)
         have HX : Hid ((t :: r)[i]? = some x) := hx
         clear hx hxo hS hxn
         go_wp2
         go_roundw
         case rel =>
           refine ⟨i + 1, by rw [wk], hlt, ?_, HS.out.2.setCell (HS.out.1.low HE.out.2).2.2.2.2.1 _⟩
           have k := HS.out.1.setL x (m : Int)
           have e : upd (fun v => if v ∈ (t :: r).take i then (m : Int) else σ.cls v) x (m : Int) = fun v => if v ∈ (t :: r).take (i + 1) then (m : Int) else σ.cls v := by
             funext v
             rw [take_at HX.out]
             unfold upd
             by_cases hv : v = x
             · rw [if_pos hv, if_pos (by rw [hv]; simp)]
             · rw [if_neg hv]
               simp only [List.mem_append, List.mem_singleton, hv, or_false]
           rw [e] at k
           exact k
         case measure => rw [wk]; simp [intOf]; omega
       · have hltI : ¬ (i : Int) < (M : Int) := by omega
         have ei : (t :: r).take i = t :: r := List.take_of_length_le (by have := HZ.out; omega)
         have HQ : Hid (GaQ base b bg bm bf bl n vn w0 σ o r t (wr.setCell ⟨b, 6, none⟩ (.slice (some ⟨go, 0, none⟩) o.length oc))) := by
           refine ⟨m, HG.out.1, HG.out.2, HS.out.2.setCell (HS.out.1.low HE.out.2).1 _, HE.out.2, vp, .slice (some ⟨go, 0, none⟩) o.length oc, ?_⟩
           have k := HS.out.1
           rw [ei] at k
           have kO := k.o
           have hop : σ.op = o ++ t :: r := HB.out.2.1
           have kO' : wr.ownsRow base 3 1 (.slice (some ⟨go, 0, none⟩) N oc) (o ++ t :: r).length ((o ++ t :: r).flatMap cN) := by rw [← hop]; exact kO
           obtain ⟨g', c', e', _, cut⟩ := own_cut kO' (by simp)
           simp only [Value.slice.injEq, Option.some.injEq, Addr.mk.injEq, and_true] at e'
           obtain ⟨rfl, _, rfl⟩ := e'
           exact k.setO cut (fun y e => k.do' y e) (fun y e => (k.dp y e).2.2.2.2.2)
         have r3 : ((o.length : Int)) ≤ (oc : Int) := by omega
         clear ei hS
         go_wp2
         refine bodyPost_end (v := .tuple #[]) (by simp [results, Try.results27, go_sem]) rfl ?_
         exact ⟨rfl, HQ.out⟩
   · have e1 : ((x : Int) != (t : Int)) = true := by simp; omega
     have hj : o.length < j := by
       rcases Nat.lt_or_ge o.length j with hlt | hge
       · exact hlt
       · exfalso
         have he : j = o.length := by omega
         have := HX.out
         rw [HB.out.2.1, he] at this
         simp at this
         exact hxt this.symm
     obtain ⟨y, hy, cy⟩ := hd.out (j - 1) (by omega)
     have wj := wrapP j (by have := HB.out; have := HN.out; omega) (by omega)
     have dj := drop_pred hy
     rw [show j - 1 + 1 = j by omega] at dj
     have HD : Hid (σ.op.drop (j - 1) = y :: σ.op.drop j) := dj
     have jM : ((j - 1 : Nat) : Int) < (N : Int) := by omega
     clear hy dj
     obtain ⟨j1, hj1'⟩ : ∃ j1, j - 1 = j1 := ⟨_, rfl⟩
     rw [hj1'] at wj jM cy HD
     have HJ : Hid (j = j1 + 1) := by show _ = _; omega
     clear hj1' hxt
     rcases Nat.lt_or_ge y m with hym | hym
     · have q1 : (y : Int) < (m : Int) := by omega
       go_wp2
       go_roundw
       case rel => exact ⟨j1, y, by rw [wj], by have := HJ.out; omega, by have := HJ.out; omega, rfl, by rw [HD.out]; exact List.mem_cons_self .., fun v hv => by
         rw [HD.out] at hv
         rcases List.mem_cons.1 hv with e | hv
         · rw [e]; exact Nat.le_refl _
         · exact Nat.le_trans (Nat.le_of_lt hym) (HM.out.2 v hv), trivial⟩
       case measure => rw [wj]; have := HJ.out; simp [intOf]; omega
     · have q1 : ¬ (y : Int) < (m : Int) := by omega
       go_wp2
       go_roundw
       case rel => exact ⟨j1, m, by rw [wj], by have := HJ.out; omega, by have := HJ.out; omega, rfl, by rw [HD.out]; exact List.mem_cons_of_mem _ HM.out.1, fun v hv => by
         rw [HD.out] at hv
         rcases List.mem_cons.1 hv with e | hv
         · rw [e]; exact hym
         · exact HM.out.2 v hv, trivial⟩
       case measure => rw [wj]; have := HJ.out; simp [intOf]; omega

open Go.RowKit
set_option maxHeartbeats 4000000

/-- What leave leaves. -/
def LvQ (base b bg bm bf bl n : Nat) (vn : Value) (w0 : World) (adj : Nat → List Nat) (σ : S) (q : List Nat) (w' : World) : Prop :=
 ∃ σ', SMx base b bg bm bf bl n vn w0 w' σ' ∧ TI adj n σ' ∧ σ'.path = q ∧ σ'.met = σ.met
theorem upd_same {α : Type} (f : Nat → α) (i : Nat) (x : α) (h : f i = x) : upd f i x = f := by
 funext j
 unfold upd
 split
 · rename_i e; rw [e, h]
 · rfl
theorem split_at {l : List Nat} {t : Nat} (h : t ∈ l) : ∃ o r, l = o ++ t :: r := List.append_of_mem h
theorem TI.cut {adj : Nat → List Nat} {n : Nat} {σ : S} (h : TI adj n σ) {o r : List Nat} {t : Nat} (e : σ.op = o ++ t :: r) : t ∉ o ∧ t ∉ r := by
 have hoo := h.oo
 rw [e, List.pairwise_append, List.pairwise_cons] at hoo
 exact ⟨fun hx => Nat.lt_irrefl _ (hoo.2.2 t hx t (List.mem_cons_self ..)), fun hx => Nat.lt_irrefl _ (hoo.2.1.1 t hx)⟩
set_option maxRecDepth 100000 in
theorem leave_any (base b bg bm bf bl n : Nat) (vn vp vo : Value) (w0 W : World) (adj : Nat → List Nat) (σ : S) (q : List Nat) (t : Nat) (h : SM base b bg bm bf bl n vn W vp vo σ) (E : Ext w0 W) (hb : w0.heap.size ≤ base) (hn : n ≤ 5000) (hT : TI adj n σ) (hp : σ.path = q ++ [t]) (hg : σ.gone t = (adj t).length) :
   Calls Try.prog 24 #[.pointer (some ⟨b, 0, none⟩), .int .i64 (t : Int)] W fun e w' => e = .returned (.tuple #[]) ∧ LvQ base b bg bm bf bl n vn w0 adj σ q w' := by
 have HE : Hid (Ext w0 W ∧ w0.heap.size ≤ base) := ⟨E, hb⟩
 have HT : Hid (TI adj n σ ∧ σ.path = q ++ [t] ∧ σ.gone t = (adj t).length) := ⟨hT, hp, hg⟩
 have hto : t ∈ σ.op := hT.po t (by rw [hp]; simp)
 have htn : t < n := hT.ml t (hT.opmet hto)
 have hql : q.length + 1 ≤ n := by have := hT.path_len; rw [hp] at this; simpa using this
 have HB : Hid (n ≤ 5000 ∧ t ∈ σ.op ∧ t < n ∧ q.length + 1 ≤ n) := ⟨hn, hto, htn, hql⟩
 obtain ⟨k0, k1, k2, k3, k4, k5, k6, k7⟩ := h.fld
 have fz := h.frz
 have hP := h.p
 rw [hp] at hP
 obtain ⟨gp, pc, rfl, hpc, -, hcut⟩ := own_last hP
 have hQ : SM base b bg bm bf bl n vn (W.setCell ⟨b, 5, none⟩ (.slice (some ⟨gp, 0, none⟩) q.length pc)) (.slice (some ⟨gp, 0, none⟩) q.length pc) vo { σ with path := q } := h.setP hcut (fun x e => h.dp x e)
 have HQ : Hid (SM base b bg bm bf bl n vn (W.setCell ⟨b, 5, none⟩ (.slice (some ⟨gp, 0, none⟩) q.length pc)) (.slice (some ⟨gp, 0, none⟩) q.length pc) vo { σ with path := q } ∧ Ext w0 (W.setCell ⟨b, 5, none⟩ (.slice (some ⟨gp, 0, none⟩) q.length pc))) := ⟨hQ, E.setCell (h.low hb).1 _⟩
 obtain ⟨L, hL⟩ : ∃ L, q.length + 1 = L := ⟨_, rfl⟩
 rw [hL] at k5
 have wl : wrap64 ((L : Int) - 1) = (q.length : Int) := by unfold wrap64; omega
 have r1 : (q.length : Int) ≤ (pc : Int) := by omega
 clear k0 k1 k2 k3 k4 k6 k7 h E hb hn hT hp hg hto htn hql hP hcut hQ hpc hL
 go_enter Try.func24, Try.ntmps24
 go_upto_region 0 with fail
 go_region
 go_upto_region 1 with fail
 generalize hW1 : World.drew _ = W1
 have HS1 : Hid (SM base b bg bm bf bl n vn W1 (.slice (some ⟨gp, 0, none⟩) q.length pc) vo { σ with path := q } ∧ Ext w0 W1) := by
   rw [← hW1]; exact ⟨HQ.out.1.ext (Ext.refl _).drew, HQ.out.2.drew⟩
 have HE' : Hid (w0.heap.size ≤ base) := HE.out.2
 clear hW1 HQ k5 fz wl r1 HE
 have HE : Hid (w0.heap.size ≤ base) := HE'
 clear HE'
 obtain ⟨k0, k1, k2, k3, k4, k5, k6, k7⟩ := HS1.out.1.fld
 have fz := HS1.out.1.frz
 clear k0 k1 k4 k5 k6 k7
 unfold sl at k2 k3
 obtain ⟨f1, f2⟩ := HS1.out.1.ft HB.out.2.2.1
 obtain ⟨m1, m2⟩ := HS1.out.1.mt HB.out.2.2.1
 have tI : (t : Int) < (n : Int) := by have := HB.out.2.2.1; omega
 obtain ⟨lt, hlt⟩ : ∃ x, σ.low t = x := ⟨_, rfl⟩
 obtain ⟨mt, hmt⟩ : ∃ x, σ.met t = x := ⟨_, rfl⟩
 have HM : Hid (σ.low t = lt ∧ σ.met t = mt) := ⟨hlt, hmt⟩
 simp only [hlt] at f1
 simp only [hmt] at m1
 clear hlt hmt
 by_cases hlm : lt = mt
 · have e1 : ((lt : Int) == (mt : Int)) = true := by simp [hlm]
   have hlo : σ.low t = σ.met t := by rw [HM.out.1, HM.out.2, hlm]
   clear hlm
   obtain ⟨o, r, ho⟩ := split_at HB.out.2.1
   have HO : Hid (σ.op = o ++ t :: r ∧ σ.low t = σ.met t) := ⟨ho, hlo⟩
   clear ho hlo
   go_region
   go_upto_region 2 with fail
   generalize hW2 : World.drew _ = W2
   have HS2 : Hid (SM base b bg bm bf bl n vn W2 (.slice (some ⟨gp, 0, none⟩) q.length pc) vo { σ with path := q } ∧ Ext w0 W2) := by
     rw [← hW2]; exact ⟨HS1.out.1.ext (Ext.refl _).drew, HS1.out.2.drew⟩
   have cg := gather_any base b bg bm bf bl n vn _ _ w0 W2 { σ with path := q } o r t HS2.out.1 HS2.out.2 HE.out HB.out.1 HO.out.1 (HT.out.1.cut HO.out.1).1 (HT.out.1.cut HO.out.1).2 (fun v hv => HT.out.1.ml v (HT.out.1.opmet hv)) HT.out.1.op_len
   clear hW2 k2 k3 f1 f2 m1 m2 fz e1 HS1 HS2
   go_wp2_with fail
   refine cg.mono ?_
   rintro e w3 ⟨rfl, hG⟩
   have HG : Hid (GaQ base b bg bm bf bl n vn w0 { σ with path := q } o r t w3) := hG
   clear hG cg
   obtain ⟨g, hg1, hg2, e3, -, vp2, vo2, h3⟩ := HG.out
   have T' : TI adj n (closeS σ q o (t :: r) g) := HT.out.1.leave_yes HT.out.2.1 HT.out.2.2 HO.out.2 HO.out.1 hg1 hg2
   have HT' : Hid (TI adj n (closeS σ q o (t :: r) g)) := T'
   obtain ⟨σ2, hσ2⟩ : ∃ σ2, closeS σ q o (t :: r) g = σ2 := ⟨_, rfl⟩
   have HS2 : Hid (SM base b bg bm bf bl n vn w3 vp2 vo2 σ2 ∧ Ext w0 w3) := ⟨by rw [← hσ2]; exact h3, e3⟩
   have Hσ : Hid (closeS σ q o (t :: r) g = σ2) := hσ2
   clear HG hg1 hg2 e3 h3 T' hσ2
   rcases List.eq_nil_or_concat q with hq | ⟨p, c, hq⟩
   · have HF : Hid (LvQ base b bg bm bf bl n vn w0 adj σ q w3) := ⟨σ2, ⟨HS2.out.2, HE.out, vp2, vo2, HS2.out.1⟩, by rw [← Hσ.out]; exact HT'.out, by rw [← Hσ.out]; rfl, by rw [← Hσ.out]; rfl⟩
     obtain ⟨k0, k1, k2, k3, k4, k5, k6, k7⟩ := HS2.out.1.fld
     have fz := HS2.out.1.frz
     obtain ⟨pp, pc2, rfl, -⟩ := own_form HS2.out.1.p
     have e0 : σ2.path.length = 0 := by rw [← Hσ.out]; show q.length = 0; rw [hq]; rfl
     rw [e0] at k5
     clear k0 k1 k2 k3 k4 k6 k7 hq e0
     go_wp2
     refine bodyPost_end (v := .tuple #[]) (by simp [results, Try.results24, go_sem]) rfl ?_
     exact ⟨rfl, HF.out⟩
   · rw [List.concat_eq_append] at hq
     have HP : Hid (q = p ++ [c]) := hq
     have hcp : c ∈ σ.path := by rw [HT.out.2.1, hq]; simp
     have hco := HT.out.1.po c hcp
     have HC : Hid (c < n) := HT.out.1.ml c (HT.out.1.opmet hco)
     have hct : σ.met c < σ.met t := last_new HT.out.1 HT.out.2.1 c (by rw [hq]; simp)
     have P2 : Hid (σ2.path = p ++ [c] ∧ σ2.low = σ.low ∧ ∀ V vp' vo', SM base b bg bm bf bl n vn V vp' vo' { σ2 with low := upd σ.low c (min (σ.low c) (σ.low t)) } → Ext w0 V → LvQ base b bg bm bf bl n vn w0 adj σ q V) := by
       refine ⟨by rw [← Hσ.out]; exact hq, by rw [← Hσ.out]; rfl, fun V vp' vo' hV eV => ⟨σ2, ⟨eV, HE.out, vp', vo', ?_⟩, by rw [← Hσ.out]; exact HT'.out, by rw [← Hσ.out]; rfl, by rw [← Hσ.out]; rfl⟩⟩
       have e : upd σ.low c (min (σ.low c) (σ.low t)) = σ2.low := by
         rw [← Hσ.out]
         refine upd_same _ _ _ ?_
         have := (HT.out.1.fm c hco).2
         have := HO.out.2
         show σ.low c = _
         omega
       rw [e] at hV
       exact hV
     clear hq hcp hco hct
     obtain ⟨k0, k1, k2, k3, k4, k5, k6, k7⟩ := HS2.out.1.fld
     have fz := HS2.out.1.frz
     have hP2 := HS2.out.1.p
     rw [P2.out.1] at hP2
     obtain ⟨g2, c2, rfl, hc2, cl2, -⟩ := own_last hP2
     obtain ⟨L2, hL2⟩ : ∃ L2, p.length + 1 = L2 := ⟨_, rfl⟩
     rw [hL2] at k5 hc2
     have wl2 : wrap64 ((L2 : Int) - 1) = (p.length : Int) := by have h1 := HB.out.1; have h2 := HB.out.2.2.2; rw [HP.out] at h2; simp at h2; unfold wrap64; omega
     have q1 : (L2 : Int) > 0 := by omega
     have q2 : (p.length : Int) < (L2 : Int) := by omega
     have HL2 : Hid (p.length + 1 = L2) := hL2
     clear k0 k1 k2 k4 k6 k7 hP2 hL2
     unfold sl at k3
     go_upto_region 4 with fail
     go_region
     go_upto_region 5 with fail
     generalize hW3 : World.drew _ = W3
     have HS3 : Hid (SM base b bg bm bf bl n vn W3 (.slice (some ⟨g2, 0, none⟩) L2 c2) vo2 σ2 ∧ Ext w0 W3) := by
       rw [← hW3, ← HL2.out]; exact ⟨HS2.out.1.ext (Ext.refl _).drew, HS2.out.2.drew⟩
     clear hW3 HS2 k3 k5 cl2 fz q1 q2 wl2
     obtain ⟨k0, k1, k2, k3, k4, k5, k6, k7⟩ := HS3.out.1.fld
     have fz := HS3.out.1.frz
     clear k0 k1 k2 k4 k5 k6 k7
     unfold sl at k3
     obtain ⟨b1, b2⟩ := HS3.out.1.ft HC.out
     obtain ⟨t1, t2⟩ := HS3.out.1.ft HB.out.2.2.1
     rw [P2.out.2.1] at b1 t1
     obtain ⟨x, hx⟩ : ∃ x, σ.low c = x := ⟨_, rfl⟩
     obtain ⟨y, hy⟩ : ∃ y, σ.low t = y := ⟨_, rfl⟩
     have HX : Hid (σ.low c = x ∧ σ.low t = y) := ⟨hx, hy⟩
     rw [hx] at b1
     rw [hy] at t1
     have cI : (c : Int) < (n : Int) := by have := HC.out; omega
     have tI : (t : Int) < (n : Int) := by have := HB.out.2.2.1; omega
     clear hx hy
     rcases Nat.lt_or_ge y x with hyx | hyx
     · have q1 : (y : Int) < (x : Int) := by omega
       have HF : Hid (LvQ base b bg bm bf bl n vn w0 adj σ q (W3.setCell ⟨bf, c, none⟩ (.int .i64 (y : Int))).drew) := P2.out.2.2 _ (.slice (some ⟨g2, 0, none⟩) L2 c2) vo2 (by
         have k := (HS3.out.1.setF c y).ext (Ext.refl _).drew
         rwa [show upd σ2.low c y = upd σ.low c (min (σ.low c) (σ.low t)) by rw [P2.out.2.1, HX.out.1, HX.out.2, Nat.min_eq_right (Nat.le_of_lt hyx)]] at k) ((HS3.out.2.setCell (HS3.out.1.low HE.out).2.2.2.1 _).drew)
       go_region
       go_wp2
       refine bodyPost_end (v := .tuple #[]) (by simp [results, Try.results24, go_sem]) rfl ?_
       exact ⟨rfl, HF.out⟩
     · have q1 : ¬ (y : Int) < (x : Int) := by omega
       have HF : Hid (LvQ base b bg bm bf bl n vn w0 adj σ q (W3.setCell ⟨bf, c, none⟩ (.int .i64 (x : Int))).drew) := P2.out.2.2 _ (.slice (some ⟨g2, 0, none⟩) L2 c2) vo2 (by
         have k := (HS3.out.1.setF c x).ext (Ext.refl _).drew
         rwa [show upd σ2.low c x = upd σ.low c (min (σ.low c) (σ.low t)) by rw [P2.out.2.1, HX.out.1, HX.out.2, Nat.min_eq_left hyx]] at k) ((HS3.out.2.setCell (HS3.out.1.low HE.out).2.2.2.1 _).drew)
       go_region
       go_wp2
       refine bodyPost_end (v := .tuple #[]) (by simp [results, Try.results24, go_sem]) rfl ?_
       exact ⟨rfl, HF.out⟩
 · have e1 : ((lt : Int) == (mt : Int)) = false := by simp; omega
   have hlo : σ.low t ≠ σ.met t := by rw [HM.out.1, HM.out.2]; exact hlm
   clear hlm
   have hqn := HT.out.1.leave_pre HT.out.2.1 hlo
   rcases List.eq_nil_or_concat q with hq | ⟨p, c, hq⟩
   · exact absurd hq hqn
   rw [List.concat_eq_append] at hq
   have HP : Hid (q = p ++ [c]) := hq
   have hcp : c ∈ σ.path := by rw [HT.out.2.1, hq]; simp
   have hco := HT.out.1.po c hcp
   have HC : Hid (c < n) := HT.out.1.ml c (HT.out.1.opmet hco)
   obtain ⟨σ2, hσ2⟩ : ∃ σ2, { σ with path := q } = σ2 := ⟨_, rfl⟩
   have Hσ : Hid ({ σ with path := q } = σ2) := hσ2
   have T' := HT.out.1.leave_no (q := p) (b := c) (by rw [HT.out.2.1, hq]) HT.out.2.2 hlo
   rw [← hq] at T'
   have P2 : Hid (σ2.path = p ++ [c] ∧ σ2.low = σ.low ∧ ∀ V vp' vo', SM base b bg bm bf bl n vn V vp' vo' { σ2 with low := upd σ.low c (min (σ.low c) (σ.low t)) } → Ext w0 V → LvQ base b bg bm bf bl n vn w0 adj σ q V) := by
     refine ⟨by rw [← Hσ.out]; exact hq, by rw [← Hσ.out], fun V vp' vo' hV eV => ⟨lowS { σ with path := q } c (σ.low t), ⟨eV, HE.out, vp', vo', ?_⟩, T', rfl, rfl⟩⟩
     rw [← Hσ.out] at hV
     exact hV
   go_region
   go_upto_region 3 with fail
   generalize hW2 : World.drew _ = W2
   have HS2 : Hid (SM base b bg bm bf bl n vn W2 (.slice (some ⟨gp, 0, none⟩) q.length pc) vo σ2 ∧ Ext w0 W2) := by
     rw [← hW2, ← Hσ.out]; exact ⟨HS1.out.1.ext (Ext.refl _).drew, HS1.out.2.drew⟩
   clear hq hcp hco T' hqn hW2 k2 k3 f1 f2 m1 m2 fz e1 HS1 hσ2 tI hlo
   obtain ⟨vo2, hvo⟩ : ∃ v, vo = v := ⟨_, rfl⟩
   obtain ⟨vp2, hvp⟩ : ∃ v, (Value.slice (some ⟨gp, 0, none⟩) q.length pc) = v := ⟨_, rfl⟩
   have HS2' : Hid (SM base b bg bm bf bl n vn W2 vp2 vo2 σ2 ∧ Ext w0 W2) := by rw [← hvp, ← hvo]; exact HS2.out
   clear hvo hvp HS2
   have HS2 : Hid (SM base b bg bm bf bl n vn W2 vp2 vo2 σ2 ∧ Ext w0 W2) := HS2'
   clear HS2'
   obtain ⟨k0, k1, k2, k3, k4, k5, k6, k7⟩ := HS2.out.1.fld
   have fz := HS2.out.1.frz
   have hP2 := HS2.out.1.p
   rw [P2.out.1] at hP2
   obtain ⟨g2, c2, rfl, hc2, cl2, -⟩ := own_last hP2
   obtain ⟨L2, hL2⟩ : ∃ L2, p.length + 1 = L2 := ⟨_, rfl⟩
   rw [hL2] at k5 hc2
   have wl2 : wrap64 ((L2 : Int) - 1) = (p.length : Int) := by have h1 := HB.out.1; have h2 := HB.out.2.2.2; rw [HP.out] at h2; simp at h2; unfold wrap64; omega
   have q1 : (L2 : Int) > 0 := by omega
   have q2 : (p.length : Int) < (L2 : Int) := by omega
   have HL2 : Hid (p.length + 1 = L2) := hL2
   clear k0 k1 k2 k4 k6 k7 hP2 hL2
   unfold sl at k3
   go_upto_region 4 with fail
   go_region
   go_upto_region 5 with fail
   generalize hW3 : World.drew _ = W3
   have HS3 : Hid (SM base b bg bm bf bl n vn W3 (.slice (some ⟨g2, 0, none⟩) L2 c2) vo2 σ2 ∧ Ext w0 W3) := by
     rw [← hW3, ← HL2.out]; exact ⟨HS2.out.1.ext (Ext.refl _).drew, HS2.out.2.drew⟩
   clear hW3 HS2 k3 k5 cl2 fz q1 q2 wl2
   obtain ⟨k0, k1, k2, k3, k4, k5, k6, k7⟩ := HS3.out.1.fld
   have fz := HS3.out.1.frz
   clear k0 k1 k2 k4 k5 k6 k7
   unfold sl at k3
   obtain ⟨b1, b2⟩ := HS3.out.1.ft HC.out
   obtain ⟨t1, t2⟩ := HS3.out.1.ft HB.out.2.2.1
   rw [P2.out.2.1] at b1 t1
   obtain ⟨x, hx⟩ : ∃ x, σ.low c = x := ⟨_, rfl⟩
   obtain ⟨y, hy⟩ : ∃ y, σ.low t = y := ⟨_, rfl⟩
   have HX : Hid (σ.low c = x ∧ σ.low t = y) := ⟨hx, hy⟩
   rw [hx] at b1
   rw [hy] at t1
   have cI : (c : Int) < (n : Int) := by have := HC.out; omega
   have tI : (t : Int) < (n : Int) := by have := HB.out.2.2.1; omega
   clear hx hy
   rcases Nat.lt_or_ge y x with hyx | hyx
   · have q1 : (y : Int) < (x : Int) := by omega
     have HF : Hid (LvQ base b bg bm bf bl n vn w0 adj σ q (W3.setCell ⟨bf, c, none⟩ (.int .i64 (y : Int))).drew) := P2.out.2.2 _ (.slice (some ⟨g2, 0, none⟩) L2 c2) vo2 (by
       have k := (HS3.out.1.setF c y).ext (Ext.refl _).drew
       rwa [show upd σ2.low c y = upd σ.low c (min (σ.low c) (σ.low t)) by rw [P2.out.2.1, HX.out.1, HX.out.2, Nat.min_eq_right (Nat.le_of_lt hyx)]] at k) ((HS3.out.2.setCell (HS3.out.1.low HE.out).2.2.2.1 _).drew)
     go_region
     go_wp2
     refine bodyPost_end (v := .tuple #[]) (by simp [results, Try.results24, go_sem]) rfl ?_
     exact ⟨rfl, HF.out⟩
   · have q1 : ¬ (y : Int) < (x : Int) := by omega
     have HF : Hid (LvQ base b bg bm bf bl n vn w0 adj σ q (W3.setCell ⟨bf, c, none⟩ (.int .i64 (x : Int))).drew) := P2.out.2.2 _ (.slice (some ⟨g2, 0, none⟩) L2 c2) vo2 (by
       have k := (HS3.out.1.setF c x).ext (Ext.refl _).drew
       rwa [show upd σ2.low c x = upd σ.low c (min (σ.low c) (σ.low t)) by rw [P2.out.2.1, HX.out.1, HX.out.2, Nat.min_eq_left hyx]] at k) ((HS3.out.2.setCell (HS3.out.1.low HE.out).2.2.2.1 _).drew)
     go_region
     go_wp2
     refine bodyPost_end (v := .tuple #[]) (by simp [results, Try.results24, go_sem]) rfl ?_
     exact ⟨rfl, HF.out⟩

open Go.RowKit
set_option maxHeartbeats 4000000

/-- What each thing needs, in memory: n rows in block a. -/
def Aj (W : World) (a n : Nat) (adj : Nat → List Nat) : Prop := ∀ v, v < n → ∃ x, W.cell? ⟨a, v, none⟩ = some x ∧ RdG cN 1 W x (adj v)
theorem Aj.ext {W W' : World} {a n : Nat} {adj : Nat → List Nat} (h : Aj W a n adj) (e : Ext W W') : Aj W' a n adj := by
 intro v hv
 obtain ⟨x, h1, h2⟩ := h v hv
 exact ⟨x, (e.cell.1 a v (World.block_lt_of_cell? _ _ h1)).trans h1, h2.ext e⟩
/-- How far a search is from its end, read off the world. -/
def muO (n b : Nat) (w : World) : Nat := 2 * (n - (match w.cell? ⟨b, 7, none⟩ with | some (.int _ k) => k.toNat | _ => 0)) + (match w.cell? ⟨b, 5, none⟩ with | some (.slice _ l _) => l | _ => 0)
def muG (m bg t : Nat) (w : World) : Nat := m - (match w.cell? ⟨bg, t, none⟩ with | some (.int _ k) => k.toNat | _ => 0)
theorem SM.mu {base b bg bm bf bl n : Nat} {vn vp vo : Value} {W : World} {σ : S} (h : SM base b bg bm bf bl n vn W vp vo σ) : muO n b W = 2 * (n - σ.cnt) + σ.path.length := by
 obtain ⟨p, c, rfl, _⟩ := own_form h.p
 unfold muO
 rw [h.fld.2.2.2.2.2.1, h.fld.2.2.2.2.2.2.2]
 simp
theorem SM.muG {base b bg bm bf bl n : Nat} {vn vp vo : Value} {W : World} {σ : S} (h : SM base b bg bm bf bl n vn W vp vo σ) {t : Nat} (ht : t < n) (m : Nat) : muG m bg t W = m - σ.gone t := by
 unfold Go.Proofs.Ytcjenjeggmlanaa.muG
 rw [(h.gt ht).1]
 simp
theorem SM.setLow {base b bg bm bf bl n : Nat} {vn vp vo : Value} {W : World} {σ : S} (h : SM base b bg bm bf bl n vn W vp vo σ) (t m x : Nat) (hx : min (σ.low t) m = x) : SM base b bg bm bf bl n vn (W.setCell ⟨bf, t, none⟩ (.int .i64 (x : Int))).drew vp vo (lowS σ t m) := by
 subst hx
 exact (h.setF t _).ext (Ext.refl _).drew
/-- What the search has come to: all that was met is met. -/
structure WkS (base b bg bm bf bl n : Nat) (vn : Value) (w0 : World) (adj : Nat → List Nat) (σ0 σ : S) (W : World) (vp vo : Value) : Prop where
 s : SM base b bg bm bf bl n vn W vp vo σ
 e : Ext w0 W
 t : TI adj n σ
 m : ∀ v, σ0.met v ≠ 0 → σ.met v ≠ 0
def WkQ (base b bg bm bf bl n : Nat) (vn : Value) (w0 : World) (adj : Nat → List Nat) (σ0 : S) (W : World) : Prop := ∃ σ vp vo, WkS base b bg bm bf bl n vn w0 adj σ0 σ W vp vo ∧ σ.path = []
set_option maxRecDepth 100000 in
theorem walk_any (base b bg bm bf bl n a : Nat) (vp vo : Value) (w0 W : World) (adj : Nat → List Nat) (σ σ0 : S) (u : Nat) (hσ : meetS σ u = σ0) (h : SM base b bg bm bf bl n (sl a n) W vp vo σ) (E : Ext w0 W) (hb : w0.heap.size ≤ base) (hn : n ≤ 5000) (hT : TI adj n σ) (hp : σ.path = []) (hu : u < n) (h0 : σ.met u = 0) (hA : Aj w0 a n adj) (hE : ∀ v, v < n → ∀ x ∈ adj v, x < n) (hL : ∀ v, v < n → (adj v).length ≤ 5000) :
   Calls Try.prog 19 #[.pointer (some ⟨b, 0, none⟩), .int .i64 (u : Int)] W fun e w' => e = .returned (.tuple #[]) ∧ WkQ base b bg bm bf bl n (sl a n) w0 adj σ0 w' := by
 have HB : Hid (n ≤ 5000 ∧ w0.heap.size ≤ base ∧ Aj w0 a n adj ∧ (∀ v, v < n → ∀ x ∈ adj v, x < n) ∧ ∀ v, v < n → (adj v).length ≤ 5000) := ⟨hn, hb, hA, hE, hL⟩
 have HT : Hid (TI adj n σ0) := by rw [← hσ]; exact hT.meet hu h0 (fun t ht => by rw [hp] at ht; cases ht)
 have cm := meet_any base b bg bm bf bl n (sl a n) vp vo w0 W σ u h E hb hn hu hT.cnt_le hT.path_len hT.op_len
 rw [hσ] at cm
 clear h E hb hn hT hp hu h0 hA hE hL hσ
 go_enter Try.func19, Try.ntmps19
 go_wp2_with fail
 go_step3
 go_wp2_with fail
 refine cm.mono ?_
 rintro e w1 ⟨rfl, e1, -, vp1, vo1, h1⟩
 have HS : Hid (WkS base b bg bm bf bl n (sl a n) w0 adj σ0 σ0 w1 vp1 vo1) := ⟨h1, e1, HT.out, fun _ h => h⟩
 clear cm e1 h1 HT
 go_wp2_with fail
 go_step3
 go_wp2_with fail
 go_loopw [4, 5] (fun _ _ wr => ∃ σ' vp' vo', WkS base b bg bm bf bl n (sl a n) w0 adj σ0 σ' wr vp' vo') (fun _ _ wr => muO n b wr)
 case atStart => exact ⟨_, _, _, HS.out⟩
 case round =>
   clear HS
   obtain ⟨σ, vp, vo, hS⟩ := hrel
   have HS : Hid (WkS base b bg bm bf bl n (sl a n) w0 adj σ0 σ wr vp vo) := hS
   clear hS
   have hmu := HS.out.s.mu
   have HM : Hid (muO n b wr = 2 * (n - σ.cnt) + σ.path.length) := hmu
   clear hmu
   obtain ⟨k0, k1, k2, k3, k4, k5, k6, k7⟩ := HS.out.s.fld
   have fz := HS.out.s.frz
   clear k0 k1 k2 k3 k4 k6 k7
   rcases List.eq_nil_or_concat σ.path with hq | ⟨q, t, hq⟩
   · obtain ⟨pp, pc, rfl, -⟩ := own_form HS.out.s.p
     have HQ : Hid (WkQ base b bg bm bf bl n (sl a n) w0 adj σ0 wr) := ⟨σ, _, _, HS.out, hq⟩
     rw [hq] at k5
     simp only [List.length_nil] at k5
     clear hq
     go_wp2
     refine id (α := bodyPost Try.prog Try.f19 (fun e w' => e = .returned (.tuple #[]) ∧ WkQ base b bg bm bf bl n (sl a n) w0 adj σ0 w') Exit.normal _ _) ?_
     refine bodyPost_end (v := .tuple #[]) (by simp [results, Try.results19, go_sem]) rfl ?_
     exact ⟨rfl, HQ.out⟩
   · rw [List.concat_eq_append] at hq
     have hP := HS.out.s.p
     rw [hq] at hP
     obtain ⟨gp, pc, rfl, hpc, clp, -⟩ := own_last hP
     obtain ⟨L, hL⟩ : ∃ L, q.length + 1 = L := ⟨_, rfl⟩
     have HL : Hid (q.length + 1 = L) := hL
     have HP : Hid (σ.path = q ++ [t]) := hq
     have pl := HS.out.t.path_len
     rw [hq] at pl
     simp only [List.length_append, List.length_cons, List.length_nil] at pl
     rw [hL] at k5 hpc
     have wl : wrap64 ((L : Int) - 1) = (q.length : Int) := by have := HB.out.1; unfold wrap64; omega
     have q1 : (L : Int) > 0 := by omega
     have q2 : (q.length : Int) < (L : Int) := by omega
     have htp : t ∈ σ.path := by rw [hq]; simp
     have hto := HS.out.t.po t htp
     have HN : Hid (t ∈ σ.path ∧ t ∈ σ.op ∧ t < n) := ⟨htp, hto, HS.out.t.ml t (HS.out.t.opmet hto)⟩
     have HS' : Hid (WkS base b bg bm bf bl n (sl a n) w0 adj σ0 σ wr (.slice (some ⟨gp, 0, none⟩) L pc) vo) := by rw [← hL]; exact HS.out
     clear hq hP hL pl htp hto HS hpc
     go_upto_region 2 with fail
     go_region
     go_upto_region 3 with fail
     go_loopw [5] (fun _ wq => ∃ σ', WkS base b bg bm bf bl n (sl a n) w0 adj σ0 σ' wq (.slice (some ⟨gp, 0, none⟩) L pc) vo ∧ σ'.path = σ.path ∧ σ'.met = σ.met ∧ σ'.cnt = σ.cnt) (fun _ wq => muG (adj t).length bg t wq)
     case atStart => exact ⟨σ, ⟨HS'.s.ext (Ext.refl _).drew, HS'.e.drew, HS'.t, HS'.m⟩, rfl, rfl, rfl⟩
     case round =>
       clear k5 fz clp wl q1 q2 HS'
       obtain ⟨τ, hS, hp1, hp2, hp3⟩ := hrel
       have HS : Hid (WkS base b bg bm bf bl n (sl a n) w0 adj σ0 τ wr (.slice (some ⟨gp, 0, none⟩) L pc) vo ∧ τ.path = σ.path ∧ τ.met = σ.met ∧ τ.cnt = σ.cnt) := ⟨hS, hp1, hp2, hp3⟩
       have HG : Hid (muG (adj t).length bg t wr = (adj t).length - τ.gone t) := hS.s.muG HN.out.2.2 _
       clear hp1 hp2 hp3
       obtain ⟨k0, k1, k2, k3, k4, k5, k6, k7⟩ := hS.s.fld
       have fz := hS.s.frz
       obtain ⟨g1, g2⟩ := hS.s.gt HN.out.2.2
       obtain ⟨x, ca, rd⟩ := (HB.out.2.2.1.ext hS.e) t HN.out.2.2
       obtain ⟨xp, xc, rfl, hxc⟩ := rd.form
       obtain ⟨G, hG⟩ : ∃ G, τ.gone t = G := ⟨_, rfl⟩
       obtain ⟨M, hM⟩ : ∃ M, (adj t).length = M := ⟨_, rfl⟩
       have HGM : Hid (τ.gone t = G ∧ (adj t).length = M) := ⟨hG, hM⟩
       have hgl := hS.t.gl t
       have tI : (t : Int) < (n : Int) := by have := HN.out.2.2; omega
       rw [hG] at g1
       rw [hG, hM] at hgl
       have HL5 : Hid (M ≤ 5000 ∧ G ≤ 5000) := by have := HB.out.2.2.2.2 t HN.out.2.2; exact ⟨by omega, by omega⟩
       rw [hM] at ca hxc
       clear k2 k3 k4 k5 k6 k7 hG
       unfold sl at k0 k1
       rcases Nat.lt_or_ge G M with hlt | hge
       · have q1 : (G : Int) < (M : Int) := by omega
         obtain ⟨y, hy⟩ : ∃ y, (adj t)[G]? = some y := ⟨_, List.getElem?_eq_getElem (by omega)⟩
         obtain ⟨xb, xo, rfl, hxb, hxy⟩ := rd.at hy
         have cy := hxy 0 _ rfl
         rw [Nat.mul_one, Nat.add_zero] at cy
         have HY : Hid ((adj t)[G]? = some y ∧ y < n) := ⟨hy, HB.out.2.2.2.1 t HN.out.2.2 y (List.mem_of_getElem? hy)⟩
         have mkA : Hid (Ext w0 wr) := hS.e
         clear hy rd hxy hM hgl hS hxb hlt hxc
         go_upto_region 3 with fail
         go_region
         go_upto_region 4 with fail
         go_region
         go_upto_region 5 with fail
         generalize hW4 : World.drew (World.drew _) = W4
         have HS4 : Hid (SM base b bg bm bf bl n (sl a n) W4 (.slice (some ⟨gp, 0, none⟩) L pc) vo τ ∧ Ext w0 W4) := by
           rw [← hW4]; exact ⟨(HS.out.1.s.ext (Ext.refl _).drew).ext (Ext.refl _).drew, HS.out.1.e.drew.drew⟩
         clear hW4 k0 k1 fz g1 g2 ca cy mkA q1
         obtain ⟨k0, k1, k2, k3, k4, k5, k6, k7⟩ := HS4.out.1.fld
         have fz := HS4.out.1.frz
         obtain ⟨g1, g2⟩ := HS4.out.1.gt HN.out.2.2
         rw [HGM.out.1] at g1
         clear k0 k2 k3 k4 k5 k6 k7
         unfold sl at k1
         obtain ⟨G1, hG1⟩ : ∃ G1, G + 1 = G1 := ⟨_, rfl⟩
         have wk : wrap64 ((G : Int) + 1) = (G1 : Int) := by rw [← hG1]; exact wrapI G (by have := HL5.out; omega)
         have HG1 : Hid (G + 1 = G1) := hG1
         clear hG1
         go_upto_region 6 with fail
         have HS5 : Hid (SM base b bg bm bf bl n (sl a n) (W4.setCell ⟨bg, t, none⟩ (.int .i64 (G1 : Int))) (.slice (some ⟨gp, 0, none⟩) L pc) vo (bumpS τ t) ∧ Ext w0 (W4.setCell ⟨bg, t, none⟩ (.int .i64 (G1 : Int)))) := by
           have k := HS4.out.1.setG t G1
           rw [← HG1.out, ← HGM.out.1] at k ⊢
           exact ⟨k, HS4.out.2.setCell (HS4.out.1.low HB.out.2.1).2.1 _⟩
         generalize W4.setCell ⟨bg, t, none⟩ (.int .i64 (G1 : Int)) = W5 at *
         clear k1 fz g1 g2 wk HS4
         obtain ⟨k0, k1, k2, k3, k4, k5, k6, k7⟩ := HS5.out.1.fld
         have fz := HS5.out.1.frz
         obtain ⟨m1, m2⟩ := HS5.out.1.mt HY.out.2
         obtain ⟨c1, c2⟩ := HS5.out.1.lt HY.out.2
         have yI : (y : Int) < (n : Int) := by have := HY.out.2; omega
         have HP' : Hid (τ.path = q ++ [t]) := by show _ = _; rw [HS.out.2.1]; exact HP.out
         have HX' : Hid ((adj t)[τ.gone t]? = some y) := by show _ = _; rw [HGM.out.1]; exact HY.out.1
         obtain ⟨my, hmy⟩ : ∃ v, τ.met y = v := ⟨_, rfl⟩
         obtain ⟨ly, hly⟩ : ∃ v, τ.cls y = v := ⟨_, rfl⟩
         have HMY : Hid (τ.met y = my ∧ τ.cls y = ly) := ⟨hmy, hly⟩
         have hmy' : (bumpS τ t).met y = my := hmy
         have hly' : (bumpS τ t).cls y = ly := hly
         rw [hmy'] at m1
         rw [hly'] at c1
         clear k0 k1 k5 k6 k7 hmy hly hmy' hly'
         unfold sl at k2 k3 k4
         by_cases hm0 : my = 0
         · have e1 : ((my : Int) == 0) = true := by simp [hm0]
           have cm := meet_any base b bg bm bf bl n (sl a n) _ _ w0 W5 (bumpS τ t) y HS5.out.1 HS5.out.2 HB.out.2.1 HB.out.1 HY.out.2 HS.out.1.t.cnt_le HS.out.1.t.path_len HS.out.1.t.op_len
           have T' : Hid (TI adj n (meetS (bumpS τ t) y)) := HS.out.1.t.adv_new HP'.out HX'.out HY.out.2 (by rw [HMY.out.1]; exact hm0)
           clear hm0 k3 k4 c1 c2
           go_wp2_with fail
           refine cm.mono ?_
           rintro e w6 ⟨rfl, e6, -, vp6, vo6, h6⟩
           have HQ : Hid (WkS base b bg bm bf bl n (sl a n) w0 adj σ0 (meetS (bumpS τ t) y) w6 vp6 vo6) := ⟨h6, e6, T'.out, fun v hv => by
             show upd τ.met y (τ.cnt + 1) v ≠ 0
             unfold upd
             split
             · omega
             · exact HS.out.1.m v hv⟩
           have hmu := h6.mu
           have HM6 : Hid (muO n b w6 < 2 * (n - σ.cnt) + σ.path.length) := by
             show _ < _
             have hc := T'.out.cnt_le
             have e7 : (meetS (bumpS τ t) y).cnt = σ.cnt + 1 := by show τ.cnt + 1 = _; rw [HS.out.2.2.2]
             have e8 : (meetS (bumpS τ t) y).path.length = σ.path.length + 1 := by show (τ.path ++ [y]).length = _; rw [HS.out.2.1]; simp
             rw [e7] at hc hmu
             rw [hmu, e8]
             omega
           clear cm e6 h6 T' hmu m1 e1 k2 fz m2
           go_wp2_with fail
           refine ⟨⟨_, _, _, HQ.out⟩, ?_⟩
           rw [HM.out]
           exact HM6.out
         · have e1 : ((my : Int) == 0) = false := by simp [hm0]
           have HN0 : Hid (τ.met y ≠ 0) := by show _ ≠ _; rw [HMY.out.1]; exact hm0
           have fin : Hid (∀ V τ', τ'.gone = upd τ.gone t (τ.gone t + 1) → τ'.path = τ.path → τ'.met = τ.met → τ'.cnt = τ.cnt → TI adj n τ' → SM base b bg bm bf bl n (sl a n) V (.slice (some ⟨gp, 0, none⟩) L pc) vo τ' → Ext w0 V →
               (∃ σ', WkS base b bg bm bf bl n (sl a n) w0 adj σ0 σ' V (.slice (some ⟨gp, 0, none⟩) L pc) vo ∧ σ'.path = σ.path ∧ σ'.met = σ.met ∧ σ'.cnt = σ.cnt) ∧ muG (adj t).length bg t V < muG (adj t).length bg t wr) := by
             intro V τ' e1 e2 e3 e4 hT hV eV
             refine ⟨⟨τ', ⟨hV, eV, hT, fun v hv => by rw [e3]; exact HS.out.1.m v hv⟩, by rw [e2]; exact HS.out.2.1, by rw [e3]; exact HS.out.2.2.1, by rw [e4]; exact HS.out.2.2.2⟩, ?_⟩
             rw [HG.out, hV.muG HN.out.2.2, e1, upd_at]
             have := (List.getElem?_eq_some_iff.1 HX'.out).1
             omega
           clear hm0
           rcases Int.lt_or_le ly 0 with hly | hly
           · have e2 : decide (ly < 0) = true := by simp [hly]
             have T' : Hid (TI adj n (lowS (bumpS τ t) t my)) := by
               have k := HS.out.1.t.adv_low HP'.out HX'.out HN0.out (by rw [HMY.out.2]; exact hly)
               rw [HMY.out.1] at k
               exact k
             obtain ⟨f1, f2⟩ := HS5.out.1.ft HN.out.2.2
             obtain ⟨x, hx⟩ : ∃ v, τ.low t = v := ⟨_, rfl⟩
             have hx' : (bumpS τ t).low t = x := hx
             rw [hx'] at f1
             have HX : Hid ((bumpS τ t).low t = x) := hx
             clear hx hx'
             go_upto_region 9 with fail
             rcases Nat.lt_or_ge my x with hyx | hyx
             · have q1 : (my : Int) < (x : Int) := by omega
               have HF : Hid _ := fin.out (W5.setCell ⟨bf, t, none⟩ (.int .i64 (my : Int))).drew (lowS (bumpS τ t) t my) rfl rfl rfl rfl T'.out (HS5.out.1.setLow t my my (by rw [HX.out]; exact Nat.min_eq_right (Nat.le_of_lt hyx))) ((HS5.out.2.setCell (HS5.out.1.low HB.out.2.1).2.2.2.1 _).drew)
               clear hyx fin
               go_region
               clear k2 k3 k4 fz m1 m2 c1 c2 f1 f2 e1 e2 q1 yI tI
               go_wp2
               exact HF.out
             · have q1 : ¬ (my : Int) < (x : Int) := by omega
               have HF : Hid _ := fin.out (W5.setCell ⟨bf, t, none⟩ (.int .i64 (x : Int))).drew (lowS (bumpS τ t) t my) rfl rfl rfl rfl T'.out (HS5.out.1.setLow t my x (by rw [HX.out]; exact Nat.min_eq_left hyx)) ((HS5.out.2.setCell (HS5.out.1.low HB.out.2.1).2.2.2.1 _).drew)
               clear hyx fin
               go_region
               clear k2 k3 k4 fz m1 m2 c1 c2 f1 f2 e1 e2 q1 yI tI
               go_wp2
               exact HF.out
           · have e2 : decide (ly < 0) = false := by simp; omega
             have e3 : ¬ ly < 0 := by omega
             have HF : Hid _ := fin.out W5 (bumpS τ t) rfl rfl rfl rfl (HS.out.1.t.adv_done HP'.out HX'.out HN0.out (by rw [HMY.out.2]; exact hly)) HS5.out.1 HS5.out.2
             go_wp2
             exact HF.out
       · have q1 : ¬ (G : Int) < (M : Int) := by omega
         have HGE : Hid (τ.gone t = (adj t).length) := by show _ = _; rw [HGM.out.1, HGM.out.2]; omega
         have HP' : Hid (τ.path = q ++ [t]) := by show _ = _; rw [HS.out.2.1]; exact HP.out
         clear rd hgl hge hxc hM hS
         go_upto_region 3 with fail
         go_region
         go_upto_region 10 with fail
         generalize hW4 : World.drew _ = W4
         have HS4 : Hid (SM base b bg bm bf bl n (sl a n) W4 (.slice (some ⟨gp, 0, none⟩) L pc) vo τ ∧ Ext w0 W4) := by
           rw [← hW4]; exact ⟨HS.out.1.s.ext (Ext.refl _).drew, HS.out.1.e.drew⟩
         have cl := leave_any base b bg bm bf bl n (sl a n) _ _ w0 W4 adj τ q t HS4.out.1 HS4.out.2 HB.out.2.1 HB.out.1 HS.out.1.t HP'.out HGE.out
         clear hW4 k0 k1 fz g1 g2 ca q1 tI HS4 HG
         go_wp2_with fail
         refine cl.mono ?_
         rintro e w6 ⟨rfl, σ6, ⟨e6, -, vp6, vo6, h6⟩, t6, p6, m6⟩
         have HQ : Hid (WkS base b bg bm bf bl n (sl a n) w0 adj σ0 σ6 w6 vp6 vo6) := ⟨h6, e6, t6, fun v hv => by rw [m6]; exact HS.out.1.m v hv⟩
         have HM6 : Hid (muO n b w6 < 2 * (n - σ.cnt) + σ.path.length) := by
           show _ < _
           have c1 := t6.ct
           have c2 := HS.out.1.t.ct
           rw [m6] at c1
           rw [h6.mu, p6, HP.out, ← HS.out.2.2.2]
           simp
           omega
         clear cl h6 e6 t6 p6 m6
         go_wp2_with fail
         refine ⟨⟨_, _, _, HQ.out⟩, ?_⟩
         rw [HM.out]
         exact HM6.out

open Go.RowKit
set_option maxHeartbeats 4000000

def eV (x : Value) : Value := x
theorem hV (x : Value) : cV x = [eV x] := rfl
/-- Lists of numbers in rows of their own: n of them, the first cell of each in block a. -/
structure Rws (base a n : Nat) (W : World) (xs : Nat → Value) (ad : Nat → List Nat) : Prop where
 o : W.ownsRow base 24 1 (sl a n) n ((rng n xs).flatMap cV)
 r : ∀ v, v < n → W.ownsRow base 3 1 (xs v) (ad v).length ((ad v).flatMap cN)
 d : ∀ v, v < n → (xs v).ownBlock ≠ some a
 u : ∀ v t, v < n → t < n → v ≠ t → ∀ x, (xs v).ownBlock = some x → (xs t).ownBlock ≠ some x
theorem Rws.ext {base a n : Nat} {W W' : World} {xs : Nat → Value} {ad : Nat → List Nat} (h : Rws base a n W xs ad) (e : Ext W W') : Rws base a n W' xs ad :=
 ⟨ownsRow_ext h.o e, fun v hv => ownsRow_ext (h.r v hv) e, h.d, h.u⟩
theorem Rws.lt {base a n : Nat} {W : World} {xs : Nat → Value} {ad : Nat → List Nat} (h : Rws base a n W xs ad) : a < W.heap.size := (h.o.lt a rfl).2
/-- One row has turned, or is another one. -/
theorem Rws.set {base a n : Nat} {W W' : World} {xs : Nat → Value} {ad : Nat → List Nat} (h : Rws base a n W xs ad) {v : Nat} (hv : v < n) {x : Value} {l : List Nat} (hg : W.grownBy W' (xs v).ownBlock) (ho : W'.ownsRow base 3 1 x l.length (l.flatMap cN)) (hx : x.ownBlock = (xs v).ownBlock ∨ x.ownBlock = some W.heap.size) :
   Rws base a n (W'.setCell ⟨a, v, none⟩ x) (upd xs v x) (upd ad v l) ∧ W'.cell? ⟨a, v, none⟩ = some (xs v) ∧ W'.frozen? ⟨a, v, none⟩ = false := by
 have ha := h.lt
 have lt : ∀ t, t < n → ∀ y, (xs t).ownBlock = some y → y < W.heap.size := fun t ht y e => ((h.r t ht).lt y e).2
 have ea := hg.block a ha (fun e => h.d v hv e.symm)
 have hO : W'.ownsRow base 24 1 (sl a n) n ((rng n xs).flatMap cV) := own_keep h.o (fun g e _ => by cases e; exact ea)
 have hxa : x.ownBlock ≠ some a := by
   intro e
   rcases hx with hx | hx
   · exact h.d v hv (hx ▸ e)
   · rw [hx] at e; cases e; exact Nat.lt_irrefl _ ha
 have hxt : ∀ t, t < n → t ≠ v → ∀ y, x.ownBlock = some y → (xs t).ownBlock ≠ some y := by
   intro t ht hne y e e2
   rcases hx with hx | hx
   · exact h.u v t hv ht (fun e => hne e.symm) y (hx ▸ e) e2
   · rw [hx] at e; cases e; exact Nat.lt_irrefl _ (lt t ht _ e2)
 obtain ⟨c1, c2⟩ := own_cell hV hO hv
 refine ⟨⟨own_put hV hO v x, fun t ht => ?_, fun t ht => ?_, fun s t hs ht hne y => ?_⟩, c1, c2⟩
 · by_cases e : t = v
   · subst e
     rw [upd_at, upd_at]
     exact own_far ho _ hxa
   · rw [upd_ne _ _ e, upd_ne _ _ e]
     refine own_far (own_keep (h.r t ht) (fun g eg hlt => hg.block g hlt (fun e2 => h.u t v ht hv e g eg e2.symm))) _ (h.d t ht)
 · by_cases e : t = v
   · subst e; rw [upd_at]; exact hxa
   · rw [upd_ne _ _ e]; exact h.d t ht
 · by_cases es : s = v
   · subst es
     rw [upd_at, upd_ne _ _ (fun e => hne e.symm)]
     exact hxt t ht (fun e => hne e.symm) y
   · rw [upd_ne _ _ es]
     by_cases et : t = v
     · subst et
       rw [upd_at]
       intro e e2
       exact hxt s hs es y e2 e
     · rw [upd_ne _ _ et]
       exact h.u s t hs ht hne y
theorem Rws.aj {base a n : Nat} {W : World} {xs : Nat → Value} {ad : Nat → List Nat} (h : Rws base a n W xs ad) : Aj W a n ad :=
 fun v hv => ⟨xs v, (own_cell hV h.o hv).1, own_rdG cN_len (h.r v hv) rfl⟩
/-- What stands with a thing in pairs. -/
def oth0 (L : List (Nat × Nat)) (v : Nat) : List Nat := (L.filter (fun p => p.1 == v)).map (·.2)
def oth1 (L : List (Nat × Nat)) (v : Nat) : List Nat := ask L v
theorem oth0_step {L : List (Nat × Nat)} {k a b : Nat} (h : L[k]? = some (a, b)) : oth0 (L.take (k + 1)) = upd (oth0 (L.take k)) a (oth0 (L.take k) a ++ [b]) := by
 funext v
 unfold oth0 upd
 rw [take_at h, List.filter_append, List.map_append]
 by_cases e : v = a
 · subst e; simp
 · have e' : (a == v) = false := by simp; exact fun h => e h.symm
   rw [if_neg e]
   simp only [List.filter_cons, e', Bool.false_eq_true, if_false, List.filter_nil, List.map_nil, List.append_nil]
theorem oth1_step {L : List (Nat × Nat)} {k a b : Nat} (h : L[k]? = some (a, b)) : oth1 (L.take (k + 1)) = upd (oth1 (L.take k)) b (oth1 (L.take k) b ++ [a]) := by
 funext v
 unfold oth1 ask upd
 rw [take_at h, List.filter_append, List.map_append]
 by_cases e : v = b
 · subst e; simp
 · have e' : (b == v) = false := by simp; exact fun h => e h.symm
   rw [if_neg e]
   simp only [List.filter_cons, e', Bool.false_eq_true, if_false, List.filter_nil, List.map_nil, List.append_nil]
theorem oth0_len (L : List (Nat × Nat)) (v : Nat) : (oth0 L v).length ≤ L.length := by
 unfold oth0
 rw [List.length_map]
 exact List.length_filter_le _ _
theorem oth1_len (L : List (Nat × Nat)) (v : Nat) : (oth1 L v).length ≤ L.length := by
 unfold oth1 ask
 rw [List.length_map]
 exact List.length_filter_le _ _
theorem oth0_nil : oth0 [] = fun _ => [] := rfl
theorem oth1_nil : oth1 [] = fun _ => [] := rfl
theorem box2 {w w1 : World} {a b : Value} {T : TypeId} (E : Ext (w.alloc (.cells #[a, b] T)) w1) : w1.cell? ⟨w.heap.size, 0, none⟩ = some a ∧ w1.cell? ⟨w.heap.size, 1, none⟩ = some b := by
 have hs : w.heap.size < (w.alloc (.cells #[a, b] T)).heap.size := by simp
 have k := fun o => E.cell.1 w.heap.size o hs
 exact ⟨(k 0).trans (by simp [go_sem]), (k 1).trans (by simp [go_sem])⟩
theorem num_cell (x : Nat) (j : Nat) (u : Value) (h : (cN x)[j]? = some u) : (#[.int .i64 (x : Int)] : Array Value)[j]? = some u := by
 have hj : j < 1 := (List.getElem?_eq_some_iff.1 h).1
 match j, hj with
 | 0, _ => exact h
set_option maxRecDepth 100000 in
theorem others0_any (w : World) (v : Value) (L : List (Nat × Nat)) (n : Nat) (h : RdG cM 2 w v L) (hL : L.length ≤ 100000) (hn : n ≤ 5000) (hb : ∀ p ∈ L, p.1 < n ∧ p.2 < n) :
   Calls Try.prog 15 #[.int .i64 (n : Int), v, .int .i64 0] w fun e w' => ∃ a xs, e = .returned (sl a n) ∧ Rws w.heap.size a n w' xs (oth0 L) ∧ Ext w w' := by
 obtain ⟨p, c, rfl, _⟩ := h.form
 have HR : Hid (RdG cM 2 w (.slice p L.length c) L) := h
 have HB : Hid (L.length ≤ 100000 ∧ n ≤ 5000 ∧ ∀ p ∈ L, p.1 < n ∧ p.2 < n) := ⟨hL, hn, hb⟩
 have mk := fun W => mk_int W n n (Nat.le_refl _) (by omega)
 have ml := fun W => mk_lst W n n (Nat.le_refl _) (by omega)
 obtain ⟨M, hM⟩ : ∃ M, L.length = M := ⟨_, rfl⟩
 have HM : Hid (L.length = M) := hM
 rw [hM] at HR ⊢
 have H0 : Hid ((w.alloc (.cells (zI n) 3)).ownsRow w.heap.size 3 1 (sl w.heap.size n) n ((rng n (fun _ => 0)).flatMap cN)) := mk_full (Nat.le_refl _) (by omega) hN 0 rfl
 clear h hL hn hb hM
 go_enter Try.func15, Try.ntmps15
 go_wp2_with fail
 go_loopw [19] (fun x wr => ∃ (k : Nat) (f : Nat → Nat), x = .int .i64 (k : Int) ∧ k ≤ M ∧ (∀ v, f v ≤ k) ∧ wr.ownsRow w.heap.size 3 1 (sl w.heap.size n) n ((rng n f).flatMap cN) ∧ Ext w wr) (fun x _ => M - (intOf x).toNat)
 case atStart => exact ⟨0, _, rfl, Nat.zero_le _, fun _ => Nat.le_refl _, H0.out, (Ext.refl _).alloc _⟩
 case round =>
   clear H0 mk
   obtain ⟨k, f, rfl, hk, hf, hO, hE⟩ := hrel
   have HO : Hid (wr.ownsRow w.heap.size 3 1 (sl w.heap.size n) n ((rng n f).flatMap cN) ∧ Ext w wr ∧ ∀ v, f v ≤ k) := ⟨hO, hE, hf⟩
   rcases Nat.lt_or_ge k M with hlt | hge
   · have hltI : (k : Int) < (M : Int) := by omega
     obtain ⟨x, hx⟩ : ∃ x, L[k]? = some x := ⟨_, List.getElem?_eq_getElem (by have := HM.out; omega)⟩
     obtain ⟨x1, x2⟩ := x
     obtain ⟨b, off, rfl, bl, c1, c2⟩ := RdM.cell (HR.out.ext hE) hx
     have wk := wrapI k (by have := HB.out; have := HM.out; omega)
     obtain ⟨hx1, hx2⟩ := HB.out.2.2 _ (List.mem_of_getElem? hx)
     have i1 : (x1 : Int) < (n : Int) := by omega
     have HX : Hid (x1 < n) := by show _ < _; omega
     clear hO hE hf hx hx1 hx2 ml
     go_upto_region 5 with fail
     have HV : Hid (Ext wr (wr.alloc (.cells #[.int .i64 (x1 : Int), .int .i64 (x2 : Int)] 33))) := (Ext.refl _).alloc _
     have c3 : (wr.alloc (.cells #[.int .i64 (x1 : Int), .int .i64 (x2 : Int)] 33)).cell? ⟨wr.heap.size, 0, none⟩ = some (.int .i64 (x1 : Int)) := by simp [go_sem]
     have c4 : (wr.alloc (.cells #[.int .i64 (x1 : Int), .int .i64 (x2 : Int)] 33)).cell? ⟨wr.heap.size, 1, none⟩ = some (.int .i64 (x2 : Int)) := by simp [go_sem]
     generalize wr.alloc (.cells #[.int .i64 (x1 : Int), .int .i64 (x2 : Int)] 33) = W2 at *
     have HO2 : Hid (W2.ownsRow w.heap.size 3 1 (sl w.heap.size n) n ((rng n f).flatMap cN) ∧ Ext w W2) := ⟨ownsRow_ext HO.out.1 HV.out, HO.out.2.1.trans HV.out⟩
     clear c1 c2 bl HV
     obtain ⟨g1, g2⟩ := own_cell hN HO2.out.1 HX.out
     unfold eN at g1
     obtain ⟨y, hy⟩ : ∃ y, f x1 = y := ⟨_, rfl⟩
     have hyk : y ≤ k := by rw [← hy]; exact HO.out.2.2 _
     obtain ⟨y1, hy1⟩ : ∃ y1, y + 1 = y1 := ⟨_, rfl⟩
     have wy : wrap64 ((y : Int) + 1) = (y1 : Int) := by rw [← hy1]; exact wrapI y (by have := HB.out; have := HM.out; omega)
     rw [hy] at g1
     have HF : Hid ((W2.setCell ⟨w.heap.size, x1, none⟩ (.int .i64 (y1 : Int))).ownsRow w.heap.size 3 1 (sl w.heap.size n) n ((rng n (upd f x1 y1)).flatMap cN)) := own_put hN HO2.out.1 x1 y1
     have HU : Hid (∀ v, upd f x1 y1 v ≤ k + 1) := fun v => by
       unfold upd
       split
       · rw [← hy1]; exact Nat.succ_le_succ hyk
       · exact Nat.le_succ_of_le (HO.out.2.2 v)
     clear hy hyk hy1
     go_wp2
     go_roundw
     case rel => exact ⟨k + 1, _, by rw [wk], hlt, HU.out, HF.out, HO2.out.2.setCell (Nat.le_refl _) _⟩
     case measure => rw [wk]; clear wk wy; simp [intOf]; omega
   · have hltI : ¬ (k : Int) < (M : Int) := by omega
     have HA : Hid (Rws w.heap.size wr.heap.size n (wr.alloc (.cells (zL n) 24)) (fun _ => .slice none 0 0) (fun _ => [])) :=
       ⟨mk_full hE.size (by have := HB.out; omega) hV _ rfl, fun _ _ => World.ownsRow_nil _ _ _ _, fun _ _ e => (by cases e), fun _ _ _ _ _ _ e => (by cases e)⟩
     have HF : Hid (∀ v, f v ≤ 100000) := fun v => by have := hf v; have := HB.out; have := HM.out; omega
     clear hO hE hf
     go_wp2_with fail
     have HO1 : Hid ((wr.alloc (.cells (zL n) 24)).ownsRow w.heap.size 3 1 (sl w.heap.size n) n ((rng n f).flatMap cN) ∧ Ext w (wr.alloc (.cells (zL n) 24))) := ⟨ownsRow_ext HO.out.1 ((Ext.refl _).alloc _), HO.out.2.1.alloc _⟩
     have ha : w.heap.size < wr.heap.size := (HO.out.1.lt _ rfl).2
     obtain ⟨a, haa⟩ : ∃ a, wr.heap.size = a := ⟨_, rfl⟩
     rw [haa] at HA ha
     rw [haa]
     generalize wr.alloc (.cells (zL n) 24) = W1 at *
     have HW : Hid (w.heap.size < a) := ha
     clear HO ha haa ml hltI hge
     go_loopw [36] (fun x wq => ∃ (i : Nat) (xs : Nat → Value), x = .int .i64 (i : Int) ∧ i ≤ n ∧ Rws w.heap.size a n wq xs (fun _ => []) ∧ (∀ v, i ≤ v → xs v = .slice none 0 0) ∧ (∀ v, v < n → (xs v).ownBlock ≠ some w.heap.size) ∧ wq.ownsRow w.heap.size 3 1 (sl w.heap.size n) n ((rng n f).flatMap cN) ∧ Ext w wq) (fun x _ => n - (intOf x).toNat)
     case atStart => exact ⟨0, _, rfl, Nat.zero_le _, HA.out, fun _ _ => rfl, fun _ _ e => (by cases e), HO1.out.1, HO1.out.2⟩
     case round =>
       clear HA HO1
       obtain ⟨i, xs, rfl, hi, hA, hz, hw, hO, hE⟩ := hrel
       have HA : Hid (Rws w.heap.size a n wr xs (fun _ => []) ∧ (∀ v, i ≤ v → xs v = .slice none 0 0) ∧ (∀ v, v < n → (xs v).ownBlock ≠ some w.heap.size) ∧ wr.ownsRow w.heap.size 3 1 (sl w.heap.size n) n ((rng n f).flatMap cN) ∧ Ext w wr) := ⟨hA, hz, hw, hO, hE⟩
       clear hA hz hw hE
       rcases Nat.lt_or_ge i n with hlt | hge
       · have hltI : (i : Int) < (n : Int) := by omega
         obtain ⟨g1, g2⟩ := own_cell hN hO hlt
         unfold eN at g1
         obtain ⟨y, hy⟩ : ∃ y, f i = y := ⟨_, rfl⟩
         rw [hy] at g1
         have hyl : y ≤ 100000 := by rw [← hy]; exact HF.out i
         have m0 : ∀ W, (Instr.makeSlice 24 (.int .i64 0) (.int .i64 (y : Int))).run Try.prog W = .ok (.slice (some ⟨W.heap.size, 0, none⟩) 0 y) (W.alloc (.cells (zI y) 3)) := fun W => mk_int W 0 y (Nat.zero_le _) (by omega)
         have wi := wrapI i (by have := HB.out; omega)
         have HS := HA.out.1.set hlt (W' := wr.alloc (.cells (zI y) 3)) (x := .slice (some ⟨wr.heap.size, 0, none⟩) 0 y) (l := []) (World.grownBy_alloc _ _ _) (mk_none HA.out.2.2.2.2.size (by omega)) (.inr rfl)
         obtain ⟨k1, k2, k3⟩ := HS
         have HK : Hid (Rws w.heap.size a n ((wr.alloc (.cells (zI y) 3)).setCell ⟨a, i, none⟩ (.slice (some ⟨wr.heap.size, 0, none⟩) 0 y)) (upd xs i (.slice (some ⟨wr.heap.size, 0, none⟩) 0 y)) (fun _ => [])) := by
           have e : upd (fun _ => ([] : List Nat)) i [] = fun _ => [] := by funext v; unfold upd; split <;> rfl
           rwa [e] at k1
         have HG : Hid (((wr.alloc (.cells (zI y) 3)).setCell ⟨a, i, none⟩ (.slice (some ⟨wr.heap.size, 0, none⟩) 0 y)).ownsRow w.heap.size 3 1 (sl w.heap.size n) n ((rng n f).flatMap cN) ∧ Ext w ((wr.alloc (.cells (zI y) 3)).setCell ⟨a, i, none⟩ (.slice (some ⟨wr.heap.size, 0, none⟩) 0 y))) :=
           ⟨own_far (ownsRow_ext HA.out.2.2.2.1 ((Ext.refl _).alloc _)) _ (by rw [sl_own]; have := HW.out; simp; omega), (HA.out.2.2.2.2.alloc _).setCell (Nat.le_of_lt HW.out) _⟩
         have hsz : w.heap.size < wr.heap.size := (HA.out.2.2.2.1.lt _ rfl).2
         have HN : Hid (w.heap.size < wr.heap.size) := hsz
         rw [HA.out.2.1 i (Nat.le_refl _)] at k2
         clear k1 hO hy hyl hsz
         go_wp2
         go_roundw
         case rel =>
           refine ⟨i + 1, _, by rw [wi], hlt, HK.out, fun v hv => ?_, fun v hv => ?_, HG.out.1, HG.out.2⟩
           · rw [upd_ne _ _ (by omega)]
             exact HA.out.2.1 v (by omega)
           · by_cases e : v = i
             · subst e
               rw [upd_at]
               intro e2
               have e3 : wr.heap.size = w.heap.size := Option.some.inj e2
               have := HN.out
               omega
             · rw [upd_ne _ _ e]
               exact HA.out.2.2.1 v hv
         case measure => rw [wi]; simp [intOf]; omega
       · have hltI : ¬ (i : Int) < (n : Int) := by omega
         have HA0 : Hid (Rws w.heap.size a n wr xs (oth0 (L.take 0)) ∧ Ext w wr) := ⟨by rw [List.take_zero, oth0_nil]; exact HA.out.1, HA.out.2.2.2.2⟩
         clear hO hge HA
         go_wp2_with fail
         go_loopw [49] (fun x wq => ∃ (j : Nat) (xs : Nat → Value), x = .int .i64 (j : Int) ∧ j ≤ M ∧ Rws w.heap.size a n wq xs (oth0 (L.take j)) ∧ Ext w wq) (fun x _ => M - (intOf x).toNat)
         case atStart => exact ⟨0, _, rfl, Nat.zero_le _, HA0.out.1, HA0.out.2⟩
         case round =>
           clear HA0 hltI
           obtain ⟨j, ys, rfl, hj, hA, hE⟩ := hrel
           have HA : Hid (Rws w.heap.size a n wr ys (oth0 (L.take j)) ∧ Ext w wr) := ⟨hA, hE⟩
           rcases Nat.lt_or_ge j M with hlt | hge
           · have hltI : (j : Int) < (M : Int) := by omega
             obtain ⟨x, hx⟩ : ∃ x, L[j]? = some x := ⟨_, List.getElem?_eq_getElem (by have := HM.out; omega)⟩
             obtain ⟨x1, x2⟩ := x
             obtain ⟨b, off, rfl, bl, c1, c2⟩ := RdM.cell (HR.out.ext hE) hx
             have wj := wrapI j (by have := HB.out; have := HM.out; omega)
             obtain ⟨hx1, hx2⟩ := HB.out.2.2 _ (List.mem_of_getElem? hx)
             have i1 : (x1 : Int) < (n : Int) := by omega
             have HX : Hid (L[j]? = some (x1, x2) ∧ x1 < n) := ⟨hx, by omega⟩
             clear hA hE hx hx1 hx2
             go_upto_region 16 with fail
             have HV : Hid (Ext wr (wr.alloc (.cells #[.int .i64 (x1 : Int), .int .i64 (x2 : Int)] 33))) := (Ext.refl _).alloc _
             have QC : Hid (∀ V, Ext (wr.alloc (.cells #[.int .i64 (x1 : Int), .int .i64 (x2 : Int)] 33)) V → V.cell? ⟨wr.heap.size, 0, none⟩ = some (.int .i64 (x1 : Int)) ∧ V.cell? ⟨wr.heap.size, 1, none⟩ = some (.int .i64 (x2 : Int))) := fun V e => box2 e
             have hBa : wr.heap.size ≠ a := fun e => by have := HA.out.1.lt; omega
             have HBW : Hid (w.heap.size ≤ wr.heap.size) := HA.out.2.size
             have HLT : Hid (wr.heap.size < (wr.alloc (.cells #[.int .i64 (x1 : Int), .int .i64 (x2 : Int)] 33)).heap.size) := by show _ < _; simp
             have HYB : Hid (∀ v, v < n → (ys v).ownBlock ≠ some wr.heap.size) := fun v hv e => Nat.lt_irrefl _ ((HA.out.1.r v hv).lt _ e).2
             generalize wr.alloc (.cells #[.int .i64 (x1 : Int), .int .i64 (x2 : Int)] 33) = W2 at *
             have HO2 : Hid (Rws w.heap.size a n W2 ys (oth0 (L.take j)) ∧ Ext w W2) := ⟨HA.out.1.ext HV.out, HA.out.2.trans HV.out⟩
             clear HV HA c1 c2 bl
             obtain ⟨B, hB⟩ : ∃ B, wr.heap.size = B := ⟨_, rfl⟩
             rw [hB] at QC hBa HYB HLT ⊢
             clear hB HBW
             obtain ⟨p0, c0, hp0, -⟩ := own_form (HO2.out.1.r x1 HX.out.2)
             obtain ⟨N0, hN0⟩ : ∃ N0, (oth0 (L.take j) x1).length = N0 := ⟨_, rfl⟩
             rw [hN0] at hp0
             have OW : Hid (W2.ownsRow w.heap.size 3 1 (.slice p0 N0 c0) N0 ((oth0 (L.take j) x1).flatMap cN)) := by
               have := HO2.out.1.r x1 HX.out.2
               rw [hp0, hN0] at this
               exact this
             have HNV : Hid (N0 + 1 ≤ 1000000) := by
               have h1 := oth0_len (L.take j) x1
               have h2 := HB.out.1
               simp only [List.length_take] at h1
               show _ ≤ _
               omega
             have MK : Hid (∀ V, Ext W2 V → (fun V => V.cell? ⟨B, 0, none⟩ = some (.int .i64 (x1 : Int)) ∧ V.cell? ⟨B, 1, none⟩ = some (.int .i64 (x2 : Int)) ∧ V.cell? ⟨a, x1, none⟩ = some (.slice p0 N0 c0)) V) := fun V e => by
               obtain ⟨q1, q2⟩ := QC.out V e
               have := (own_cell hV (HO2.out.1.ext e).o HX.out.2).1
               rw [hp0] at this
               exact ⟨q1, q2, this⟩
             have PS0 : Hid (∀ Y v2 w2 (_ : Ext W2 Y) (_ : w2.ownsRow w.heap.size 3 1 v2 (N0 + 1) ((oth0 (L.take j) x1 ++ [x2]).flatMap cN)) (_ : Y.grownBy w2 (Value.slice p0 N0 c0).ownBlock) (_ : v2.ownBlock = (Value.slice p0 N0 c0).ownBlock ∨ v2.ownBlock = some Y.heap.size),
                 (fun V => V.cell? ⟨B, 0, none⟩ = some (.int .i64 (x1 : Int)) ∧ V.cell? ⟨B, 1, none⟩ = some (.int .i64 (x2 : Int)) ∧ V.cell? ⟨a, x1, none⟩ = some (.slice p0 N0 c0)) w2 ∧ w2.frozen? ⟨a, x1, none⟩ = false ∧ (∃ xs', Rws w.heap.size a n (w2.setCell ⟨a, x1, none⟩ v2) xs' (oth0 (L.take (j + 1)))) ∧ Ext w (w2.setCell ⟨a, x1, none⟩ v2)) := by
               intro Y v2 w2 eY o g nb
               have hR := HO2.out.1.ext eY
               obtain ⟨r1, r2, r3⟩ := hR.set HX.out.2 (W' := w2) (x := v2) (l := oth0 (L.take j) x1 ++ [x2]) (by rw [hp0]; exact g) (own_eq o (by simp [hN0]) rfl) (by rw [hp0]; exact nb)
               rw [hp0] at r2
               have hBl : B < Y.heap.size := Nat.lt_of_lt_of_le HLT.out eY.size
               have eB := g.block B hBl (fun e => HYB.out x1 HX.out.2 (by rw [hp0]; exact e.symm))
               obtain ⟨q1, q2⟩ := QC.out Y eY
               refine ⟨⟨(cells_heap eB 0).1.trans q1, (cells_heap eB 1).1.trans q2, r2⟩, r3, ⟨_, by rw [oth0_step HX.out.1]; exact r1⟩, ?_⟩
               exact (ext_grownG (w := w) (ownsRow_ext OW.out eY) (Nat.le_refl _) (HO2.out.2.trans eY) g).setCell (Nat.le_of_lt HW.out) _
             clear hN0 hp0
             have ww1 : IntKind.i64.wrap 1 = 1 := by decide
             have ww0 : IntKind.i64.wrap 0 = 0 := by decide
             refine bar_begin (B := fun i => i == 17) (S := (fun V => V.cell? ⟨B, 0, none⟩ = some (.int .i64 (x1 : Int)) ∧ V.cell? ⟨B, 1, none⟩ = some (.int .i64 (x2 : Int)) ∧ V.cell? ⟨a, x1, none⟩ = some (.slice p0 N0 c0))) (by kernel_rfl) ?_
             obtain ⟨y0, hy0⟩ : ∃ y0, World.drew W2 = y0 := ⟨_, rfl⟩
             have EY : Hid (Ext W2 y0) := by
               show Ext _ _
               rw [← hy0]
               exact (Ext.refl _).drew
             rw [hy0]
             clear hy0
             have mkS : Hid (∀ V, Ext y0 V → (fun V => V.cell? ⟨B, 0, none⟩ = some (.int .i64 (x1 : Int)) ∧ V.cell? ⟨B, 1, none⟩ = some (.int .i64 (x2 : Int)) ∧ V.cell? ⟨a, x1, none⟩ = some (.slice p0 N0 c0)) V) := fun V e => MK.out V (EY.out.trans e)
             have HOW : Hid (∀ V, Ext y0 V → V.ownsRow w.heap.size 3 1 (.slice p0 N0 c0) N0 ((oth0 (L.take j) x1).flatMap cN)) := fun V e => ownsRow_ext OW.out (EY.out.trans e)
             have HBS : Hid (∀ V, Ext y0 V → w.heap.size ≤ V.heap.size) := fun V e => (HO2.out.2.trans (EY.out.trans e)).size
             have PS : Hid (∀ v2 w2 (_ : w2.ownsRow w.heap.size 3 1 v2 (N0 + 1) ((oth0 (L.take j) x1 ++ [x2]).flatMap cN)) (_ : (y0.alloc (.cells #[.int .i64 (x2 : Int)] 3)).grownBy w2 (Value.slice p0 N0 c0).ownBlock) (_ : v2.ownBlock = (Value.slice p0 N0 c0).ownBlock ∨ v2.ownBlock = some (y0.alloc (.cells #[.int .i64 (x2 : Int)] 3)).heap.size),
                 (fun V => V.cell? ⟨B, 0, none⟩ = some (.int .i64 (x1 : Int)) ∧ V.cell? ⟨B, 1, none⟩ = some (.int .i64 (x2 : Int)) ∧ V.cell? ⟨a, x1, none⟩ = some (.slice p0 N0 c0)) w2 ∧ w2.frozen? ⟨a, x1, none⟩ = false ∧ (∃ xs', Rws w.heap.size a n (w2.setCell ⟨a, x1, none⟩ v2) xs' (oth0 (L.take (j + 1)))) ∧ Ext w (w2.setCell ⟨a, x1, none⟩ v2)) := fun v2 w2 o g nb => PS0.out _ v2 w2 (EY.out.trans ((Ext.refl _).alloc _)) o g nb
             have hS0 := mkS.out y0 (Ext.refl _)
             refine barT_take (i := 0) (v := ?vz0) rfl (by kernel_rfl) (by kernel_rfl) (by kernel_rfl) (by kernel_rfl) (fun _ _ _ h => h) (Or.inl ⟨by rfl, ?hz0⟩) hS0 ?rz0
             case hz0 => (intro W9 hSW; (try dsimp only at hSW); first | (go_simp; done) | (go_simp; with_reducible rfl))
             try go_frame
             refine barT_take (i := 1) (v := ?vz1) rfl (by kernel_rfl) (by kernel_rfl) (by kernel_rfl) (by kernel_rfl) (fun _ _ _ h => h) (Or.inl ⟨by rfl, ?hz1⟩) hS0 ?rz1
             case hz1 => (intro W9 hSW; (try dsimp only at hSW); first | (go_simp; done) | (go_simp; with_reducible rfl))
             try go_frame
             refine barT_take (i := 2) (v := ?vz2) rfl (by kernel_rfl) (by kernel_rfl) (by kernel_rfl) (by kernel_rfl) (fun _ _ _ h => h) (Or.inl ⟨by rfl, ?hz2⟩) hS0 ?rz2
             case hz2 => (intro W9 hSW; (try dsimp only at hSW); first | (go_simp; done) | (go_simp; with_reducible rfl))
             try go_frame
             refine barT_take (i := 3) (v := ?vz3) rfl (by kernel_rfl) (by kernel_rfl) (by kernel_rfl) (by kernel_rfl) (fun _ _ _ h => h) (Or.inl ⟨by rfl, ?hz3⟩) hS0 ?rz3
             case hz3 => (intro W9 hSW; (try dsimp only at hSW); first | (go_simp; done) | (go_simp; with_reducible rfl))
             try go_frame
             refine barT_take (i := 4) (v := ?vz4) rfl (by kernel_rfl) (by kernel_rfl) (by kernel_rfl) (by kernel_rfl) (fun _ _ _ h => h) (Or.inl ⟨by rfl, ?hz4⟩) hS0 ?rz4
             case hz4 => (intro W9 hSW; (try dsimp only at hSW); first | (go_simp; done) | (go_simp; with_reducible rfl))
             try go_frame
             refine barT_take (i := 5) (v := ?vz5) rfl (by kernel_rfl) (by kernel_rfl) (by kernel_rfl) (by kernel_rfl) (fun _ _ _ h => h) (Or.inl ⟨by rfl, ?hz5⟩) hS0 ?rz5
             case hz5 => (intro W9 hSW; (try dsimp only at hSW); first | (go_simp; done) | (go_simp; with_reducible rfl))
             try go_frame
             refine barT_take (i := 6) (v := ?vz6) rfl (by kernel_rfl) (by kernel_rfl) (by kernel_rfl) (by kernel_rfl) (fun _ _ _ h => h) (Or.inl ⟨by rfl, ?hz6⟩) hS0 ?rz6
             case hz6 => (intro W9 hSW; (try dsimp only at hSW); first | (go_simp; done) | (go_simp; with_reducible rfl))
             try go_frame
             refine barT_take (i := 7) (v := ?vz7) rfl (by kernel_rfl) (by kernel_rfl) (by kernel_rfl) (by kernel_rfl) (fun _ _ _ h => h) (Or.inl ⟨by rfl, ?hz7⟩) hS0 ?rz7
             case hz7 => (intro W9 hSW; (try dsimp only at hSW); first | (go_simp; done) | (go_simp; with_reducible rfl))
             try go_frame
             refine barT_take (i := 8) (v := ?vz8) rfl (by kernel_rfl) (by kernel_rfl) (by kernel_rfl) (by kernel_rfl) (fun _ _ _ h => h) (Or.inl ⟨by rfl, ?hz8⟩) hS0 ?rz8
             case hz8 => (intro W9 hSW; (try dsimp only at hSW); first | (go_simp; done) | (go_simp; with_reducible rfl))
             try go_frame
             refine barT_take (i := 9) (v := ?vz9) rfl (by kernel_rfl) (by kernel_rfl) (by kernel_rfl) (by kernel_rfl) (fun _ _ _ h => h) (Or.inl ⟨by rfl, ?hz9⟩) hS0 ?rz9
             case hz9 => (intro W9 hSW; (try dsimp only at hSW); first | (go_simp; done) | (go_simp; with_reducible rfl))
             try go_frame
             refine barT_take (i := 10) (v := ?vz10) rfl (by kernel_rfl) (by kernel_rfl) (by kernel_rfl) (by kernel_rfl) (fun _ _ _ h => h) (Or.inl ⟨by rfl, ?hz10⟩) hS0 ?rz10
             case hz10 => (intro W9 hSW; (try dsimp only at hSW); first | (go_simp; done) | (go_simp; with_reducible rfl))
             try go_frame
             refine barT_take (i := 11) (v := ?vz11) rfl (by kernel_rfl) (by kernel_rfl) (by kernel_rfl) (by kernel_rfl) (fun _ _ _ h => h) (Or.inl ⟨by rfl, ?hz11⟩) hS0 ?rz11
             case hz11 => (intro W9 hSW; (try dsimp only at hSW); first | (go_simp; done) | (go_simp; with_reducible rfl))
             try go_frame
             refine barT_take (i := 12) (v := ?vz12) rfl (by kernel_rfl) (by kernel_rfl) (by kernel_rfl) (by kernel_rfl) (fun _ _ _ h => h) (Or.inl ⟨by rfl, ?hz12⟩) hS0 ?rz12
             case hz12 => (intro W9 hSW; (try dsimp only at hSW); first | (go_simp; done) | (go_simp; with_reducible rfl))
             try go_frame
             refine barT_take (i := 13) (v := ?vz13) rfl (by kernel_rfl) (by kernel_rfl) (by kernel_rfl) (by kernel_rfl) (fun _ _ _ h => h) (Or.inl ⟨by rfl, ?hz13⟩) hS0 ?rz13
             case hz13 => (intro W9 hSW; (try dsimp only at hSW); first | (go_simp; done) | (go_simp; with_reducible rfl))
             try go_frame
             refine barT_hold (i := 14) (by kernel_rfl) rfl (fun KK hKK => ?_)
             go_simp
             skip
             try go_wp2_with fail
             refine hKK.out _ _ ?_ (fun hS1 => ?_)
             · (try dsimp only); (first | exact HS2.out | (refine mkS.out _ ?_; ((with_reducible (repeat (first | assumption | exact Ext.refl _ | apply Ext.drew | apply Ext.drewN | apply Ext.alloc))); done)))
             clear hKK KK hS0
             try go_frame
             refine barT_hold (i := 15) (by kernel_rfl) rfl (fun KK hKK => ?_)
             refine step_app eltI cN_len cN_one (by decide) _ _ _ _ _ N0 1 _ (oth0 (L.take j) x1) [x2] w.heap.size rfl rfl (by rfl) (by rfl) (HOW.out _ ((Ext.refl _).alloc _)) rfl (RdG.one (top_heap _ _) (num_cell x2)) HNV.out (HBS.out _ ((Ext.refl _).alloc _)) ?_; intro v2 w2 O2 G2 N2; obtain ⟨p2, c2, rfl, _⟩ := own_form O2; have H2 : Hid _ := PS.out _ _ O2 G2 N2; have HS2 : Hid ((fun V => V.cell? ⟨B, 0, none⟩ = some (.int .i64 (x1 : Int)) ∧ V.cell? ⟨B, 1, none⟩ = some (.int .i64 (x2 : Int)) ∧ V.cell? ⟨a, x1, none⟩ = some (.slice p0 N0 c0)) w2) := H2.out.1; have f1 := H2.out.2.1; clear O2 G2 N2
             refine hKK.out _ _ ?_ (fun hS2 => ?_)
             · (try dsimp only); (first | exact HS2.out | (refine mkS.out _ ?_; ((with_reducible (repeat (first | assumption | exact Ext.refl _ | apply Ext.drew | apply Ext.drewN | apply Ext.alloc))); done)))
             clear hKK KK hS1
             try go_frame
             refine barT_take (i := 16) (v := ?vz16) rfl (by kernel_rfl) (by kernel_rfl) (by kernel_rfl) (by kernel_rfl) (fun _ _ _ h => h) (Or.inl ⟨by rfl, ?hz16⟩) hS2 ?rz16
             case hz16 => (intro W9 hSW; (try dsimp only at hSW); first | (go_simp; done) | (go_simp; with_reducible rfl))
             try go_frame
             refine barT_one (i := 17) (by kernel_rfl) rfl (fun KK hKK => ?_)
             go_simp
             skip
             try go_wp2_with fail
             refine hKK.out _ _ (fun h => absurd h (by decide)) ?_
             clear hKK KK
             try go_frame
             refine bar_done (by kernel_rfl) ?_ _
             go_wp2
             go_roundw
             case rel =>
               obtain ⟨xs', hx'⟩ := H2.out.2.2.1
               exact ⟨j + 1, xs', by rw [wj], hlt, hx', H2.out.2.2.2⟩
             case measure => rw [wj]; simp [intOf]; omega
           · have hltI : ¬ (j : Int) < (M : Int) := by omega
             have HQ : Hid (Rws w.heap.size a n wr ys (oth0 L)) := by
               have := HA.out.1
               rwa [List.take_of_length_le (by have := HM.out; omega)] at this
             clear hA hE
             go_wp2
             go_ret
             exact ⟨a, rfl, ⟨ys, HQ.out⟩, HA.out.2⟩
set_option maxRecDepth 100000 in
theorem others1_any (w : World) (v : Value) (L : List (Nat × Nat)) (n : Nat) (h : RdG cM 2 w v L) (hL : L.length ≤ 100000) (hn : n ≤ 5000) (hb : ∀ p ∈ L, p.1 < n ∧ p.2 < n) :
   Calls Try.prog 15 #[.int .i64 (n : Int), v, .int .i64 1] w fun e w' => ∃ a xs, e = .returned (sl a n) ∧ Rws w.heap.size a n w' xs (oth1 L) ∧ Ext w w' := by
 obtain ⟨p, c, rfl, _⟩ := h.form
 have HR : Hid (RdG cM 2 w (.slice p L.length c) L) := h
 have HB : Hid (L.length ≤ 100000 ∧ n ≤ 5000 ∧ ∀ p ∈ L, p.1 < n ∧ p.2 < n) := ⟨hL, hn, hb⟩
 have mk := fun W => mk_int W n n (Nat.le_refl _) (by omega)
 have ml := fun W => mk_lst W n n (Nat.le_refl _) (by omega)
 obtain ⟨M, hM⟩ : ∃ M, L.length = M := ⟨_, rfl⟩
 have HM : Hid (L.length = M) := hM
 rw [hM] at HR ⊢
 have H0 : Hid ((w.alloc (.cells (zI n) 3)).ownsRow w.heap.size 3 1 (sl w.heap.size n) n ((rng n (fun _ => 0)).flatMap cN)) := mk_full (Nat.le_refl _) (by omega) hN 0 rfl
 clear h hL hn hb hM
 go_enter Try.func15, Try.ntmps15
 go_wp2_with fail
 go_loopw [19] (fun x wr => ∃ (k : Nat) (f : Nat → Nat), x = .int .i64 (k : Int) ∧ k ≤ M ∧ (∀ v, f v ≤ k) ∧ wr.ownsRow w.heap.size 3 1 (sl w.heap.size n) n ((rng n f).flatMap cN) ∧ Ext w wr) (fun x _ => M - (intOf x).toNat)
 case atStart => exact ⟨0, _, rfl, Nat.zero_le _, fun _ => Nat.le_refl _, H0.out, (Ext.refl _).alloc _⟩
 case round =>
   clear H0 mk
   obtain ⟨k, f, rfl, hk, hf, hO, hE⟩ := hrel
   have HO : Hid (wr.ownsRow w.heap.size 3 1 (sl w.heap.size n) n ((rng n f).flatMap cN) ∧ Ext w wr ∧ ∀ v, f v ≤ k) := ⟨hO, hE, hf⟩
   rcases Nat.lt_or_ge k M with hlt | hge
   · have hltI : (k : Int) < (M : Int) := by omega
     obtain ⟨x, hx⟩ : ∃ x, L[k]? = some x := ⟨_, List.getElem?_eq_getElem (by have := HM.out; omega)⟩
     obtain ⟨x1, x2⟩ := x
     obtain ⟨b, off, rfl, bl, c1, c2⟩ := RdM.cell (HR.out.ext hE) hx
     have wk := wrapI k (by have := HB.out; have := HM.out; omega)
     obtain ⟨hx1, hx2⟩ := HB.out.2.2 _ (List.mem_of_getElem? hx)
     have i1 : (x2 : Int) < (n : Int) := by omega
     have HX : Hid (x2 < n) := by show _ < _; omega
     clear hO hE hf hx hx1 hx2 ml
     go_upto_region 5 with fail
     have HV : Hid (Ext wr (wr.alloc (.cells #[.int .i64 (x1 : Int), .int .i64 (x2 : Int)] 33))) := (Ext.refl _).alloc _
     have c3 : (wr.alloc (.cells #[.int .i64 (x1 : Int), .int .i64 (x2 : Int)] 33)).cell? ⟨wr.heap.size, 0, none⟩ = some (.int .i64 (x1 : Int)) := by simp [go_sem]
     have c4 : (wr.alloc (.cells #[.int .i64 (x1 : Int), .int .i64 (x2 : Int)] 33)).cell? ⟨wr.heap.size, 1, none⟩ = some (.int .i64 (x2 : Int)) := by simp [go_sem]
     generalize wr.alloc (.cells #[.int .i64 (x1 : Int), .int .i64 (x2 : Int)] 33) = W2 at *
     have HO2 : Hid (W2.ownsRow w.heap.size 3 1 (sl w.heap.size n) n ((rng n f).flatMap cN) ∧ Ext w W2) := ⟨ownsRow_ext HO.out.1 HV.out, HO.out.2.1.trans HV.out⟩
     clear c1 c2 bl HV
     obtain ⟨g1, g2⟩ := own_cell hN HO2.out.1 HX.out
     unfold eN at g1
     obtain ⟨y, hy⟩ : ∃ y, f x2 = y := ⟨_, rfl⟩
     have hyk : y ≤ k := by rw [← hy]; exact HO.out.2.2 _
     obtain ⟨y1, hy1⟩ : ∃ y1, y + 1 = y1 := ⟨_, rfl⟩
     have wy : wrap64 ((y : Int) + 1) = (y1 : Int) := by rw [← hy1]; exact wrapI y (by have := HB.out; have := HM.out; omega)
     rw [hy] at g1
     have HF : Hid ((W2.setCell ⟨w.heap.size, x2, none⟩ (.int .i64 (y1 : Int))).ownsRow w.heap.size 3 1 (sl w.heap.size n) n ((rng n (upd f x2 y1)).flatMap cN)) := own_put hN HO2.out.1 x2 y1
     have HU : Hid (∀ v, upd f x2 y1 v ≤ k + 1) := fun v => by
       unfold upd
       split
       · rw [← hy1]; exact Nat.succ_le_succ hyk
       · exact Nat.le_succ_of_le (HO.out.2.2 v)
     clear hy hyk hy1
     go_wp2
     go_roundw
     case rel => exact ⟨k + 1, _, by rw [wk], hlt, HU.out, HF.out, HO2.out.2.setCell (Nat.le_refl _) _⟩
     case measure => rw [wk]; clear wk wy; simp [intOf]; omega
   · have hltI : ¬ (k : Int) < (M : Int) := by omega
     have HA : Hid (Rws w.heap.size wr.heap.size n (wr.alloc (.cells (zL n) 24)) (fun _ => .slice none 0 0) (fun _ => [])) :=
       ⟨mk_full hE.size (by have := HB.out; omega) hV _ rfl, fun _ _ => World.ownsRow_nil _ _ _ _, fun _ _ e => (by cases e), fun _ _ _ _ _ _ e => (by cases e)⟩
     have HF : Hid (∀ v, f v ≤ 100000) := fun v => by have := hf v; have := HB.out; have := HM.out; omega
     clear hO hE hf
     go_wp2_with fail
     have HO1 : Hid ((wr.alloc (.cells (zL n) 24)).ownsRow w.heap.size 3 1 (sl w.heap.size n) n ((rng n f).flatMap cN) ∧ Ext w (wr.alloc (.cells (zL n) 24))) := ⟨ownsRow_ext HO.out.1 ((Ext.refl _).alloc _), HO.out.2.1.alloc _⟩
     have ha : w.heap.size < wr.heap.size := (HO.out.1.lt _ rfl).2
     obtain ⟨a, haa⟩ : ∃ a, wr.heap.size = a := ⟨_, rfl⟩
     rw [haa] at HA ha
     rw [haa]
     generalize wr.alloc (.cells (zL n) 24) = W1 at *
     have HW : Hid (w.heap.size < a) := ha
     clear HO ha haa ml hltI hge
     go_loopw [36] (fun x wq => ∃ (i : Nat) (xs : Nat → Value), x = .int .i64 (i : Int) ∧ i ≤ n ∧ Rws w.heap.size a n wq xs (fun _ => []) ∧ (∀ v, i ≤ v → xs v = .slice none 0 0) ∧ (∀ v, v < n → (xs v).ownBlock ≠ some w.heap.size) ∧ wq.ownsRow w.heap.size 3 1 (sl w.heap.size n) n ((rng n f).flatMap cN) ∧ Ext w wq) (fun x _ => n - (intOf x).toNat)
     case atStart => exact ⟨0, _, rfl, Nat.zero_le _, HA.out, fun _ _ => rfl, fun _ _ e => (by cases e), HO1.out.1, HO1.out.2⟩
     case round =>
       clear HA HO1
       obtain ⟨i, xs, rfl, hi, hA, hz, hw, hO, hE⟩ := hrel
       have HA : Hid (Rws w.heap.size a n wr xs (fun _ => []) ∧ (∀ v, i ≤ v → xs v = .slice none 0 0) ∧ (∀ v, v < n → (xs v).ownBlock ≠ some w.heap.size) ∧ wr.ownsRow w.heap.size 3 1 (sl w.heap.size n) n ((rng n f).flatMap cN) ∧ Ext w wr) := ⟨hA, hz, hw, hO, hE⟩
       clear hA hz hw hE
       rcases Nat.lt_or_ge i n with hlt | hge
       · have hltI : (i : Int) < (n : Int) := by omega
         obtain ⟨g1, g2⟩ := own_cell hN hO hlt
         unfold eN at g1
         obtain ⟨y, hy⟩ : ∃ y, f i = y := ⟨_, rfl⟩
         rw [hy] at g1
         have hyl : y ≤ 100000 := by rw [← hy]; exact HF.out i
         have m0 : ∀ W, (Instr.makeSlice 24 (.int .i64 0) (.int .i64 (y : Int))).run Try.prog W = .ok (.slice (some ⟨W.heap.size, 0, none⟩) 0 y) (W.alloc (.cells (zI y) 3)) := fun W => mk_int W 0 y (Nat.zero_le _) (by omega)
         have wi := wrapI i (by have := HB.out; omega)
         have HS := HA.out.1.set hlt (W' := wr.alloc (.cells (zI y) 3)) (x := .slice (some ⟨wr.heap.size, 0, none⟩) 0 y) (l := []) (World.grownBy_alloc _ _ _) (mk_none HA.out.2.2.2.2.size (by omega)) (.inr rfl)
         obtain ⟨k1, k2, k3⟩ := HS
         have HK : Hid (Rws w.heap.size a n ((wr.alloc (.cells (zI y) 3)).setCell ⟨a, i, none⟩ (.slice (some ⟨wr.heap.size, 0, none⟩) 0 y)) (upd xs i (.slice (some ⟨wr.heap.size, 0, none⟩) 0 y)) (fun _ => [])) := by
           have e : upd (fun _ => ([] : List Nat)) i [] = fun _ => [] := by funext v; unfold upd; split <;> rfl
           rwa [e] at k1
         have HG : Hid (((wr.alloc (.cells (zI y) 3)).setCell ⟨a, i, none⟩ (.slice (some ⟨wr.heap.size, 0, none⟩) 0 y)).ownsRow w.heap.size 3 1 (sl w.heap.size n) n ((rng n f).flatMap cN) ∧ Ext w ((wr.alloc (.cells (zI y) 3)).setCell ⟨a, i, none⟩ (.slice (some ⟨wr.heap.size, 0, none⟩) 0 y))) :=
           ⟨own_far (ownsRow_ext HA.out.2.2.2.1 ((Ext.refl _).alloc _)) _ (by rw [sl_own]; have := HW.out; simp; omega), (HA.out.2.2.2.2.alloc _).setCell (Nat.le_of_lt HW.out) _⟩
         have hsz : w.heap.size < wr.heap.size := (HA.out.2.2.2.1.lt _ rfl).2
         have HN : Hid (w.heap.size < wr.heap.size) := hsz
         rw [HA.out.2.1 i (Nat.le_refl _)] at k2
         clear k1 hO hy hyl hsz
         go_wp2
         go_roundw
         case rel =>
           refine ⟨i + 1, _, by rw [wi], hlt, HK.out, fun v hv => ?_, fun v hv => ?_, HG.out.1, HG.out.2⟩
           · rw [upd_ne _ _ (by omega)]
             exact HA.out.2.1 v (by omega)
           · by_cases e : v = i
             · subst e
               rw [upd_at]
               intro e2
               have e3 : wr.heap.size = w.heap.size := Option.some.inj e2
               have := HN.out
               omega
             · rw [upd_ne _ _ e]
               exact HA.out.2.2.1 v hv
         case measure => rw [wi]; simp [intOf]; omega
       · have hltI : ¬ (i : Int) < (n : Int) := by omega
         have HA0 : Hid (Rws w.heap.size a n wr xs (oth1 (L.take 0)) ∧ Ext w wr) := ⟨by rw [List.take_zero, oth1_nil]; exact HA.out.1, HA.out.2.2.2.2⟩
         clear hO hge HA
         go_wp2_with fail
         go_loopw [49] (fun x wq => ∃ (j : Nat) (xs : Nat → Value), x = .int .i64 (j : Int) ∧ j ≤ M ∧ Rws w.heap.size a n wq xs (oth1 (L.take j)) ∧ Ext w wq) (fun x _ => M - (intOf x).toNat)
         case atStart => exact ⟨0, _, rfl, Nat.zero_le _, HA0.out.1, HA0.out.2⟩
         case round =>
           clear HA0 hltI
           obtain ⟨j, ys, rfl, hj, hA, hE⟩ := hrel
           have HA : Hid (Rws w.heap.size a n wr ys (oth1 (L.take j)) ∧ Ext w wr) := ⟨hA, hE⟩
           rcases Nat.lt_or_ge j M with hlt | hge
           · have hltI : (j : Int) < (M : Int) := by omega
             obtain ⟨x, hx⟩ : ∃ x, L[j]? = some x := ⟨_, List.getElem?_eq_getElem (by have := HM.out; omega)⟩
             obtain ⟨x1, x2⟩ := x
             obtain ⟨b, off, rfl, bl, c1, c2⟩ := RdM.cell (HR.out.ext hE) hx
             have wj := wrapI j (by have := HB.out; have := HM.out; omega)
             obtain ⟨hx1, hx2⟩ := HB.out.2.2 _ (List.mem_of_getElem? hx)
             have i1 : (x2 : Int) < (n : Int) := by omega
             have HX : Hid (L[j]? = some (x1, x2) ∧ x2 < n) := ⟨hx, by omega⟩
             clear hA hE hx hx1 hx2
             go_upto_region 16 with fail
             have HV : Hid (Ext wr (wr.alloc (.cells #[.int .i64 (x1 : Int), .int .i64 (x2 : Int)] 33))) := (Ext.refl _).alloc _
             have QC : Hid (∀ V, Ext (wr.alloc (.cells #[.int .i64 (x1 : Int), .int .i64 (x2 : Int)] 33)) V → V.cell? ⟨wr.heap.size, 0, none⟩ = some (.int .i64 (x1 : Int)) ∧ V.cell? ⟨wr.heap.size, 1, none⟩ = some (.int .i64 (x2 : Int))) := fun V e => box2 e
             have hBa : wr.heap.size ≠ a := fun e => by have := HA.out.1.lt; omega
             have HBW : Hid (w.heap.size ≤ wr.heap.size) := HA.out.2.size
             have HLT : Hid (wr.heap.size < (wr.alloc (.cells #[.int .i64 (x1 : Int), .int .i64 (x2 : Int)] 33)).heap.size) := by show _ < _; simp
             have HYB : Hid (∀ v, v < n → (ys v).ownBlock ≠ some wr.heap.size) := fun v hv e => Nat.lt_irrefl _ ((HA.out.1.r v hv).lt _ e).2
             generalize wr.alloc (.cells #[.int .i64 (x1 : Int), .int .i64 (x2 : Int)] 33) = W2 at *
             have HO2 : Hid (Rws w.heap.size a n W2 ys (oth1 (L.take j)) ∧ Ext w W2) := ⟨HA.out.1.ext HV.out, HA.out.2.trans HV.out⟩
             clear HV HA c1 c2 bl
             obtain ⟨B, hB⟩ : ∃ B, wr.heap.size = B := ⟨_, rfl⟩
             rw [hB] at QC hBa HYB HLT ⊢
             clear hB HBW
             obtain ⟨p0, c0, hp0, -⟩ := own_form (HO2.out.1.r x2 HX.out.2)
             obtain ⟨N0, hN0⟩ : ∃ N0, (oth1 (L.take j) x2).length = N0 := ⟨_, rfl⟩
             rw [hN0] at hp0
             have OW : Hid (W2.ownsRow w.heap.size 3 1 (.slice p0 N0 c0) N0 ((oth1 (L.take j) x2).flatMap cN)) := by
               have := HO2.out.1.r x2 HX.out.2
               rw [hp0, hN0] at this
               exact this
             have HNV : Hid (N0 + 1 ≤ 1000000) := by
               have h1 := oth1_len (L.take j) x2
               have h2 := HB.out.1
               simp only [List.length_take] at h1
               show _ ≤ _
               omega
             have MK : Hid (∀ V, Ext W2 V → (fun V => V.cell? ⟨B, 0, none⟩ = some (.int .i64 (x1 : Int)) ∧ V.cell? ⟨B, 1, none⟩ = some (.int .i64 (x2 : Int)) ∧ V.cell? ⟨a, x2, none⟩ = some (.slice p0 N0 c0)) V) := fun V e => by
               obtain ⟨q1, q2⟩ := QC.out V e
               have := (own_cell hV (HO2.out.1.ext e).o HX.out.2).1
               rw [hp0] at this
               exact ⟨q1, q2, this⟩
             have PS0 : Hid (∀ Y v2 w2 (_ : Ext W2 Y) (_ : w2.ownsRow w.heap.size 3 1 v2 (N0 + 1) ((oth1 (L.take j) x2 ++ [x1]).flatMap cN)) (_ : Y.grownBy w2 (Value.slice p0 N0 c0).ownBlock) (_ : v2.ownBlock = (Value.slice p0 N0 c0).ownBlock ∨ v2.ownBlock = some Y.heap.size),
                 (fun V => V.cell? ⟨B, 0, none⟩ = some (.int .i64 (x1 : Int)) ∧ V.cell? ⟨B, 1, none⟩ = some (.int .i64 (x2 : Int)) ∧ V.cell? ⟨a, x2, none⟩ = some (.slice p0 N0 c0)) w2 ∧ w2.frozen? ⟨a, x2, none⟩ = false ∧ (∃ xs', Rws w.heap.size a n (w2.setCell ⟨a, x2, none⟩ v2) xs' (oth1 (L.take (j + 1)))) ∧ Ext w (w2.setCell ⟨a, x2, none⟩ v2)) := by
               intro Y v2 w2 eY o g nb
               have hR := HO2.out.1.ext eY
               obtain ⟨r1, r2, r3⟩ := hR.set HX.out.2 (W' := w2) (x := v2) (l := oth1 (L.take j) x2 ++ [x1]) (by rw [hp0]; exact g) (own_eq o (by simp [hN0]) rfl) (by rw [hp0]; exact nb)
               rw [hp0] at r2
               have hBl : B < Y.heap.size := Nat.lt_of_lt_of_le HLT.out eY.size
               have eB := g.block B hBl (fun e => HYB.out x2 HX.out.2 (by rw [hp0]; exact e.symm))
               obtain ⟨q1, q2⟩ := QC.out Y eY
               refine ⟨⟨(cells_heap eB 0).1.trans q1, (cells_heap eB 1).1.trans q2, r2⟩, r3, ⟨_, by rw [oth1_step HX.out.1]; exact r1⟩, ?_⟩
               exact (ext_grownG (w := w) (ownsRow_ext OW.out eY) (Nat.le_refl _) (HO2.out.2.trans eY) g).setCell (Nat.le_of_lt HW.out) _
             clear hN0 hp0
             have ww1 : IntKind.i64.wrap 1 = 1 := by decide
             have ww0 : IntKind.i64.wrap 0 = 0 := by decide
             refine bar_begin (B := fun i => i == 17) (S := (fun V => V.cell? ⟨B, 0, none⟩ = some (.int .i64 (x1 : Int)) ∧ V.cell? ⟨B, 1, none⟩ = some (.int .i64 (x2 : Int)) ∧ V.cell? ⟨a, x2, none⟩ = some (.slice p0 N0 c0))) (by kernel_rfl) ?_
             obtain ⟨y0, hy0⟩ : ∃ y0, World.drew W2 = y0 := ⟨_, rfl⟩
             have EY : Hid (Ext W2 y0) := by
               show Ext _ _
               rw [← hy0]
               exact (Ext.refl _).drew
             rw [hy0]
             clear hy0
             have mkS : Hid (∀ V, Ext y0 V → (fun V => V.cell? ⟨B, 0, none⟩ = some (.int .i64 (x1 : Int)) ∧ V.cell? ⟨B, 1, none⟩ = some (.int .i64 (x2 : Int)) ∧ V.cell? ⟨a, x2, none⟩ = some (.slice p0 N0 c0)) V) := fun V e => MK.out V (EY.out.trans e)
             have HOW : Hid (∀ V, Ext y0 V → V.ownsRow w.heap.size 3 1 (.slice p0 N0 c0) N0 ((oth1 (L.take j) x2).flatMap cN)) := fun V e => ownsRow_ext OW.out (EY.out.trans e)
             have HBS : Hid (∀ V, Ext y0 V → w.heap.size ≤ V.heap.size) := fun V e => (HO2.out.2.trans (EY.out.trans e)).size
             have PS : Hid (∀ v2 w2 (_ : w2.ownsRow w.heap.size 3 1 v2 (N0 + 1) ((oth1 (L.take j) x2 ++ [x1]).flatMap cN)) (_ : (y0.alloc (.cells #[.int .i64 (x1 : Int)] 3)).grownBy w2 (Value.slice p0 N0 c0).ownBlock) (_ : v2.ownBlock = (Value.slice p0 N0 c0).ownBlock ∨ v2.ownBlock = some (y0.alloc (.cells #[.int .i64 (x1 : Int)] 3)).heap.size),
                 (fun V => V.cell? ⟨B, 0, none⟩ = some (.int .i64 (x1 : Int)) ∧ V.cell? ⟨B, 1, none⟩ = some (.int .i64 (x2 : Int)) ∧ V.cell? ⟨a, x2, none⟩ = some (.slice p0 N0 c0)) w2 ∧ w2.frozen? ⟨a, x2, none⟩ = false ∧ (∃ xs', Rws w.heap.size a n (w2.setCell ⟨a, x2, none⟩ v2) xs' (oth1 (L.take (j + 1)))) ∧ Ext w (w2.setCell ⟨a, x2, none⟩ v2)) := fun v2 w2 o g nb => PS0.out _ v2 w2 (EY.out.trans ((Ext.refl _).alloc _)) o g nb
             have hS0 := mkS.out y0 (Ext.refl _)
             refine barT_take (i := 0) (v := ?vz0) rfl (by kernel_rfl) (by kernel_rfl) (by kernel_rfl) (by kernel_rfl) (fun _ _ _ h => h) (Or.inl ⟨by rfl, ?hz0⟩) hS0 ?rz0
             case hz0 => (intro W9 hSW; (try dsimp only at hSW); first | (go_simp; done) | (go_simp; with_reducible rfl))
             try go_frame
             refine barT_take (i := 1) (v := ?vz1) rfl (by kernel_rfl) (by kernel_rfl) (by kernel_rfl) (by kernel_rfl) (fun _ _ _ h => h) (Or.inl ⟨by rfl, ?hz1⟩) hS0 ?rz1
             case hz1 => (intro W9 hSW; (try dsimp only at hSW); first | (go_simp; done) | (go_simp; with_reducible rfl))
             try go_frame
             refine barT_take (i := 2) (v := ?vz2) rfl (by kernel_rfl) (by kernel_rfl) (by kernel_rfl) (by kernel_rfl) (fun _ _ _ h => h) (Or.inl ⟨by rfl, ?hz2⟩) hS0 ?rz2
             case hz2 => (intro W9 hSW; (try dsimp only at hSW); first | (go_simp; done) | (go_simp; with_reducible rfl))
             try go_frame
             refine barT_take (i := 3) (v := ?vz3) rfl (by kernel_rfl) (by kernel_rfl) (by kernel_rfl) (by kernel_rfl) (fun _ _ _ h => h) (Or.inl ⟨by rfl, ?hz3⟩) hS0 ?rz3
             case hz3 => (intro W9 hSW; (try dsimp only at hSW); first | (go_simp; done) | (go_simp; with_reducible rfl))
             try go_frame
             refine barT_take (i := 4) (v := ?vz4) rfl (by kernel_rfl) (by kernel_rfl) (by kernel_rfl) (by kernel_rfl) (fun _ _ _ h => h) (Or.inl ⟨by rfl, ?hz4⟩) hS0 ?rz4
             case hz4 => (intro W9 hSW; (try dsimp only at hSW); first | (go_simp; done) | (go_simp; with_reducible rfl))
             try go_frame
             refine barT_take (i := 5) (v := ?vz5) rfl (by kernel_rfl) (by kernel_rfl) (by kernel_rfl) (by kernel_rfl) (fun _ _ _ h => h) (Or.inl ⟨by rfl, ?hz5⟩) hS0 ?rz5
             case hz5 => (intro W9 hSW; (try dsimp only at hSW); first | (go_simp; done) | (go_simp; with_reducible rfl))
             try go_frame
             refine barT_take (i := 6) (v := ?vz6) rfl (by kernel_rfl) (by kernel_rfl) (by kernel_rfl) (by kernel_rfl) (fun _ _ _ h => h) (Or.inl ⟨by rfl, ?hz6⟩) hS0 ?rz6
             case hz6 => (intro W9 hSW; (try dsimp only at hSW); first | (go_simp; done) | (go_simp; with_reducible rfl))
             try go_frame
             refine barT_take (i := 7) (v := ?vz7) rfl (by kernel_rfl) (by kernel_rfl) (by kernel_rfl) (by kernel_rfl) (fun _ _ _ h => h) (Or.inl ⟨by rfl, ?hz7⟩) hS0 ?rz7
             case hz7 => (intro W9 hSW; (try dsimp only at hSW); first | (go_simp; done) | (go_simp; with_reducible rfl))
             try go_frame
             refine barT_take (i := 8) (v := ?vz8) rfl (by kernel_rfl) (by kernel_rfl) (by kernel_rfl) (by kernel_rfl) (fun _ _ _ h => h) (Or.inl ⟨by rfl, ?hz8⟩) hS0 ?rz8
             case hz8 => (intro W9 hSW; (try dsimp only at hSW); first | (go_simp; done) | (go_simp; with_reducible rfl))
             try go_frame
             refine barT_take (i := 9) (v := ?vz9) rfl (by kernel_rfl) (by kernel_rfl) (by kernel_rfl) (by kernel_rfl) (fun _ _ _ h => h) (Or.inl ⟨by rfl, ?hz9⟩) hS0 ?rz9
             case hz9 => (intro W9 hSW; (try dsimp only at hSW); first | (go_simp; done) | (go_simp; with_reducible rfl))
             try go_frame
             refine barT_take (i := 10) (v := ?vz10) rfl (by kernel_rfl) (by kernel_rfl) (by kernel_rfl) (by kernel_rfl) (fun _ _ _ h => h) (Or.inl ⟨by rfl, ?hz10⟩) hS0 ?rz10
             case hz10 => (intro W9 hSW; (try dsimp only at hSW); first | (go_simp; done) | (go_simp; with_reducible rfl))
             try go_frame
             refine barT_take (i := 11) (v := ?vz11) rfl (by kernel_rfl) (by kernel_rfl) (by kernel_rfl) (by kernel_rfl) (fun _ _ _ h => h) (Or.inl ⟨by rfl, ?hz11⟩) hS0 ?rz11
             case hz11 => (intro W9 hSW; (try dsimp only at hSW); first | (go_simp; done) | (go_simp; with_reducible rfl))
             try go_frame
             refine barT_take (i := 12) (v := ?vz12) rfl (by kernel_rfl) (by kernel_rfl) (by kernel_rfl) (by kernel_rfl) (fun _ _ _ h => h) (Or.inl ⟨by rfl, ?hz12⟩) hS0 ?rz12
             case hz12 => (intro W9 hSW; (try dsimp only at hSW); first | (go_simp; done) | (go_simp; with_reducible rfl))
             try go_frame
             refine barT_take (i := 13) (v := ?vz13) rfl (by kernel_rfl) (by kernel_rfl) (by kernel_rfl) (by kernel_rfl) (fun _ _ _ h => h) (Or.inl ⟨by rfl, ?hz13⟩) hS0 ?rz13
             case hz13 => (intro W9 hSW; (try dsimp only at hSW); first | (go_simp; done) | (go_simp; with_reducible rfl))
             try go_frame
             refine barT_hold (i := 14) (by kernel_rfl) rfl (fun KK hKK => ?_)
             go_simp
             skip
             try go_wp2_with fail
             refine hKK.out _ _ ?_ (fun hS1 => ?_)
             · (try dsimp only); (first | exact HS2.out | (refine mkS.out _ ?_; ((with_reducible (repeat (first | assumption | exact Ext.refl _ | apply Ext.drew | apply Ext.drewN | apply Ext.alloc))); done)))
             clear hKK KK hS0
             try go_frame
             refine barT_hold (i := 15) (by kernel_rfl) rfl (fun KK hKK => ?_)
             refine step_app eltI cN_len cN_one (by decide) _ _ _ _ _ N0 1 _ (oth1 (L.take j) x2) [x1] w.heap.size rfl rfl (by rfl) (by rfl) (HOW.out _ ((Ext.refl _).alloc _)) rfl (RdG.one (top_heap _ _) (num_cell x1)) HNV.out (HBS.out _ ((Ext.refl _).alloc _)) ?_; intro v2 w2 O2 G2 N2; obtain ⟨p2, c2, rfl, _⟩ := own_form O2; have H2 : Hid _ := PS.out _ _ O2 G2 N2; have HS2 : Hid ((fun V => V.cell? ⟨B, 0, none⟩ = some (.int .i64 (x1 : Int)) ∧ V.cell? ⟨B, 1, none⟩ = some (.int .i64 (x2 : Int)) ∧ V.cell? ⟨a, x2, none⟩ = some (.slice p0 N0 c0)) w2) := H2.out.1; have f1 := H2.out.2.1; clear O2 G2 N2
             refine hKK.out _ _ ?_ (fun hS2 => ?_)
             · (try dsimp only); (first | exact HS2.out | (refine mkS.out _ ?_; ((with_reducible (repeat (first | assumption | exact Ext.refl _ | apply Ext.drew | apply Ext.drewN | apply Ext.alloc))); done)))
             clear hKK KK hS1
             try go_frame
             refine barT_take (i := 16) (v := ?vz16) rfl (by kernel_rfl) (by kernel_rfl) (by kernel_rfl) (by kernel_rfl) (fun _ _ _ h => h) (Or.inl ⟨by rfl, ?hz16⟩) hS2 ?rz16
             case hz16 => (intro W9 hSW; (try dsimp only at hSW); first | (go_simp; done) | (go_simp; with_reducible rfl))
             try go_frame
             refine barT_one (i := 17) (by kernel_rfl) rfl (fun KK hKK => ?_)
             go_simp
             skip
             try go_wp2_with fail
             refine hKK.out _ _ (fun h => absurd h (by decide)) ?_
             clear hKK KK
             try go_frame
             refine bar_done (by kernel_rfl) ?_ _
             go_wp2
             go_roundw
             case rel =>
               obtain ⟨xs', hx'⟩ := H2.out.2.2.1
               exact ⟨j + 1, xs', by rw [wj], hlt, hx', H2.out.2.2.2⟩
             case measure => rw [wj]; simp [intOf]; omega
           · have hltI : ¬ (j : Int) < (M : Int) := by omega
             have HQ : Hid (Rws w.heap.size a n wr ys (oth1 L)) := by
               have := HA.out.1
               rwa [List.take_of_length_le (by have := HM.out; omega)] at this
             clear hA hE
             go_wp2
             go_ret
             exact ⟨a, rfl, ⟨ys, HQ.out⟩, HA.out.2⟩

/-- Some are there, in order; hl may come. -/
structure OI (L : List (Nat × Nat)) (ls : Nat → Nat) (n : Nat) (out hl : List Nat) (f : Nat → Nat) : Prop where
 o : Ords L n out
 f : ∀ x, x < n → f x = pend L ls out x
 nd : hl.Nodup
 m : ∀ x, x ∈ hl ↔ x < n ∧ x ∉ out ∧ pend L ls out x = 0
 z : ∀ x ∈ out, pend L ls out x = 0
/-- t has come; A still ask for it. -/
structure OJ (L : List (Nat × Nat)) (ls : Nat → Nat) (n : Nat) (out hl : List Nat) (f : Nat → Nat) (t : Nat) (A : List Nat) : Prop where
 o : Ords L n out
 f : ∀ x, x < n → f x = pend L ls out x + askN ls t x A
 nd : hl.Nodup
 m : ∀ x, x ∈ hl ↔ x < n ∧ x ∉ out ∧ pend L ls out x + askN ls t x A = 0
 z : ∀ x ∈ out, pend L ls out x + askN ls t x A = 0
section
variable {L : List (Nat × Nat)} {ls : Nat → Nat} {n : Nat} {out hl : List Nat} {f : Nat → Nat}
theorem OI.pop (h : OI L ls n out hl f) (hls : ∀ p ∈ L, ls p.1 = ls p.2 ↔ Con (EL L) p.1 p.2) {t : Nat} {l2 : List Nat} (hp : hl.Perm (t :: l2)) (hm : ∀ y ∈ l2, t ≤ y) : OJ L ls n (out ++ [t]) l2 f t (ask L t) ∧ t < n := by
 obtain ⟨t1, t2, t3⟩ := (h.m t).1 (hp.mem_iff.2 (List.mem_cons_self ..))
 have hnd := hp.nodup_iff.1 h.nd
 rw [List.nodup_cons] at hnd
 have st : ∀ x, pend L ls out x = pend L ls (out ++ [t]) x + askN ls t x (ask L t) := fun x => pend_step t2 L
 have hN : Nxt L n out t := by
   refine ⟨t1, t2, (pend_zero hls).1 t3, fun y y1 y2 y3 => ?_⟩
   have := (h.m y).2 ⟨y1, y2, (pend_zero hls).2 y3⟩
   rcases List.mem_cons.1 (hp.mem_iff.1 this) with e | h2
   · rw [e]; exact Nat.le_refl _
   · exact hm y h2
 refine ⟨⟨ords_snoc h.o hN, fun x hx => by rw [← st]; exact h.f x hx, hnd.2, fun x => ?_, fun x hx => ?_⟩, t1⟩
 · rw [← st]
   constructor
   · intro hx
     obtain ⟨h1, h2, h3⟩ := (h.m x).1 (hp.mem_iff.2 (List.mem_cons_of_mem _ hx))
     refine ⟨h1, fun hx2 => ?_, h3⟩
     rcases List.mem_append.1 hx2 with h4 | h4
     · exact h2 h4
     · simp at h4
       exact hnd.1 (h4 ▸ hx)
   · rintro ⟨h1, h2, h3⟩
     have := (h.m x).2 ⟨h1, fun h4 => h2 (List.mem_append_left _ h4), h3⟩
     rcases List.mem_cons.1 (hp.mem_iff.1 this) with e | h5
     · exact absurd (by rw [e]; simp) h2
     · exact h5
 · rw [← st]
   rcases List.mem_append.1 hx with h4 | h4
   · exact h.z x h4
   · simp at h4; rw [h4]; exact t3
theorem askN_skip {t a : Nat} {A : List Nat} (h : ls a = ls t) (x : Nat) : askN ls t x (a :: A) = askN ls t x A := by
 unfold askN
 rw [List.filter_cons]
 simp [h]
theorem askN_take {t a : Nat} {A : List Nat} (h : ls a ≠ ls t) (x : Nat) : askN ls t x (a :: A) = askN ls t x A + if x = a then 1 else 0 := by
 unfold askN
 rw [List.filter_cons]
 by_cases e : x = a
 · subst e; simp [h]
 · have e' : (a == x) = false := by simp; exact fun h => e h.symm
   simp [e', e]
theorem OJ.skip {t a : Nat} {A : List Nat} (h : OJ L ls n out hl f t (a :: A)) (e : ls a = ls t) : OJ L ls n out hl f t A :=
 ⟨h.o, fun x hx => by rw [h.f x hx, askN_skip e], h.nd, fun x => by rw [h.m x, askN_skip e], fun x hx => by have := h.z x hx; rwa [askN_skip e] at this⟩
theorem OJ.dec {t a : Nat} {A : List Nat} (h : OJ L ls n out hl f t (a :: A)) (e : ls a ≠ ls t) (ha : a < n) :
   1 ≤ f a ∧ (f a = 1 → OJ L ls n out (a :: hl) (upd f a 0) t A) ∧ (∀ y, f a = y + 1 → y ≠ 0 → OJ L ls n out hl (upd f a y) t A) := by
 have tk : ∀ x, pend L ls out x + askN ls t x (a :: A) = pend L ls out x + askN ls t x A + if x = a then 1 else 0 := fun x => by rw [askN_take e]; omega
 have fa := h.f a ha
 rw [tk, if_pos rfl] at fa
 have hno : a ∉ out := fun hx => by have := h.z a hx; rw [tk, if_pos rfl] at this; omega
 have hnh : a ∉ hl := fun hx => by have := ((h.m a).1 hx).2.2; rw [tk, if_pos rfl] at this; omega
 have hz : ∀ x ∈ out, pend L ls out x + askN ls t x A = 0 := fun x hx => by have := h.z x hx; rw [tk] at this; omega
 have hf : ∀ y, f a = y + 1 → ∀ x, x < n → upd f a y x = pend L ls out x + askN ls t x A := by
   intro y hy x hx
   by_cases hxa : x = a
   · subst hxa; rw [upd_at]; omega
   · rw [upd_ne _ _ hxa, h.f x hx, tk, if_neg hxa]
     rfl
 refine ⟨by omega, fun h1 => ⟨h.o, hf 0 h1, ?_, fun x => ?_, hz⟩, fun y hy h0 => ⟨h.o, hf y hy, h.nd, fun x => ?_, hz⟩⟩
 · rw [List.nodup_cons]; exact ⟨hnh, h.nd⟩
 · rw [List.mem_cons]
   by_cases hxa : x = a
   · subst hxa
     exact ⟨fun _ => ⟨ha, hno, by omega⟩, fun _ => .inl rfl⟩
   · have := h.m x
     rw [tk, if_neg hxa, Nat.add_zero] at this
     rw [this]
     exact ⟨fun h => h.resolve_left hxa, .inr⟩
 · by_cases hxa : x = a
   · subst hxa
     exact ⟨fun hx => absurd hx hnh, fun hx => by omega⟩
   · have := h.m x
     rw [tk, if_neg hxa, Nat.add_zero] at this
     exact this
theorem OJ.done {t : Nat} (h : OJ L ls n out hl f t []) : OI L ls n out hl f := ⟨h.o, h.f, h.nd, h.m, h.z⟩
theorem OI.fin (h : OI L ls n out hl f) (hls : ∀ p ∈ L, ls p.1 = ls p.2 ↔ Con (EL L) p.1 p.2) (hL : ∀ p ∈ L, p.1 < n ∧ p.2 < n) (hn : hl = []) : IsOrd L n out :=
 ord_done hL h.o (fun y h1 h2 h3 => by
   have := (h.m y).2 ⟨h1, h2, (pend_zero hls).2 h3⟩
   rw [hn] at this
   cases this)
theorem OI.start (h1 : ∀ x, x < n → f x = pend L ls [] x) (h2 : hl.Nodup) (h3 : ∀ x, x ∈ hl ↔ x < n ∧ f x = 0) : OI L ls n [] hl f :=
 ⟨ords_nil L n, h1, h2, fun x => by
   rw [h3 x]
   constructor
   · rintro ⟨a, b⟩
     exact ⟨a, by simp, by rw [← h1 x a]; exact b⟩
   · rintro ⟨a, _, b⟩
     exact ⟨a, by rw [h1 x a]; exact b⟩, by simp⟩
theorem OI.len (h : OI L ls n out hl f) : hl.length ≤ n := by
 have := nodup_len h.nd (M := List.range n) (fun x hx => List.mem_range.2 ((h.m x).1 hx).1)
 simpa using this
theorem OJ.len {t : Nat} {A : List Nat} (h : OJ L ls n out hl f t A) : hl.length ≤ n := by
 have := nodup_len h.nd (M := List.range n) (fun x hx => List.mem_range.2 ((h.m x).1 hx).1)
 simpa using this
end
/-- The waits, pair by pair. -/
theorem pend_yes {L : List (Nat × Nat)} {ls : Nat → Nat} {k a b : Nat} (h : L[k]? = some (a, b)) (e : ls a ≠ ls b) : pend (L.take (k + 1)) ls [] = upd (pend (L.take k) ls []) a (pend (L.take k) ls [] a + 1) := by
 have ht : L.take (k + 1) = L.take k ++ [(a, b)] := by rw [List.take_add_one, h]; rfl
 funext v
 unfold pend upd
 rw [ht, List.filter_append]
 by_cases hv : v = a
 · subst hv; simp [e]
 · have e' : (a == v) = false := by simp; exact fun h => hv h.symm
   rw [if_neg hv, List.length_append]
   simp [e']
theorem pend_no {L : List (Nat × Nat)} {ls : Nat → Nat} {k a b : Nat} (h : L[k]? = some (a, b)) (e : ls a = ls b) : pend (L.take (k + 1)) ls [] = pend (L.take k) ls [] := by
 have ht : L.take (k + 1) = L.take k ++ [(a, b)] := by rw [List.take_add_one, h]; rfl
 funext v
 unfold pend
 rw [ht, List.filter_append]
 simp [e]
theorem pend_le (L : List (Nat × Nat)) (ls : Nat → Nat) (out : List Nat) (a : Nat) : pend L ls out a ≤ L.length := by
 unfold pend
 exact List.length_filter_le _ _

open Go.RowKit
set_option maxHeartbeats 4000000

theorem ExtP.keep {P : Nat → Prop} {a w w' : World} (h : ExtP P a w) (e : ExtP P w w') : ExtP P a w' :=
 ⟨e.os.trans h.os, e.tape.trans h.tape, e.output.trans h.output, Nat.le_trans h.size e.size, fun k hk hp => (e.block k (Nat.lt_of_lt_of_le hk h.size) hp).trans (h.block k hk hp)⟩
theorem QS.ext {P : Nat → Prop} {b : Nat} {W W' : World} {l : List Nat} {v : Value} (h : QS P b W l v) (e : Ext W W') : QS P b W' l v := by
 obtain ⟨l', q, p, hp⟩ := h
 exact ⟨l', q.ext e, p, hp⟩
theorem QS.keep {P : Nat → Prop} {b : Nat} {W W' : World} {l : List Nat} {v : Value} (h : QS P b W l v) (hb : W'.heap[b]? = W.heap[b]?) (hv : ∀ g, v.ownBlock = some g → g < W.heap.size → W'.heap[g]? = W.heap[g]?) : QS P b W' l v := by
 obtain ⟨l', q, p, hp⟩ := h
 exact ⟨l', ⟨hb.trans q.blk, q.nb, own_keep q.o hv, q.d, q.nr⟩, p, hp⟩
theorem QS.lt {P : Nat → Prop} {b : Nat} {W : World} {l : List Nat} {v : Value} (h : QS P b W l v) : b < W.heap.size ∧ ∀ g, v.ownBlock = some g → g < W.heap.size ∧ g ≠ b := by
 obtain ⟨l', q, _⟩ := h
 exact ⟨heap_lt q.blk, fun g e => ⟨(q.o.lt g e).2, fun e2 => q.d (by rw [e, e2])⟩⟩
theorem QS.as {P P' : Nat → Prop} {b : Nat} {W : World} {l l2 : List Nat} {v : Value} (h : QS P b W l v) (hb : ¬ P' b) (hv : ∀ g, v.ownBlock = some g → ¬ P' g) (hl : l.Perm l2) : QS P' b W l2 v := by
 obtain ⟨l', q, p, hp⟩ := h
 exact ⟨l', ⟨q.blk, hb, q.o, q.d, hv⟩, p.trans hl, hp⟩
theorem Rws.keep {base a n : Nat} {W W' : World} {xs : Nat → Value} {ad : Nat → List Nat} (h : Rws base a n W xs ad) (e : ∀ k, base ≤ k → k < W.heap.size → W'.heap[k]? = W.heap[k]?) : Rws base a n W' xs ad :=
 ⟨own_keep h.o (fun g eg hl => e g (h.o.lt g eg).1 hl), fun v hv => own_keep (h.r v hv) (fun g eg hl => e g ((h.r v hv).lt g eg).1 hl), h.d, h.u⟩
structure IoM (P : Nat → Prop) (wA : World) (b bw n : Nat) (W : World) (hl : List Nat) (v : Value) (f : Nat → Nat) (out : List Nat) (vo : Value) : Prop where
 fr : ExtP P wA W
 q : QS P b W hl v
 wt : W.ownsRow 0 3 1 (sl bw n) n ((rng n f).flatMap cN)
 vb : v.ownBlock ≠ some bw
 bb : b ≠ bw
 pw : ¬ P bw
 ls : W.ownsRow wA.heap.size 3 1 vo out.length (out.flatMap cN)
 lv : ∀ k, vo.ownBlock = some k → v.ownBlock ≠ some k
 lb : b < wA.heap.size
 lw : bw < wA.heap.size
 pl : ∀ k, P k → k < wA.heap.size
section
variable {P : Nat → Prop} {wA W W' : World} {b bw n : Nat} {hl out : List Nat} {v vo : Value} {f : Nat → Nat}
theorem IoM.ext (h : IoM P wA b bw n W hl v f out vo) (e : Ext W W') : IoM P wA b bw n W' hl v f out vo :=
 ⟨h.fr.trans e, h.q.ext e, ownsRow_ext h.wt e, h.vb, h.bb, h.pw, ownsRow_ext h.ls e, h.lv, h.lb, h.lw, h.pl⟩
theorem IoM.low (h : IoM P wA b bw n W hl v f out vo) : ∀ k, vo.ownBlock = some k → wA.heap.size ≤ k ∧ k < W.heap.size ∧ k ≠ b ∧ k ≠ bw ∧ ¬ P k := by
 intro k e
 have h1 := h.ls.lt k e
 have h2 := h.lb
 have h3 := h.lw
 exact ⟨h1.1, h1.2, by omega, by omega, fun hp => by have := h.pl k hp; omega⟩
theorem IoM.setW (h : IoM P wA b bw n W hl v f out vo) (i x : Nat) : IoM P wA b bw n (W.setCell ⟨bw, i, none⟩ (.int .i64 (x : Int))) hl v (upd f i x) out vo := by
 have hb : ∀ k, k ≠ bw → (W.setCell ⟨bw, i, none⟩ (.int .i64 (x : Int))).heap[k]? = W.heap[k]? := fun k hk => Below.heap_setCell _ _ _ _ hk
 exact ⟨h.fr.setCell h.pw _, h.q.keep (hb b h.bb) (fun g e _ => hb g (fun e2 => h.vb (by rw [e, e2]))), own_put hN h.wt i x, h.vb, h.bb, h.pw, own_keep h.ls (fun g e _ => hb g (h.low g e).2.2.2.1), h.lv, h.lb, h.lw, h.pl⟩
theorem IoM.oth (h : IoM P wA b bw n W hl v f out vo) : OtB b v W (bw :: vo.ownBlock.toList) := by
 intro k hk
 rcases List.mem_cons.1 hk with e | hk
 · subst e
   exact ⟨(h.wt.lt _ rfl).2, fun e => h.bb e.symm, h.vb⟩
 · have e : vo.ownBlock = some k := by simpa using hk
   exact ⟨(h.low k e).2.1, (h.low k e).2.2.1, h.lv k e⟩
theorem IoM.heap (h : IoM P wA b bw n W hl v f out vo) {l2 : List Nat} {v' : Value} (q : QS P b W' l2 v') (ho : OtK v' W W' (bw :: vo.ownBlock.toList)) (e : ExtP P W W') : IoM P wA b bw n W' l2 v' f out vo := by
 have mem : ∀ k, vo.ownBlock = some k → k ∈ bw :: vo.ownBlock.toList := fun k e => by rw [e]; simp
 refine ⟨h.fr.keep e, q, own_keep h.wt (fun g eg _ => by cases eg; exact (ho bw (List.mem_cons_self ..)).1), (ho bw (List.mem_cons_self ..)).2, h.bb, h.pw, own_keep h.ls (fun g eg _ => (ho g (mem g eg)).1), fun k ek => (ho k (mem k ek)).2, h.lb, h.lw, h.pl⟩
theorem IoM.size (h : IoM P wA b bw n W hl v f out vo) : ∀ k, P k → k < W.heap.size := fun k hk => Nat.lt_of_lt_of_le (h.pl k hk) h.fr.size
theorem io_push (h : IoM P wA b bw n W hl v f out vo) (x : Nat) (hn : hl.length ≤ 4999) :
   Calls Try.prog 20 #[.iface 48 (.pointer (some ⟨b, 0, none⟩)), .iface 3 (.int .i64 (x : Int))] W fun e w' => e = .returned (.tuple #[]) ∧ ∃ v', IoM P wA b bw n w' (x :: hl) v' f out vo :=
 (hpush_st P b W hl v _ x h.q h.oth h.size hn).mono fun _ _ ⟨e, v', q, ho, ex⟩ => ⟨e, v', h.heap q ho ex⟩
theorem io_pop (h : IoM P wA b bw n W hl v f out vo) (hn : hl.length ≤ 5000) (h0 : hl ≠ []) :
   Calls Try.prog 22 #[.iface 48 (.pointer (some ⟨b, 0, none⟩))] W fun e w' => ∃ m l2, e = .returned (.iface 3 (.int .i64 ((m : Nat) : Int))) ∧ hl.Perm (m :: l2) ∧ (∀ y ∈ l2, m ≤ y) ∧ ∃ v', IoM P wA b bw n w' l2 v' f out vo :=
 (hpop_st P b W hl v _ h.q h.oth h.size hn h0).mono fun _ _ ⟨m, l2, e, p, hm, v', q, ho, ex⟩ => ⟨m, l2, e, p, hm, v', h.heap q ho ex⟩
theorem IoM.app (h : IoM P wA b bw n W hl v f out vo) {x : Nat} {v2 : Value} {m : Nat} (hm : out.length + 1 = m) (o : W'.ownsRow wA.heap.size 3 1 v2 m ((out ++ [x]).flatMap cN)) (g : W.grownBy W' vo.ownBlock) (nb : v2.ownBlock = vo.ownBlock ∨ v2.ownBlock = some W.heap.size) : IoM P wA b bw n W' hl v f (out ++ [x]) v2 := by
 obtain ⟨b1, b2⟩ := h.q.lt
 have far : ∀ k, k < W.heap.size → vo.ownBlock ≠ some k → W'.heap[k]? = W.heap[k]? := fun k hk hn => g.block k hk (fun e => hn e.symm)
 have lo := h.low
 refine ⟨h.fr.grown g (fun k e => (lo k e).2.2.2.2), h.q.keep (far b b1 (fun e => (lo b e).2.2.1 rfl)) (fun k e hk => far k hk (fun e2 => h.lv k e2 e)), own_keep h.wt (fun k e hk => by cases e; exact far bw hk (fun e2 => (lo bw e2).2.2.2.1 rfl)), h.vb, h.bb, h.pw, own_eq o (by simp [hm]) rfl, fun k e e2 => ?_, h.lb, h.lw, h.pl⟩
 rcases nb with nb | nb
 · exact h.lv k (nb ▸ e) e2
 · rw [nb] at e
   cases e
   exact Nat.lt_irrefl _ (b2 _ e2).1
theorem IoM.wAt (h : IoM P wA b bw n W hl v f out vo) {i : Nat} (hi : i < n) : W.cell? ⟨bw, i, none⟩ = some (.int .i64 ((f i : Nat) : Int)) ∧ W.frozen? ⟨bw, i, none⟩ = false := own_cell hN h.wt hi
/-- The queue's cell, and how many are in it. -/
theorem IoM.cell (h : IoM P wA b bw n W hl v f out vo) : ∃ p c, v = .slice p hl.length c ∧ W.cell? ⟨b, 0, none⟩ = some (.slice p hl.length c) := by
 obtain ⟨l', q, p, _⟩ := h.q
 obtain ⟨pp, c, rfl, _⟩ := own_form q.o
 rw [p.length_eq] at q ⊢
 exact ⟨pp, c, rfl, q.cell.1⟩
end
end Go.Proofs.Ytcjenjeggmlanaa

/-
 The contract of package coord's Parse.
 How references are written: the contracts of package coord's and the document's Print.
 Trees as arguments: what is read as a tree is one.
 Trees as texts. Plain mathematics: no program in sight.
-/
import Derived.Test.YtcggiljlilbdfaaV9
import Derived.Deep.CutBlock
import Derived.Deep.DeepCutAuto
import Derived.Test.YtcggiljlilbdfaaV11
import Derived.Lib.SmallJoins
import Derived.Deep.Slices
import Derived.Test.YtcggiljlilbdfaaV5
namespace Go.Proofs.Ytcggiljlilbdfaa
open Go.RowKit
set_option maxHeartbeats 1000000

theorem ret_ref {x y : Value} {a b : Bool} (h : x = y) (g : a = b) : Ending.returned (.tuple #[x, .bool a]) = .returned (.tuple #[y, .bool b]) := by rw [h, g]

open Go.RowKit
set_option maxHeartbeats 1000000

/-- A reference's text. -/
def printR (r c : Int) (ar ac : Bool) : List UInt8 := if inB r c then signL ac ++ nameL c ++ signL ar ++ Lib.itoa r else []
theorem in_bd {r c : Int} (h : inB r c = true) : 1 ≤ r ∧ r ≤ 1000 ∧ 1 ≤ c ∧ c ≤ 52 := by
 unfold inB at h; simp at h; omega
theorem name_sz (c : Int) : (⟨(nameL c).toArray⟩ : ByteArray).size ≤ 2 := by rw [← size_list]; exact name_len c
theorem row_sz (r : Int) (h1 : 1 ≤ r) (h2 : r ≤ 1000) : (⟨(Lib.itoa r).toArray⟩ : ByteArray).size ≤ 4 := by
 obtain ⟨n, rfl⟩ : ∃ n : Nat, r = n := ⟨r.toNat, by omega⟩
 rw [itoa_nat, ← size_list]; exact dec_len4 n (by omega)

set_option maxRecDepth 100000 in
theorem rprint6_any (r c : Int) (ar ac : Bool) (hr : I64 r) (hc : I64 c) (w : World) :
   Calls Try.prog 70 #[.agg #[.int .i64 r, .int .i64 c, .bool ar, .bool ac]] w fun e w' => e = .returned (.string ⟨(printR r c ar ac).toArray⟩) ∧ Ext w w' := by
 have c0 := fun W => rin_any r c W
 have HP : Hid (printR r c ar ac = if inB r c then signL ac ++ nameL c ++ signL ar ++ Lib.itoa r else []) := rfl
 obtain ⟨W0, hW0⟩ : ∃ W0, W0 = w.alloc (.cells #[.int .i64 r, .int .i64 c, .bool ar, .bool ac] 23) := ⟨_, rfl⟩
 have XW : Ext w W0 := by rw [hW0]; exact (Ext.refl _).alloc _
 have B0 : Blk W0 w.heap.size (.int .i64 r) (.int .i64 c) (.bool ar) (.bool ac) := by rw [hW0]; exact blk_top rfl (Ext.refl _)
 have mkS : Hid (∀ W, Ext W0 W → (W.cell? ⟨w.heap.size, 0, none⟩ = some (.int .i64 r) ∧ W.cell? ⟨w.heap.size, 1, none⟩ = some (.int .i64 c) ∧ W.cell? ⟨w.heap.size, 2, none⟩ = some (.bool ar) ∧ W.cell? ⟨w.heap.size, 3, none⟩ = some (.bool ac)) ∧ Ext W0 W) := by
   intro W E
   exact ⟨(B0.ext E).2.1, E⟩
 cases hin : inB r c
 · rw [hin] at c0 HP
   have HP' : Hid (printR r c ar ac = []) := HP.out
   clear HP mkS B0
   go_enter Try.func70, Try.ntmps70
   go_wp2_with fail
   refine (c0 _).mono ?_
   rintro e w1 ⟨rfl, rfl⟩
   go_wp2_with fail
   go_ret
   exact ⟨ret_s (by rw [HP'.out]), (Ext.refl _).alloc _⟩
 · obtain ⟨r1, r2, d1, d2⟩ := in_bd hin
   rw [hin] at c0 HP
   have HP' : Hid (printR r c ar ac = signL ac ++ nameL c ++ signL ar ++ Lib.itoa r) := HP.out
   have cN := fun W => rcolname_any c hc W
   have cD := fun W => rdigits_any r hr W
   have zN := name_sz c
   have zD := row_sz r r1 r2
   have HN : Hid ((⟨(nameL c).toArray⟩ : ByteArray).data.toList = nameL c) := rfl
   have HD : Hid ((⟨(Lib.itoa r).toArray⟩ : ByteArray).data.toList = Lib.itoa r) := rfl
   generalize (⟨(nameL c).toArray⟩ : ByteArray) = N at cN zN HN
   generalize (⟨(Lib.itoa r).toArray⟩ : ByteArray) = D at cD zD HD
   clear HP hin r1 r2 d1 d2 B0
   obtain ⟨A, hA⟩ : ∃ A : ByteArray, (⟨#[36]⟩ : ByteArray) = A := ⟨_, rfl⟩
   obtain ⟨B, hB⟩ : ∃ B : ByteArray, (⟨#[]⟩ : ByteArray) = B := ⟨_, rfl⟩
   have zA : A.size = 1 := by rw [← hA]; rfl
   have zB : B.size = 0 := by rw [← hB]; rfl
   have HA : Hid (A.data.toList = [36]) := by show _ = _; rw [← hA]
   have HB : Hid (B.data.toList = []) := by show _ = _; rw [← hB]
   cases ac <;> cases ar
   · have n1 : ¬ 9223372036854775807 < B.size + N.size := by omega
     have n2 : ¬ 9223372036854775807 < B.size + N.size + B.size := by omega
     have n3 : ¬ 9223372036854775807 < B.size + N.size + B.size + D.size := by omega
     clear zA zB
     go_enter Try.func70, Try.ntmps70
     go_wp2_with fail
     rw [← hW0]
     clear hW0
     refine (c0 _).mono ?_
     rintro e w1 ⟨rfl, rfl⟩
     have B0 := mkS.out w1 (Ext.refl _)
     obtain ⟨⟨k0, k1, k2, k3⟩, _⟩ := B0
     go_wp2_with fail
     go_region_held3 (fun W => (W.cell? ⟨w.heap.size, 0, none⟩ = some (.int .i64 r) ∧ W.cell? ⟨w.heap.size, 1, none⟩ = some (.int .i64 c) ∧ W.cell? ⟨w.heap.size, 2, none⟩ = some (.bool false) ∧ W.cell? ⟨w.heap.size, 3, none⟩ = some (.bool false)) ∧ Ext w1 W)
       ((refine mkS.out _ ?_; ((with_reducible (repeat (first | assumption | exact Ext.refl _ | apply Ext.alloc | apply Ext.drew | apply Ext.drewN))); done)))
       (first | (go_at_call 100; refine Calls.mono (cN _) ?_; rintro e y2 ⟨rfl, E2⟩; have Z2 : Ext w1 y2 := Ext.trans (by ((with_reducible (repeat (first | assumption | exact Ext.refl _ | apply Ext.alloc | apply Ext.drew | apply Ext.drewN))); done)) E2) | (go_at_call 101; refine Calls.mono (cD _) ?_; rintro e y3 ⟨rfl, E3⟩; have Z3 : Ext w1 y3 := Ext.trans (by ((with_reducible (repeat (first | assumption | exact Ext.refl _ | apply Ext.alloc | apply Ext.drew | apply Ext.drewN))); done)) E3))
     go_wp2_with fail
     go_ret
     exact ⟨ret_s (mkL _ _ (by rw [HP'.out, app_list, app_list, app_list, HN.out, HD.out, HB.out]; rfl)), XW.trans (by assumption)⟩
   · have n1 : ¬ 9223372036854775807 < B.size + N.size := by omega
     have n2 : ¬ 9223372036854775807 < B.size + N.size + A.size := by omega
     have n3 : ¬ 9223372036854775807 < B.size + N.size + A.size + D.size := by omega
     clear zA zB
     go_enter Try.func70, Try.ntmps70
     go_wp2_with fail
     rw [← hW0]
     clear hW0
     refine (c0 _).mono ?_
     rintro e w1 ⟨rfl, rfl⟩
     have B0 := mkS.out w1 (Ext.refl _)
     obtain ⟨⟨k0, k1, k2, k3⟩, _⟩ := B0
     go_wp2_with fail
     go_region_held3 (fun W => (W.cell? ⟨w.heap.size, 0, none⟩ = some (.int .i64 r) ∧ W.cell? ⟨w.heap.size, 1, none⟩ = some (.int .i64 c) ∧ W.cell? ⟨w.heap.size, 2, none⟩ = some (.bool true) ∧ W.cell? ⟨w.heap.size, 3, none⟩ = some (.bool false)) ∧ Ext w1 W)
       ((refine mkS.out _ ?_; ((with_reducible (repeat (first | assumption | exact Ext.refl _ | apply Ext.alloc | apply Ext.drew | apply Ext.drewN))); done)))
       (first | (go_at_call 100; refine Calls.mono (cN _) ?_; rintro e y2 ⟨rfl, E2⟩; have Z2 : Ext w1 y2 := Ext.trans (by ((with_reducible (repeat (first | assumption | exact Ext.refl _ | apply Ext.alloc | apply Ext.drew | apply Ext.drewN))); done)) E2) | (go_at_call 101; refine Calls.mono (cD _) ?_; rintro e y3 ⟨rfl, E3⟩; have Z3 : Ext w1 y3 := Ext.trans (by ((with_reducible (repeat (first | assumption | exact Ext.refl _ | apply Ext.alloc | apply Ext.drew | apply Ext.drewN))); done)) E3))
     go_wp2_with fail
     go_ret
     exact ⟨ret_s (mkL _ _ (by rw [HP'.out, app_list, app_list, app_list, HN.out, HD.out, HB.out, HA.out]; rfl)), XW.trans (by assumption)⟩
   · have n1 : ¬ 9223372036854775807 < A.size + N.size := by omega
     have n2 : ¬ 9223372036854775807 < A.size + N.size + B.size := by omega
     have n3 : ¬ 9223372036854775807 < A.size + N.size + B.size + D.size := by omega
     clear zA zB
     go_enter Try.func70, Try.ntmps70
     go_wp2_with fail
     rw [← hW0]
     clear hW0
     refine (c0 _).mono ?_
     rintro e w1 ⟨rfl, rfl⟩
     have B0 := mkS.out w1 (Ext.refl _)
     obtain ⟨⟨k0, k1, k2, k3⟩, _⟩ := B0
     go_wp2_with fail
     go_region_held3 (fun W => (W.cell? ⟨w.heap.size, 0, none⟩ = some (.int .i64 r) ∧ W.cell? ⟨w.heap.size, 1, none⟩ = some (.int .i64 c) ∧ W.cell? ⟨w.heap.size, 2, none⟩ = some (.bool false) ∧ W.cell? ⟨w.heap.size, 3, none⟩ = some (.bool true)) ∧ Ext w1 W)
       ((refine mkS.out _ ?_; ((with_reducible (repeat (first | assumption | exact Ext.refl _ | apply Ext.alloc | apply Ext.drew | apply Ext.drewN))); done)))
       (first | (go_at_call 100; refine Calls.mono (cN _) ?_; rintro e y2 ⟨rfl, E2⟩; have Z2 : Ext w1 y2 := Ext.trans (by ((with_reducible (repeat (first | assumption | exact Ext.refl _ | apply Ext.alloc | apply Ext.drew | apply Ext.drewN))); done)) E2) | (go_at_call 101; refine Calls.mono (cD _) ?_; rintro e y3 ⟨rfl, E3⟩; have Z3 : Ext w1 y3 := Ext.trans (by ((with_reducible (repeat (first | assumption | exact Ext.refl _ | apply Ext.alloc | apply Ext.drew | apply Ext.drewN))); done)) E3))
     go_wp2_with fail
     go_ret
     exact ⟨ret_s (mkL _ _ (by rw [HP'.out, app_list, app_list, app_list, HN.out, HD.out, HA.out, HB.out]; rfl)), XW.trans (by assumption)⟩
   · have n1 : ¬ 9223372036854775807 < A.size + N.size := by omega
     have n2 : ¬ 9223372036854775807 < A.size + N.size + A.size := by omega
     have n3 : ¬ 9223372036854775807 < A.size + N.size + A.size + D.size := by omega
     clear zA zB
     go_enter Try.func70, Try.ntmps70
     go_wp2_with fail
     rw [← hW0]
     clear hW0
     refine (c0 _).mono ?_
     rintro e w1 ⟨rfl, rfl⟩
     have B0 := mkS.out w1 (Ext.refl _)
     obtain ⟨⟨k0, k1, k2, k3⟩, _⟩ := B0
     go_wp2_with fail
     go_region_held3 (fun W => (W.cell? ⟨w.heap.size, 0, none⟩ = some (.int .i64 r) ∧ W.cell? ⟨w.heap.size, 1, none⟩ = some (.int .i64 c) ∧ W.cell? ⟨w.heap.size, 2, none⟩ = some (.bool true) ∧ W.cell? ⟨w.heap.size, 3, none⟩ = some (.bool true)) ∧ Ext w1 W)
       ((refine mkS.out _ ?_; ((with_reducible (repeat (first | assumption | exact Ext.refl _ | apply Ext.alloc | apply Ext.drew | apply Ext.drewN))); done)))
       (first | (go_at_call 100; refine Calls.mono (cN _) ?_; rintro e y2 ⟨rfl, E2⟩; have Z2 : Ext w1 y2 := Ext.trans (by ((with_reducible (repeat (first | assumption | exact Ext.refl _ | apply Ext.alloc | apply Ext.drew | apply Ext.drewN))); done)) E2) | (go_at_call 101; refine Calls.mono (cD _) ?_; rintro e y3 ⟨rfl, E3⟩; have Z3 : Ext w1 y3 := Ext.trans (by ((with_reducible (repeat (first | assumption | exact Ext.refl _ | apply Ext.alloc | apply Ext.drew | apply Ext.drewN))); done)) E3))
     go_wp2_with fail
     go_ret
     exact ⟨ret_s (mkL _ _ (by rw [HP'.out, app_list, app_list, app_list, HN.out, HD.out, HA.out]; rfl)), XW.trans (by assumption)⟩

open Go.ChangeShapes Go.WideShapes Go.RowKit
open Go.Joins (trod_struct4)
open Go.Deep (choose_lt)
set_option maxHeartbeats 2000000

instance : Inhabited T := ⟨tz⟩
/-- The numbers of a tree are of 64 bits, its texts no longer than can be. -/
inductive Wf : T → Prop
 | mk (t : T) : I64 t.k → I64 t.n → t.s.length ≤ maxLen → I64 t.e → I64 t.r.1 → I64 t.r.2.1 → I64 t.q.1 → I64 t.q.2.1 → (∀ x ∈ t.l, Wf x) → Wf t
theorem list13 {α : Type} {cs : List α} (h : cs.length = 13) : ∃ c0 c1 c2 c3 c4 c5 c6 c7 c8 c9 c10 c11 c12, cs = [c0, c1, c2, c3, c4, c5, c6, c7, c8, c9, c10, c11, c12] := by
 match cs, h with
 | [c0, c1, c2, c3, c4, c5, c6, c7, c8, c9, c10, c11, c12], _ => exact ⟨c0, c1, c2, c3, c4, c5, c6, c7, c8, c9, c10, c11, c12, rfl⟩
theorem cells_exp : Try.prog.cellsOf 26 = 13 := by kernel_rfl
theorem cells_rf : Try.prog.cellsOf 23 = 4 := by kernel_rfl
theorem cells_i : Try.prog.cellsOf 3 = 1 := by kernel_rfl
theorem cells_i64 : Try.prog.cellsOf 2 = 1 := by kernel_rfl
theorem cells_st : Try.prog.cellsOf 9 = 1 := by kernel_rfl
theorem cells_bl : Try.prog.cellsOf 4 = 1 := by kernel_rfl
theorem cells_sl : Try.prog.cellsOf 24 = 1 := by kernel_rfl
section
variable {H : Type} {enc : TypeId × Value → H} {w : World} {base : Nat} {sp : Nat → Bool} {hd : Bool}
theorem open_rf {fuel : Nat} {c0 c1 c2 c3 : Value} {x : DataW H × List MemPlace} (h : DataW.trod enc Try.prog w base sp hd fuel 23 [c0, c1, c2, c3] = some x) :
   ∃ r : Rf, c0 = .int .i64 r.1 ∧ c1 = .int .i64 r.2.1 ∧ c2 = .bool r.2.2.1 ∧ c3 = .bool r.2.2.2 ∧ I64 r.1 ∧ I64 r.2.1 := by
 obtain ⟨y0, y1, y2, y3, n, _, _, h0, h1, h2, h3⟩ := trod_struct4 Try.underlying23 h
 simp [cells_i, cells_bl] at h0 h1 h2 h3
 obtain ⟨a0, e0, _, w0⟩ := DataW.trod_int Try.underlying3 h0
 obtain ⟨a1, e1, _, w1⟩ := DataW.trod_int Try.underlying3 h1
 obtain ⟨a2, e2, _⟩ := DataW.trod_bool Try.underlying4 h2
 obtain ⟨a3, e3, _⟩ := DataW.trod_bool Try.underlying4 h3
 simp only [List.cons.injEq, and_true] at e0 e1 e2 e3
 exact ⟨(a0, a1, a2, a3), e0, e1, e2, e3, i64_of_wf w0, i64_of_wf w1⟩
theorem open_exp : ∀ (fuel : Nat) (cs : List Value) (x : DataW H × List MemPlace), DataW.trod enc Try.prog w base sp hd fuel 26 cs = some x →
   ∃ (t : T) (lv : Value), cs = cellsT t lv ∧ IsL w (fun _ => True) lv t.l ∧ Wf t := by
 intro fuel
 induction fuel using Nat.strongRecOn with
 | _ fuel ih =>
   intro cs x h
   obtain ⟨xs, n, rfl, _, hlen, hxl, hf⟩ := DataW.trod_struct Try.underlying26 h
   rw [cells_exp] at hlen
   obtain ⟨c0, c1, c2, c3, c4, c5, c6, c7, c8, c9, c10, c11, c12, rfl⟩ := list13 hlen
   have hx : ∀ i, i < 7 → ∃ y, xs[i]? = some y := fun i hi => ⟨_, List.getElem?_eq_getElem (by rw [hxl]; exact hi)⟩
   obtain ⟨y0, g0⟩ := hx 0 (by decide)
   obtain ⟨y1, g1⟩ := hx 1 (by decide)
   obtain ⟨y2, g2⟩ := hx 2 (by decide)
   obtain ⟨y3, g3⟩ := hx 3 (by decide)
   obtain ⟨y4, g4⟩ := hx 4 (by decide)
   obtain ⟨y5, g5⟩ := hx 5 (by decide)
   obtain ⟨y6, g6⟩ := hx 6 (by decide)
   have f0 := (hf 0 _ rfl).trans g0
   have f1 := (hf 1 _ rfl).trans g1
   have f2 := (hf 2 _ rfl).trans g2
   have f3 := (hf 3 _ rfl).trans g3
   have f4 := (hf 4 _ rfl).trans g4
   have f5 := (hf 5 _ rfl).trans g5
   have f6 := (hf 6 _ rfl).trans g6
   simp [cells_i, cells_i64, cells_st, cells_rf, cells_sl] at f0 f1 f2 f3 f4 f5 f6
   obtain ⟨a0, e0, _, w0⟩ := DataW.trod_int Try.underlying3 f0
   obtain ⟨a1, e1, _, w1⟩ := DataW.trod_int Try.underlying2 f1
   obtain ⟨a2, e2, _, w2⟩ := DataW.trod_string Try.underlying9 f2
   obtain ⟨a3, e3, _, w3⟩ := DataW.trod_int Try.underlying3 f3
   obtain ⟨r, r0, r1, r2, r3, rw0, rw1⟩ := open_rf f4
   obtain ⟨q, q0, q1, q2, q3, qw0, qw1⟩ := open_rf f5
   simp only [List.cons.injEq, and_true] at e0 e1 e2 e3
   subst e0 e1 e2 e3 r0 r1 r2 r3 q0 q1 q2 q3
   have hs : bs a2.data.toList = a2 := by unfold bs; rfl
   have key : ∃ l, IsL w (fun _ => True) c12 l ∧ ∀ x ∈ l, Wf x := by
     rcases DataW.trod_slice Try.underlying24 f6 with ⟨e6, _⟩ | ⟨a, len, cap, elems, rest, n', hn', e6, _, hb, hl, hm, hel, hx, _, _⟩
     · simp only [List.cons.injEq, and_true] at e6
       subst e6
       exact ⟨[], .nil, fun x hx => by cases hx⟩
     · simp only [List.cons.injEq, and_true] at e6
       subst e6
       rw [cells_exp] at hx
       have each : ∀ i, i < len → ∃ p : T × Value, (∀ j u, (cellsT p.1 p.2)[j]? = some u → w.cell? ((a.add (i * 13)).add j) = some u) ∧ IsL w (fun _ => True) p.2 p.1.l ∧ Wf p.1 := by
         intro i hi
         have h0 := hx i hi
         rw [List.getElem?_eq_getElem (show i < elems.length by omega)] at h0
         obtain ⟨cs', h1, h2⟩ := Option.bind_eq_some_iff.1 h0
         obtain ⟨_, k1, k2⟩ := World.cells?_some h1
         obtain ⟨t, lv, rfl, hL, hW⟩ := ih n' (by omega) cs' _ h2
         refine ⟨(t, lv), fun j u hu => ?_, hL, hW⟩
         rw [← hu]
         refine k2 j ?_
         have := (List.getElem?_eq_some_iff.1 hu).1
         rw [← k1]; exact this
       obtain ⟨f, hf⟩ := choose_lt each
       by_cases h0 : len = 0
       · subst h0
         exact ⟨[], .nil, fun x hx => by cases hx⟩
       obtain ⟨b, off, spot⟩ := a
       have hz := (hf 0 (by omega)).1 0 _ rfl
       have hspot : spot = none := by simpa [Addr.add] using World.cell?_spot hz
       subst hspot
       have hblt : b < w.heap.size := World.block_lt_of_cell? _ _ hz
       refine ⟨(List.range len).map (fun i => (f i).1), .mk b off cap len _ (fun i => (f i).2) (by simp) hl trivial hblt ?_ ?_, ?_⟩
       · intro i t j u hi hj
         have hi' : i < len := by
           have := (List.getElem?_eq_some_iff.1 hi).1
           simpa using this
         rw [List.getElem?_map, List.getElem?_range hi'] at hi
         simp at hi
         subst hi
         have := (hf i hi').1 j u hj
         rw [Addr.add_lit, Addr.add_lit] at this
         exact this
       · intro i t hi
         have hi' : i < len := by
           have := (List.getElem?_eq_some_iff.1 hi).1
           simpa using this
         rw [List.getElem?_map, List.getElem?_range hi'] at hi
         simp at hi
         subst hi
         exact (hf i hi').2.1
       · intro x hx
         obtain ⟨i, hi, rfl⟩ := List.mem_map.1 hx
         exact (hf i (List.mem_range.1 hi)).2.2
   obtain ⟨l, hL, hW⟩ := key
   refine ⟨.mk a0 a1 a2.data.toList a3 r q l, c12, ?_, hL, .mk _ (i64_of_wf w0) (i64_of_wf w1) (by show a2.data.toList.length ≤ maxLen; rw [size_list]; exact w2) (i64_of_wf w3) rw0 rw1 qw0 qw1 hW⟩
   show _ = cellsT _ c12
   unfold cellsT
   simp only [T.k, T.n, T.s, T.e, T.r, T.q, hs]
end

open Go.RowKit

/-- A text between quotes. -/
def quoB : List UInt8 → List UInt8
 | [] => []
 | c :: r => if c = 34 then 34 :: 34 :: quoB r else c :: quoB r
def quoL (s : List UInt8) : List UInt8 := 34 :: (quoB s ++ [34])
/-- A place's name. -/
def rfL (r : Rf) : List UInt8 := printR r.1 r.2.1 r.2.2.1 r.2.2.2
/-- An error's name. -/
def errL (e : Int) : List UInt8 := if e = 1 then [35, 82, 69, 70, 33] else if e = 2 then [35, 86, 65, 76, 85, 69, 33] else if e = 3 then [35, 68, 73, 86, 47, 48, 33] else if e = 4 then [35, 78, 85, 77, 33] else if e = 5 then [35, 67, 89, 67, 76, 69, 33] else []
def brkL (b : Bool) (l : List UInt8) : List UInt8 := if b then 40 :: (l ++ [41]) else l
/-- With commas between. -/
def joinL : List (List UInt8) → List UInt8
 | [] => []
 | [a] => a
 | a :: b :: r => a ++ 44 :: joinL (b :: r)
def hdT (l : List T) : T := l.headD tz
def sdT (l : List T) : T := l.tail.headD tz
/-- Whether a part is looser than so. -/
def loose (k : Nat) (x : T) : Bool := x.k == 7 && decide (bnd x.s < k)
/-- A tree's text. -/
def shT : Nat → T → List UInt8
 | 0, _ => []
 | n + 1, t => if t.k = 0 then printL t.n else if t.k = 1 then quoL t.s else if t.k = 2 then (if t.n = 1 then wTrue else wFalse) else if t.k = 3 then errL t.e else if t.k = 4 then rfL t.r else if t.k = 5 then rfL t.r ++ 58 :: rfL t.q else
   if t.k = 6 then 45 :: brkL (loose 5 (hdT t.l)) (shT n (hdT t.l)) else
   if t.k = 7 then brkL (loose (bnd t.s) (hdT t.l)) (shT n (hdT t.l)) ++ t.s ++ brkL (loose (bnd t.s + 1) (sdT t.l)) (shT n (sdT t.l)) else
   t.s ++ 40 :: (joinL (t.l.map (shT n)) ++ [41])
/-- How many parts a tree has. -/
def szT : Nat → T → Nat
 | 0, _ => 1
 | n + 1, t => 1 + (t.l.map (szT n)).sum

theorem quoB_len (s : List UInt8) : (quoB s).length ≤ 2 * s.length := by
 induction s with
 | nil => simp [quoB]
 | cons c r ih => unfold quoB; split <;> simp <;> omega
theorem sg_len (b : Bool) : (signL b).length ≤ 1 := by cases b <;> decide
theorem rfL_len (r : Rf) : (rfL r).length ≤ 8 := by
 unfold rfL printR
 split
 · rename_i h
   obtain ⟨h1, h2, _, _⟩ := in_bd h
   have a := row_sz r.1 h1 h2
   rw [← size_list] at a
   have b := name_len r.2.1
   have c := sg_len r.2.2.1
   have d := sg_len r.2.2.2
   have e : (⟨(Lib.itoa r.1).toArray⟩ : ByteArray).data.toList.length = (Lib.itoa r.1).length := rfl
   simp only [List.length_append]
   omega
 · simp
theorem errL_len (e : Int) : (errL e).length ≤ 7 := by unfold errL; repeat (first | (split; · simp) | simp)
theorem brkL_len (b : Bool) (l : List UInt8) : (brkL b l).length ≤ l.length + 2 := by cases b <;> simp [brkL]
theorem joinL_len (ls : List (List UInt8)) : (joinL ls).length ≤ (ls.map (fun l => l.length + 1)).sum := by
 match ls with
 | [] => simp [joinL]
 | [a] => simp [joinL]
 | a :: b :: r =>
   have ih := joinL_len (b :: r)
   unfold joinL
   simp only [List.length_append, List.length_cons, List.map_cons, List.sum_cons] at ih ⊢
   omega
theorem szT_pos (n : Nat) (t : T) : 1 ≤ szT n t := by cases n <;> simp [szT]
theorem sz_mem {n : Nat} {l : List T} {x : T} (h : x ∈ l) : szT n x ≤ (l.map (szT n)).sum := by
 induction l with
 | nil => cases h
 | cons a r ih =>
   simp only [List.map_cons, List.sum_cons]
   rcases List.mem_cons.1 h with rfl | h
   · omega
   · have := ih h; omega
theorem kno_len {s : List UInt8} (h : (kno s).isSome = true) : s.length ≤ 8 := by
 unfold kno at h
 split at h
 · rename_i hs; simp [kn1] at hs; rcases hs with rfl | rfl | rfl | rfl | rfl | rfl | rfl | rfl <;> simp
 · split at h
   · rename_i hs; simp [kn2] at hs; rcases hs with rfl | rfl <;> simp
   · split at h
     · rename_i hs; simp [kn3] at hs; rcases hs with rfl | rfl | rfl <;> simp
     · split at h
       · rename_i hs; simp [kn4] at hs; subst hs; simp
       · split at h
         · rename_i hs; simp [kn5] at hs; rcases hs with rfl | rfl | rfl | rfl | rfl | rfl <;> simp
         · cases h
theorem bnd_len {s : List UInt8} (h : bnd s ≠ 0) : s.length ≤ 2 := by
 unfold bnd at h
 split at h
 · rename_i hs; simp [bd1] at hs; rcases hs with rfl | rfl | rfl | rfl | rfl | rfl <;> simp
 · split at h
   · rename_i hs; subst hs; simp
   · split at h
     · rename_i hs; rcases hs with rfl | rfl <;> simp
     · split at h
       · rename_i hs; rcases hs with rfl | rfl <;> simp
       · exact absurd rfl h
theorem body_len (n : Nat) (h : n ≤ 9223372036854775807) : (bodyL n).length ≤ 20 := by
 obtain ⟨k, hk, hl⟩ := frac_back (n % 10000) (Nat.mod_lt _ (by decide))
 have hd := dec_len (n / 10000) 14 (by omega)
 unfold bodyL; rw [List.length_append]
 split
 · simp; omega
 · simp; omega
theorem printL_len (a : Int) (h : I64 a) : (printL a).length ≤ 21 := by
 obtain ⟨h1, h2⟩ := h
 unfold printL
 split
 · rename_i hc
   have hb : a.natAbs ≤ 9223372036854775807 := by unfold canB at hc; simp at hc; omega
   have := body_len a.natAbs hb
   split <;> simp <;> omega
 · simp
theorem sum_le {α : Type} {l : List α} {f g : α → Nat} (h : ∀ x ∈ l, f x ≤ g x) : (l.map f).sum ≤ (l.map g).sum := by
 induction l with
 | nil => simp
 | cons a r ih =>
   simp only [List.map_cons, List.sum_cons]
   have := h a (List.mem_cons_self ..)
   have := ih (fun x hx => h x (List.mem_cons_of_mem _ hx))
   omega
theorem sum_mul {α : Type} (l : List α) (f : α → Nat) (c : Nat) : (l.map (fun x => c * f x)).sum = c * (l.map f).sum := by
 induction l with
 | nil => simp
 | cons a r ih => simp only [List.map_cons, List.sum_cons, ih, Nat.mul_add]
/-- How long a text is at most. -/
theorem sh_len (n : Nat) : ∀ t : T, Wf t → (wellT n t = true ∨ t.k = 5) → (shT n t).length + 1 ≤ 701 * szT n t := by
 induction n with
 | zero => intro t _ _; simp [shT, szT]
 | succ n ih =>
   intro t hw h
   have hz : 701 ≤ 701 * szT (n + 1) t := Nat.le_mul_of_pos_right _ (szT_pos _ _)
   obtain ⟨_, w1, w2, w3, w4, w5, w6, w7, w8, w9⟩ := hw
   unfold shT
   by_cases k0 : t.k = 0
   · rw [if_pos k0]; have := printL_len t.n w2; omega
   by_cases k1 : t.k = 1
   · rw [if_neg k0, if_pos k1]
     have hs : t.s.length ≤ 300 := by
       rcases h with h | h
       · unfold wellT at h; simpa [k1] using h
       · omega
     have := quoB_len t.s
     unfold quoL; simp; omega
   by_cases k2 : t.k = 2
   · rw [if_neg k0, if_neg k1, if_pos k2]; split <;> simp [wTrue, wFalse] <;> omega
   by_cases k3 : t.k = 3
   · rw [if_neg k0, if_neg k1, if_neg k2, if_pos k3]; have := errL_len t.e; omega
   by_cases k4 : t.k = 4
   · rw [if_neg k0, if_neg k1, if_neg k2, if_neg k3, if_pos k4]; have := rfL_len t.r; omega
   by_cases k5 : t.k = 5
   · rw [if_neg k0, if_neg k1, if_neg k2, if_neg k3, if_neg k4, if_pos k5]; have := rfL_len t.r; have := rfL_len t.q; simp; omega
   have h := h.resolve_right k5
   unfold wellT at h
   have one : ∀ x ∈ t.l, wellT n x = true → (shT n x).length + 1 ≤ 701 * szT n x := fun x hx hx1 => ih x (w9 x hx) (.inl hx1)
   by_cases k6 : t.k = 6
   · rw [if_neg k0, if_neg k1, if_neg k2, if_neg k3, if_neg k4, if_neg k5, if_pos k6]
     simp only [k6] at h
     simp at h
     obtain ⟨h1, h2⟩ := h
     match hl : t.l, h1 with
     | [x], _ =>
       have := one x (by rw [hl]; simp) (h2 x (by rw [hl]; simp))
       have hb := brkL_len (loose 5 x) (shT n x)
       have e : szT (n + 1) t = 1 + szT n x := by rw [szT, hl]; simp
       rw [e]
       simp [hdT]
       omega
   by_cases k7 : t.k = 7
   · rw [if_neg k0, if_neg k1, if_neg k2, if_neg k3, if_neg k4, if_neg k5, if_neg k6, if_pos k7]
     simp only [k7] at h
     simp at h
     obtain ⟨⟨h0, h1⟩, h2⟩ := h
     match hl : t.l, h1 with
     | [x, y], _ =>
       have a1 := one x (by rw [hl]; simp) (h2 x (by rw [hl]; simp))
       have a2 := one y (by rw [hl]; simp) (h2 y (by rw [hl]; simp))
       have b1 := brkL_len (loose (bnd t.s) x) (shT n x)
       have b2 := brkL_len (loose (bnd t.s + 1) y) (shT n y)
       have e : szT (n + 1) t = 1 + (szT n x + szT n y) := by rw [szT, hl]; simp
       have hs := bnd_len h0
       rw [e]
       simp [hdT, sdT]
       omega
   · rw [if_neg k0, if_neg k1, if_neg k2, if_neg k3, if_neg k4, if_neg k5, if_neg k6, if_neg k7]
     by_cases k8 : t.k = 8
     · simp only [k8] at h
       simp at h
       obtain ⟨⟨⟨h1, _⟩, _⟩, h2⟩ := h
       have hs := kno_len h1
       have hj := joinL_len (t.l.map (shT n))
       have hm : ((t.l.map (shT n)).map (fun l => l.length + 1)).sum ≤ (t.l.map (fun x => 701 * szT n x)).sum := by
         rw [List.map_map]
         refine sum_le fun x hx => ?_
         refine ih x (w9 x hx) ?_
         have := h2 x hx
         by_cases k : x.k = 5
         · exact .inr k
         · exact .inl (by simpa [k] using this)
       rw [sum_mul] at hm
       have e : szT (n + 1) t = 1 + (t.l.map (szT n)).sum := by rw [szT]
       rw [e]
       simp
       omega
     · simp [k0, k1, k2, k3, k4, k6, k7, k8] at h
end Go.Proofs.Ytcggiljlilbdfaa

/-
 FuncsIndex is proved: for every list of values, every uint8 and every two int8 the call returns true and the arguments read as they did. Its condition: the listed tables (the errors, the powers of ten) lie as the program text lays them (the card ties them).
-/
import Derived.Test.YtalejeknigbhjaaGreatDoorX25
import Derived.Test.YtalejeknigbhjaaGreatDoorX23
import Derived.Test.YtalejeknigbhjaaGreatDoorCards
import Derived.Test.YtalejeknigbhjaaGreatDoorTie
import Derived.ChangeMaps5
import Derived.Lib.SmallJoins
namespace Go.Proofs.YtalejeknigbhjaaGreatDoor.funcsIndex
open Go.ChangeShapes Go.WideShapes Go.ChangeAt Go.RowKit
open Go.ChangeMaps (open_string shut_string)
open Go.Joins
set_option maxHeartbeats 1000000

theorem canB_of {x : Int} (h : x ≠ -9223372036854775808) : canB x = true := by unfold canB; simpa using h
theorem ix_of (l : List Rw) (rr cc rw co : Int) (m : Nat) (hi : ∀ r ∈ l, I64 r.n) (hl : l.length = m) (hR : 0 ≤ rr ∧ rr * cc ≤ m ∧ rr ≤ m ∧ m ≤ 1000) (hc1 : 1 ≤ cc) (hc5 : cc ≤ 5) (hr : -128 ≤ rw ∧ rw ≤ 127) (hc : -128 ≤ co ∧ co ≤ 127) :
   AgI (gsOf [⟨⟨true, l⟩, rr, cc⟩, bgR ⟨2, rw * 10000, ⟨#[]⟩, 0⟩, bgR ⟨2, co * 10000, ⟨#[]⟩, 0⟩]) ∧ (seen (gsOf [⟨⟨true, l⟩, rr, cc⟩, bgR ⟨2, rw * 10000, ⟨#[]⟩, 0⟩, bgR ⟨2, co * 10000, ⟨#[]⟩, 0⟩])).length ≤ 1500000 ∧ (∀ a ∈ [(⟨⟨true, l⟩, rr, cc⟩ : Bg), bgR ⟨2, rw * 10000, ⟨#[]⟩, 0⟩, bgR ⟨2, co * 10000, ⟨#[]⟩, 0⟩], I64 a.rows ∧ I64 a.cols) ∧
   Hid ((rw < 1 ∨ co < 1 ∨ rw > rr ∨ co > cc → fnV [73, 78, 68, 69, 88] [⟨⟨true, l⟩, rr, cc⟩, bgR ⟨2, rw * 10000, ⟨#[]⟩, 0⟩, bgR ⟨2, co * 10000, ⟨#[]⟩, 0⟩] = .err 1) ∧ (¬ rw < 1 → ¬ co < 1 → ¬ rw > rr → ¬ co > cc → ∃ j : Nat, ∃ r, (rw - 1) * cc + co - 1 = (j : Int) ∧ j < m ∧ l[j]? = some r ∧ fnV [73, 78, 68, 69, 88] [⟨⟨true, l⟩, rr, cc⟩, bgR ⟨2, rw * 10000, ⟨#[]⟩, 0⟩, bgR ⟨2, co * 10000, ⟨#[]⟩, 0⟩] = r.v)) := by
 have cr : canB (rw * 10000) = true := canB_of (by omega)
 have cq : canB (co * 10000) = true := canB_of (by omega)
 refine ⟨?_, ?_, ?_, ?_⟩
 · intro a ha r hr'
   simp [gsOf, bgR] at ha
   rcases ha with rfl | rfl | rfl
   · exact hi r hr'
   · simp at hr'; subst hr'; exact ⟨by show _ ≤ rw * 10000; omega, by show rw * 10000 ≤ _; omega⟩
   · simp at hr'; subst hr'; exact ⟨by show _ ≤ co * 10000; omega, by show co * 10000 ≤ _; omega⟩
 · show (seen1 ⟨true, l⟩ ++ (seen1 ⟨false, [_]⟩ ++ (seen1 ⟨false, [_]⟩ ++ []))).length ≤ _
   rw [List.length_append]
   have : (seen1 ⟨true, l⟩).length = l.length := by unfold seen1; simp
   rw [this]
   show l.length + 2 ≤ _
   omega
 · intro a ha
   simp at ha
   rcases ha with rfl | rfl | rfl
   · exact ⟨⟨by show _ ≤ rr; omega, by show rr ≤ _; omega⟩, ⟨by show _ ≤ cc; omega, by show cc ≤ _; omega⟩⟩
   · exact ⟨I64.z, I64.z⟩
   · exact ⟨I64.z, I64.z⟩
 · have s1 : whR (sg [⟨⟨true, l⟩, rr, cc⟩, bgR ⟨2, rw * 10000, ⟨#[]⟩, 0⟩, bgR ⟨2, co * 10000, ⟨#[]⟩, 0⟩] 1) = .ok rw := by
     show whR (mkNum (rw * 10000)) = _
     rw [mkNum_is cr]
     show Except.ok (rw * 10000 / 10000) = _
     rw [Int.mul_ediv_cancel _ (by decide)]
   have s2 : whO [⟨⟨true, l⟩, rr, cc⟩, bgR ⟨2, rw * 10000, ⟨#[]⟩, 0⟩, bgR ⟨2, co * 10000, ⟨#[]⟩, 0⟩] 2 = .ok co := by
     show whR (mkNum (co * 10000)) = _
     rw [mkNum_is cq]
     show Except.ok (co * 10000 / 10000) = _
     rw [Int.mul_ediv_cancel _ (by decide)]
   have hx : fnV [73, 78, 68, 69, 88] [⟨⟨true, l⟩, rr, cc⟩, bgR ⟨2, rw * 10000, ⟨#[]⟩, 0⟩, bgR ⟨2, co * 10000, ⟨#[]⟩, 0⟩] = ansV (pkR ⟨⟨true, l⟩, rr, cc⟩ rw co) := by
     rw [fnV_ok rfl]
     show ansV (xIndex _) = _
     unfold xIndex
     rw [s1, s2]
     rfl
   rw [hx]
   have hp : pkR ⟨⟨true, l⟩, rr, cc⟩ rw co = if rw < 1 ∨ rw > rr ∨ co < 1 ∨ co > cc ∨ co > (l.length : Int) then .error 1 else if rw - 1 > ((l.length : Int) - co) / cc then .error 1 else match l[((rw - 1) * cc + co - 1).toNat]? with | some r => .ok r | none => .error 1 := rfl
   rw [hp]
   clear hp hx s1 s2
   refine ⟨fun h => ?_, fun h1 h2 h3 h4 => ?_⟩
   · rw [if_pos (by omega)]; rfl
   · have e1 : (rw - 1) * cc = rw * cc - cc := by rw [Int.sub_mul, Int.one_mul]
     have e2 : rw * cc ≤ rr * cc := Int.mul_le_mul_of_nonneg_right (by omega) (by omega)
     have e3 : 0 ≤ (rw - 1) * cc := Int.mul_nonneg (by omega) (by omega)
     have e4 : rw - 1 ≤ ((l.length : Int) - co) / cc := Int.le_ediv_of_mul_le (by omega) (by omega)
     generalize (rw - 1) * cc = M at *
     generalize rw * cc = N at *
     generalize rr * cc = N2 at *
     rw [if_neg (by omega), if_neg (by omega)]
     obtain ⟨j, hj⟩ : ∃ j : Nat, M + co - 1 = (j : Int) := ⟨(M + co - 1).toNat, by omega⟩
     have hjm : j < l.length := by omega
     refine ⟨j, l[j], hj, by omega, List.getElem?_eq_getElem hjm, ?_⟩
     rw [hj, Int.toNat_natCast, List.getElem?_eq_getElem hjm]
     rfl
theorem trod_two {H : Type} {enc : TypeId × Value → H} {P : Program} {w : World} {base : Nat} {sp : Nat → Bool} {hd : Bool} {t e : TypeId} {fuel : Nat} {c0 c1 : Value} {x : DataW H × List MemPlace} (ht : P.underlying t = some (.array 2 e)) (hce : P.cellsOf e = 1)
   (h : DataW.trod enc P w base sp hd fuel t [c0, c1] = some x) : ∃ y0 y1 n, DataW.trod enc P w base sp hd n e [c0] = some y0 ∧ DataW.trod enc P w base sp hd n e [c1] = some y1 := by
 cases fuel with
 | zero => simp [DataW.trod] at h
 | succ n =>
   unfold DataW.trod at h
   rw [ht] at h
   have r2 : List.range 2 = [0, 1] := rfl
   simp [r2, hce] at h
   obtain ⟨_, h⟩ := h
   cases h0 : DataW.trod enc P w base sp hd n e [c0] with
   | none => simp [h0] at h
   | some y0 =>
     cases h1 : DataW.trod enc P w base sp hd n e [c1] with
     | none => simp [h0, h1] at h
     | some y1 => exact ⟨y0, y1, n, h0, h1⟩
theorem cells_a2 : Tryz.prog.cellsOf 43 = 2 := by kernel_rfl
theorem cells_i8 : Tryz.prog.cellsOf 42 = 1 := by kernel_rfl
theorem arr2 {cs : Array Value} (h : cs.size = 2) : ∃ c0 c1, cs = #[c0, c1] := by
 obtain ⟨l⟩ := cs
 match l, h with
 | [c0, c1], _ => exact ⟨c0, c1, rfl⟩
set_option maxRecDepth 100000 in
theorem open_two {H : Type} {enc : TypeId × Value → H} {W : World} {r : Reach} {b0 base : Nat} {sp : Nat → Bool} {hd : Bool} {v : Value} {d : DataW H} {p : List MemPlace} (hv : Value.okWide Tryz.prog W r b0 43 v) (h : DataW.Trod enc Tryz.prog W base sp hd 43 v d p) :
   ∃ x y : Int, v = .agg #[.int .i8 x, .int .i8 y] ∧ (Lit.int .i8 x).wf = true ∧ (Lit.int .i8 y).wf = true := by
 have hu := Tryz.underlying43
 simp only [Value.okWide, hu] at hv
 obtain ⟨cs, rfl, hsz, _⟩ := hv
 rw [cells_a2] at hsz
 obtain ⟨c0, c1, rfl⟩ := arr2 hsz
 obtain ⟨fuel, hf⟩ := h
 obtain ⟨y0, y1, n, h0, h1⟩ := trod_two hu cells_i8 hf
 obtain ⟨x, e0, _, w0⟩ := DataW.trod_int Tryz.underlying42 h0
 obtain ⟨y, e1, _, w1⟩ := DataW.trod_int Tryz.underlying42 h1
 simp only [List.cons.injEq, and_true] at e0 e1
 subst e0 e1
 exact ⟨x, y, rfl, w0, w1⟩
set_option maxRecDepth 100000 in
theorem walk (l : List Rw) (pp : Option Addr) (m cl : Nat) (a1 rw co : Int) (w : World) (rd : RdV w.heap.size w (.slice pp m cl) l) (vi : ∀ r ∈ l, I64 r.n) (_ : l.length ≤ maxLen) (q1 : (Lit.int .u8 a1).wf = true) (q2 : (Lit.int .i8 rw).wf = true) (q3 : (Lit.int .i8 co).wf = true) (hN : Nm w) (hT : Tab w) :
   Calls Tryz.prog 7 #[.slice pp m cl, .int .u8 a1, .agg #[.int .i8 rw, .int .i8 co]] w fun e w' => e = .returned (.bool true) ∧ Ext w w' := by
 have qE := eq_val
 have qG := gd_val
 have ha : 0 ≤ a1 ∧ a1 ≤ 255 := (by simpa [Lit.wf] using q1 : IntKind.u8.min ≤ a1 ∧ a1 ≤ IntKind.u8.max)
 have hr : -128 ≤ rw ∧ rw ≤ 127 := (by simpa [Lit.wf] using q2 : IntKind.i8.min ≤ rw ∧ rw ≤ IntKind.i8.max)
 have hc : -128 ≤ co ∧ co ≤ 127 := (by simpa [Lit.wf] using q3 : IntKind.i8.min ≤ co ∧ co ≤ IntKind.i8.max)
 have cLv := fun W (e : Ext w W) => lives14_any W (hN.ext e) (hT.ext e)
 have hm := rd.len
 have HR0 : Hid (RdV w.heap.size w (.slice pp m cl) l ∧ (∀ r ∈ l, I64 r.n) ∧ l.length = m) := ⟨rd, vi, hm.symm⟩
 clear rd vi hm q1 q2 q3
 obtain ⟨ha1, ha2⟩ := ha
 have cE : ∀ W, Calls Tryz.prog 18 #[.int .i64 1] W fun r w' => r = .returned (.agg #[.int .i64 4, .int .i64 0, .string ⟨#[]⟩, .int .i64 1]) ∧ Ext W w' := fun W => by
   have := rerr_any 1 W
   rwa [mkErr_is ⟨by decide, by decide⟩] at this
 by_cases hz : m > 1000
 · have hzI : (m : Int) > 1000 := by omega
   go_enter Tryz.func7, Tryz.ntmps7
   go_upto_region 1 with fail
   have HW1 : Hid (Ext w (w.alloc (.cells #[.int .i8 rw, .int .i8 co] 43)) ∧ (w.heap.size < (w.alloc (.cells #[.int .i8 rw, .int .i8 co] 43)).heap.size ∧ (w.alloc (.cells #[.int .i8 rw, .int .i8 co] 43)).cell? ⟨w.heap.size, 0, none⟩ = some (.int .i8 rw) ∧ (w.alloc (.cells #[.int .i8 rw, .int .i8 co] 43)).cell? ⟨w.heap.size, 1, none⟩ = some (.int .i8 co))) := ⟨(Ext.refl _).alloc _, by simp, by simp [go_sem], by simp [go_sem]⟩
   generalize (w.alloc (.cells #[.int .i8 rw, .int .i8 co] 43)) = w1 at *
   have mkS : Hid (∀ V, Ext w1 V → V.cell? ⟨w.heap.size, 0, none⟩ = some (.int .i8 rw) ∧ V.cell? ⟨w.heap.size, 1, none⟩ = some (.int .i8 co)) := fun V e => ⟨(e.cell.1 _ 0 HW1.out.2.1).trans HW1.out.2.2.1, (e.cell.1 _ 1 HW1.out.2.1).trans HW1.out.2.2.2⟩
   refine wp_region_held_drew (S := (fun V => V.cell? ⟨w.heap.size, 0, none⟩ = some (.int .i8 rw) ∧ V.cell? ⟨w.heap.size, 1, none⟩ = some (.int .i8 co))) (by kernel_rfl) ?_ (fun hHeld0 => ?_)
   · (refine mkS.out _ ?_; ((with_reducible (repeat (first | assumption | exact Ext.refl _ | apply Ext.alloc | apply Ext.drew | apply Ext.drewN))); done))
   refine wpAnyH_take (i := 0) (oi := ⟨some 12, .indexAddr 43 (.tmp 5) (.const (.int .i64 0)), 0, "law.go:80", #[], none⟩) (v := ?_) rfl (by kernel_rfl) (by kernel_rfl) (by kernel_rfl) (fun _ _ _ h => h) (Or.inl ⟨by rfl, ?_⟩) (by assumption) ?_
   rotate_left
   · intro w hSw; (try dsimp only at hSw); first | (go_simp; done) | (go_simp; with_reducible rfl)
   try simp only [Act.put, List.setIfInBounds_toArray, List.set_cons_zero, List.set_cons_succ]
   refine wpAnyH_take (i := 1) (oi := ⟨some 13, .load 42 (.tmp 12), 42, "law.go:80", #[⟨0, .data⟩], none⟩) (v := ?_) rfl (by kernel_rfl) (by kernel_rfl) (by kernel_rfl) (fun _ _ _ h => h) (Or.inl ⟨by rfl, ?_⟩) (by assumption) ?_
   rotate_left
   · intro w hSw; (try dsimp only at hSw); first | (go_simp; done) | (go_simp; with_reducible rfl)
   try simp only [Act.put, List.setIfInBounds_toArray, List.set_cons_zero, List.set_cons_succ]
   refine wpAnyH_take (i := 2) (oi := ⟨some 14, .indexAddr 43 (.tmp 5) (.const (.int .i64 1)), 0, "law.go:80", #[{ on := 4, ground := Ground.gcOnly Departure.lateStores }], none⟩) (v := ?_) rfl (by kernel_rfl) (by kernel_rfl) (by kernel_rfl) (fun _ _ _ h => h) (Or.inl ⟨by rfl, ?_⟩) (by assumption) ?_
   rotate_left
   · intro w hSw; (try dsimp only at hSw); first | (go_simp; done) | (go_simp; with_reducible rfl)
   try simp only [Act.put, List.setIfInBounds_toArray, List.set_cons_zero, List.set_cons_succ]
   refine wpAnyH_take (i := 3) (oi := ⟨some 15, .load 42 (.tmp 14), 42, "law.go:80", #[⟨2, .data⟩, { on := 4, ground := Ground.gcOnly Departure.lateStores }], none⟩) (v := ?_) rfl (by kernel_rfl) (by kernel_rfl) (by kernel_rfl) (fun _ _ _ h => h) (Or.inl ⟨by rfl, ?_⟩) (by assumption) ?_
   rotate_left
   · intro w hSw; (try dsimp only at hSw); first | (go_simp; done) | (go_simp; with_reducible rfl)
   try simp only [Act.put, List.setIfInBounds_toArray, List.set_cons_zero, List.set_cons_succ]
   refine wpAnyH_take (i := 4) (oi := ⟨some 7, .assign (.tmp 13), 42, "law.go:80", #[⟨1, .data⟩, ⟨0, .phase⟩, ⟨1, .phase⟩, { on := 2, ground := Ground.textOnly Departure.lateStores }, { on := 3, ground := Ground.textOnly Departure.lateStores }], none⟩) (v := ?_) rfl (by kernel_rfl) (by kernel_rfl) (by kernel_rfl) (fun _ _ _ h => h) (Or.inl ⟨by rfl, ?_⟩) (by assumption) ?_
   rotate_left
   · intro w hSw; (try dsimp only at hSw); first | (go_simp; done) | (go_simp; with_reducible rfl)
   try simp only [Act.put, List.setIfInBounds_toArray, List.set_cons_zero, List.set_cons_succ]
   refine wpAnyH_take (i := 5) (oi := ⟨some 8, .assign (.tmp 15), 42, "law.go:80", #[⟨3, .data⟩, ⟨4, .chain⟩, ⟨0, .phase⟩, ⟨1, .phase⟩, ⟨2, .phase⟩, ⟨3, .phase⟩, ⟨4, .phase⟩], none⟩) (v := ?_) rfl (by kernel_rfl) (by kernel_rfl) (by kernel_rfl) (fun _ _ _ h => h) (Or.inl ⟨by rfl, ?_⟩) (by assumption) ?_
   rotate_left
   · intro w hSw; (try dsimp only at hSw); first | (go_simp; done) | (go_simp; with_reducible rfl)
   try simp only [Act.put, List.setIfInBounds_toArray, List.set_cons_zero, List.set_cons_succ]
   refine wpAnyH_done (by kernel_rfl) ?_ _
   go_wp2_with fail
   refine (cLv _ (HW1.out.1.trans (by with_reducible repeat (first | assumption | exact Ext.refl _ | apply Ext.alloc | apply Ext.drew | apply Ext.drewN)))).mono ?_
   rintro e w9 ⟨rfl, E9⟩
   have H9 : Hid (Ext w w9) := Ext.trans (HW1.out.1.trans (by with_reducible repeat (first | assumption | exact Ext.refl _ | apply Ext.alloc | apply Ext.drew | apply Ext.drewN))) E9
   clear E9
   go_wp2_with fail
   go_ret
   exact ⟨rfl, H9.out⟩
 have hzI : ¬ (m : Int) > 1000 := by omega
 go_enter Tryz.func7, Tryz.ntmps7
 go_upto_region 1 with fail
 have HW1 : Hid (Ext w (w.alloc (.cells #[.int .i8 rw, .int .i8 co] 43)) ∧ (w.heap.size < (w.alloc (.cells #[.int .i8 rw, .int .i8 co] 43)).heap.size ∧ (w.alloc (.cells #[.int .i8 rw, .int .i8 co] 43)).cell? ⟨w.heap.size, 0, none⟩ = some (.int .i8 rw) ∧ (w.alloc (.cells #[.int .i8 rw, .int .i8 co] 43)).cell? ⟨w.heap.size, 1, none⟩ = some (.int .i8 co))) := ⟨(Ext.refl _).alloc _, by simp, by simp [go_sem], by simp [go_sem]⟩
 generalize (w.alloc (.cells #[.int .i8 rw, .int .i8 co] 43)) = w1 at *
 have mkS : Hid (∀ V, Ext w1 V → V.cell? ⟨w.heap.size, 0, none⟩ = some (.int .i8 rw) ∧ V.cell? ⟨w.heap.size, 1, none⟩ = some (.int .i8 co)) := fun V e => ⟨(e.cell.1 _ 0 HW1.out.2.1).trans HW1.out.2.2.1, (e.cell.1 _ 1 HW1.out.2.1).trans HW1.out.2.2.2⟩
 refine wp_region_held_drew (S := (fun V => V.cell? ⟨w.heap.size, 0, none⟩ = some (.int .i8 rw) ∧ V.cell? ⟨w.heap.size, 1, none⟩ = some (.int .i8 co))) (by kernel_rfl) ?_ (fun hHeld0 => ?_)
 · (refine mkS.out _ ?_; ((with_reducible (repeat (first | assumption | exact Ext.refl _ | apply Ext.alloc | apply Ext.drew | apply Ext.drewN))); done))
 refine wpAnyH_take (i := 0) (oi := ⟨some 12, .indexAddr 43 (.tmp 5) (.const (.int .i64 0)), 0, "law.go:80", #[], none⟩) (v := ?_) rfl (by kernel_rfl) (by kernel_rfl) (by kernel_rfl) (fun _ _ _ h => h) (Or.inl ⟨by rfl, ?_⟩) (by assumption) ?_
 rotate_left
 · intro w hSw; (try dsimp only at hSw); first | (go_simp; done) | (go_simp; with_reducible rfl)
 try simp only [Act.put, List.setIfInBounds_toArray, List.set_cons_zero, List.set_cons_succ]
 refine wpAnyH_take (i := 1) (oi := ⟨some 13, .load 42 (.tmp 12), 42, "law.go:80", #[⟨0, .data⟩], none⟩) (v := ?_) rfl (by kernel_rfl) (by kernel_rfl) (by kernel_rfl) (fun _ _ _ h => h) (Or.inl ⟨by rfl, ?_⟩) (by assumption) ?_
 rotate_left
 · intro w hSw; (try dsimp only at hSw); first | (go_simp; done) | (go_simp; with_reducible rfl)
 try simp only [Act.put, List.setIfInBounds_toArray, List.set_cons_zero, List.set_cons_succ]
 refine wpAnyH_take (i := 2) (oi := ⟨some 14, .indexAddr 43 (.tmp 5) (.const (.int .i64 1)), 0, "law.go:80", #[{ on := 4, ground := Ground.gcOnly Departure.lateStores }], none⟩) (v := ?_) rfl (by kernel_rfl) (by kernel_rfl) (by kernel_rfl) (fun _ _ _ h => h) (Or.inl ⟨by rfl, ?_⟩) (by assumption) ?_
 rotate_left
 · intro w hSw; (try dsimp only at hSw); first | (go_simp; done) | (go_simp; with_reducible rfl)
 try simp only [Act.put, List.setIfInBounds_toArray, List.set_cons_zero, List.set_cons_succ]
 refine wpAnyH_take (i := 3) (oi := ⟨some 15, .load 42 (.tmp 14), 42, "law.go:80", #[⟨2, .data⟩, { on := 4, ground := Ground.gcOnly Departure.lateStores }], none⟩) (v := ?_) rfl (by kernel_rfl) (by kernel_rfl) (by kernel_rfl) (fun _ _ _ h => h) (Or.inl ⟨by rfl, ?_⟩) (by assumption) ?_
 rotate_left
 · intro w hSw; (try dsimp only at hSw); first | (go_simp; done) | (go_simp; with_reducible rfl)
 try simp only [Act.put, List.setIfInBounds_toArray, List.set_cons_zero, List.set_cons_succ]
 refine wpAnyH_take (i := 4) (oi := ⟨some 7, .assign (.tmp 13), 42, "law.go:80", #[⟨1, .data⟩, ⟨0, .phase⟩, ⟨1, .phase⟩, { on := 2, ground := Ground.textOnly Departure.lateStores }, { on := 3, ground := Ground.textOnly Departure.lateStores }], none⟩) (v := ?_) rfl (by kernel_rfl) (by kernel_rfl) (by kernel_rfl) (fun _ _ _ h => h) (Or.inl ⟨by rfl, ?_⟩) (by assumption) ?_
 rotate_left
 · intro w hSw; (try dsimp only at hSw); first | (go_simp; done) | (go_simp; with_reducible rfl)
 try simp only [Act.put, List.setIfInBounds_toArray, List.set_cons_zero, List.set_cons_succ]
 refine wpAnyH_take (i := 5) (oi := ⟨some 8, .assign (.tmp 15), 42, "law.go:80", #[⟨3, .data⟩, ⟨4, .chain⟩, ⟨0, .phase⟩, ⟨1, .phase⟩, ⟨2, .phase⟩, ⟨3, .phase⟩, ⟨4, .phase⟩], none⟩) (v := ?_) rfl (by kernel_rfl) (by kernel_rfl) (by kernel_rfl) (fun _ _ _ h => h) (Or.inl ⟨by rfl, ?_⟩) (by assumption) ?_
 rotate_left
 · intro w hSw; (try dsimp only at hSw); first | (go_simp; done) | (go_simp; with_reducible rfl)
 try simp only [Act.put, List.setIfInBounds_toArray, List.set_cons_zero, List.set_cons_succ]
 refine wpAnyH_done (by kernel_rfl) ?_ _
 go_upto_region 5 with fail
 obtain ⟨cc, hcc⟩ : ∃ cc, 1 + a1 % 5 = cc := ⟨_, rfl⟩
 rw [hcc]
 have hc1 : 1 ≤ cc := by omega
 have hc5 : cc ≤ 5 := by omega
 have hrr0 : 0 ≤ (m : Int) / cc := Int.ediv_nonneg (by omega) (by omega)
 have hrrm : (m : Int) / cc * cc ≤ m := Int.ediv_mul_le _ (by omega)
 have hrr1 : (m : Int) / cc ≤ m := Int.ediv_le_self cc (by omega)
 obtain ⟨rr, hrr⟩ : ∃ rr, (m : Int) / cc = rr := ⟨_, rfl⟩
 have ht : (m : Int).tdiv cc = rr := by rw [Int.tdiv_eq_ediv_of_nonneg (by omega)]; exact hrr
 rw [hrr] at hrr0 hrrm hrr1
 have HRR : Hid (0 ≤ rr ∧ rr * cc ≤ m ∧ rr ≤ m ∧ m ≤ 1000) := ⟨hrr0, hrrm, hrr1, by omega⟩
 have e5 : ¬ cc = 0 := by omega
 have kr : IntKind.i64.wrap rr = rr := by rw [IntKind.wrap_i64]; have := HRR.out; omega
 have HI := ix_of l rr cc rw co m HR0.out.2.1 HR0.out.2.2 HRR.out hc1 hc5 hr hc
 have cI : Hid (∀ V g, Ext w V → RdB V.heap.size V (.slice (some ⟨g, 0, none⟩) 3 3) [⟨⟨true, l⟩, rr, cc⟩, bgR ⟨2, rw * 10000, ⟨#[]⟩, 0⟩, bgR ⟨2, co * 10000, ⟨#[]⟩, 0⟩] → Calls Tryz.prog 10 #[.string ⟨#[73, 78, 68, 69, 88]⟩, .slice (some ⟨g, 0, none⟩) 3 3] V fun e w' => e = .returned (.agg #[.int .i64 (fnV [73, 78, 68, 69, 88] [⟨⟨true, l⟩, rr, cc⟩, bgR ⟨2, rw * 10000, ⟨#[]⟩, 0⟩, bgR ⟨2, co * 10000, ⟨#[]⟩, 0⟩]).k, .int .i64 (fnV [73, 78, 68, 69, 88] [⟨⟨true, l⟩, rr, cc⟩, bgR ⟨2, rw * 10000, ⟨#[]⟩, 0⟩, bgR ⟨2, co * 10000, ⟨#[]⟩, 0⟩]).n, .string (fnV [73, 78, 68, 69, 88] [⟨⟨true, l⟩, rr, cc⟩, bgR ⟨2, rw * 10000, ⟨#[]⟩, 0⟩, bgR ⟨2, co * 10000, ⟨#[]⟩, 0⟩]).s, .int .i64 (fnV [73, 78, 68, 69, 88] [⟨⟨true, l⟩, rr, cc⟩, bgR ⟨2, rw * 10000, ⟨#[]⟩, 0⟩, bgR ⟨2, co * 10000, ⟨#[]⟩, 0⟩]).e]) ∧ Ext V w') := fun V g E h => by
   have k := xcall_any ⟨#[73, 78, 68, 69, 88]⟩ _ _ 3 3 V ⟨⟨h, HI.1, HI.2.1, by simp, HI.2.2.1⟩, hN.ext E, hT.ext E⟩
   rw [dat_eq] at k
   exact k
 have HV := HI.2.2.2
 clear HI
 generalize fnV [73, 78, 68, 69, 88] [⟨⟨true, l⟩, rr, cc⟩, bgR ⟨2, rw * 10000, ⟨#[]⟩, 0⟩, bgR ⟨2, co * 10000, ⟨#[]⟩, 0⟩] = v at *
 have HW2 : Hid (Ext w w1.drew) := HW1.out.1.drew
 generalize w1.drew = w2 at *
 have HRW : Hid (∀ V, Ext w2 V → RowC V (.slice pp m cl) m 4 (l.flatMap cV)) := fun V e => by
   have h := ((HR0.out.1.low (HW2.out.trans e))).row
   rwa [HR0.out.2.2] at h
 clear mkS HW1 hrr hcc hrr0 hrrm hrr1
 refine bar_begin (B := fun _ => false) (S := fun _ => True) (by kernel_rfl) ?_
 obtain ⟨y0, hy0⟩ : ∃ y0, World.drew w2 = y0 := ⟨_, rfl⟩
 have X : Hid (Ext w2 y0) := by show Ext _ _; rw [← hy0]; exact (Ext.refl _).drew
 rw [hy0]
 clear hy0
 have hS0 : True := trivial
 refine bar_takeL (i := 0) (v := ?vp0) rfl (by kernel_rfl) (by kernel_rfl) (by kernel_rfl) (by kernel_rfl) (fun _ _ _ h => h) (Or.inl ⟨by rfl, ?hyp0⟩) hS0 ?restp0
 case hyp0 => (intro W hSW; (try dsimp only at hSW); go_simp; with_reducible rfl)
 simp only [Act.put, List.setIfInBounds_toArray, List.set_cons_zero, List.set_cons_succ]
 refine bar_takeL (i := 1) (v := ?vp1) rfl (by kernel_rfl) (by kernel_rfl) (by kernel_rfl) (by kernel_rfl) (fun _ _ _ h => h) (Or.inl ⟨by rfl, ?hyp1⟩) hS0 ?restp1
 case hyp1 => (intro W hSW; (try dsimp only at hSW); go_simp; with_reducible rfl)
 simp only [Act.put, List.setIfInBounds_toArray, List.set_cons_zero, List.set_cons_succ]
 refine bar_takeL (i := 2) (v := ?vp2) rfl (by kernel_rfl) (by kernel_rfl) (by kernel_rfl) (by kernel_rfl) (fun _ _ _ h => h) (Or.inl ⟨by rfl, ?hyp2⟩) hS0 ?restp2
 case hyp2 => (intro W hSW; (try dsimp only at hSW); go_simp; with_reducible rfl)
 simp only [Act.put, List.setIfInBounds_toArray, List.set_cons_zero, List.set_cons_succ]
 refine bar_takeL (i := 3) (v := ?vp3) rfl (by kernel_rfl) (by kernel_rfl) (by kernel_rfl) (by kernel_rfl) (fun _ _ _ h => h) (Or.inl ⟨by rfl, ?hyp3⟩) hS0 ?restp3
 case hyp3 => (intro W hSW; (try dsimp only at hSW); go_simp; with_reducible rfl)
 simp only [Act.put, List.setIfInBounds_toArray, List.set_cons_zero, List.set_cons_succ]
 refine bar_takeL (i := 4) (v := ?vp4) rfl (by kernel_rfl) (by kernel_rfl) (by kernel_rfl) (by kernel_rfl) (fun _ _ _ h => h) (Or.inl ⟨by rfl, ?hyp4⟩) hS0 ?restp4
 case hyp4 => (intro W hSW; (try dsimp only at hSW); go_simp; with_reducible rfl)
 simp only [Act.put, List.setIfInBounds_toArray, List.set_cons_zero, List.set_cons_succ]
 refine bar_takeL (i := 6) (v := ?vp6) rfl (by kernel_rfl) (by kernel_rfl) (by kernel_rfl) (by kernel_rfl) (fun _ _ _ h => h) (Or.inl ⟨by rfl, ?hyp6⟩) hS0 ?restp6
 case hyp6 => (intro W hSW; (try dsimp only at hSW); go_simp; with_reducible rfl)
 simp only [Act.put, List.setIfInBounds_toArray, List.set_cons_zero, List.set_cons_succ]
 clear hS0
 refine bar_cast #[true, true, true, true, true, false, true, false, false, false, false] rfl ?_
 refine ia_0 (fun _ _ => trivial) ⟨HR0.out.2.2, HRR.out.2.2.2⟩ HRW ?hdone y0 X
 case hdone =>
   intro g0 p2 c2 ga y3 X3 GA NA FZ
   have H3 : Hid ((Ext w y3 ∧ Blk y3 ga (.bool true) (.int .i64 rr) (.int .i64 cc) (.slice p2 m c2)) ∧ RdV y3.heap.size y3 (.slice p2 m c2) l) := ⟨⟨HW2.out.trans X3.out, GA.out⟩, FZ.out⟩
   clear X3 GA NA FZ X y0 HRW HW2 ht e5 kr
   go_upto_region 6 with fail
   have mkS : Hid (∀ V, Ext y3 V → V.cell? ⟨ga, 0, none⟩ = some (.bool true) ∧ V.cell? ⟨ga, 1, none⟩ = some (.int .i64 rr) ∧ V.cell? ⟨ga, 2, none⟩ = some (.int .i64 cc) ∧ V.cell? ⟨ga, 3, none⟩ = some (.slice p2 m c2)) := fun V e => (H3.out.1.2.ext e).2.1
   have HR : Hid (∀ V, Ext y3 V → RdV V.heap.size V (.slice p2 m c2) l) := fun V e => rd_to H3.out.2 e
   replace cI := fun V g (e : Ext y3 V) => cI.out V g (H3.out.1.1.trans e)
   have cR : Hid (∀ V, Calls Tryz.prog 17 #[.int .i64 (rw * 10000)] V fun e w' => e = .returned (.agg #[.int .i64 2, .int .i64 (rw * 10000), .string ⟨#[]⟩, .int .i64 0]) ∧ Ext V w') := fun V => by
     have := rnum_any (rw * 10000) V
     rwa [mkNum_is (canB_of (by omega))] at this
   have cC : Hid (∀ V, Calls Tryz.prog 17 #[.int .i64 (co * 10000)] V fun e w' => e = .returned (.agg #[.int .i64 2, .int .i64 (co * 10000), .string ⟨#[]⟩, .int .i64 0]) ∧ Ext V w') := fun V => by
     have := rnum_any (co * 10000) V
     rwa [mkNum_is (canB_of (by omega))] at this
   have k3 : IntKind.i64.wrap rw = rw := by rw [IntKind.wrap_i64]; omega
   have k4 : IntKind.i64.wrap co = co := by rw [IntKind.wrap_i64]; omega
   have k1 : IntKind.i64.wrap (rw * 10000) = rw * 10000 := by rw [IntKind.wrap_i64]; omega
   have k2 : IntKind.i64.wrap (co * 10000) = co * 10000 := by rw [IntKind.wrap_i64]; omega
   refine bar_begin (B := fun _ => false) (S := fun V => V.cell? ⟨ga, 0, none⟩ = some (.bool true) ∧ V.cell? ⟨ga, 1, none⟩ = some (.int .i64 rr) ∧ V.cell? ⟨ga, 2, none⟩ = some (.int .i64 cc) ∧ V.cell? ⟨ga, 3, none⟩ = some (.slice p2 m c2)) (by kernel_rfl) ?_
   obtain ⟨y0, hy0⟩ : ∃ y0, World.drew y3 = y0 := ⟨_, rfl⟩
   have X : Hid (Ext y3 y0) := by show Ext _ _; rw [← hy0]; exact (Ext.refl _).drew
   rw [hy0]
   clear hy0
   have hS0 := mkS.out y0 X.out
   refine bar_takeL (i := 0) (v := ?vq0) rfl (by kernel_rfl) (by kernel_rfl) (by kernel_rfl) (by kernel_rfl) (fun _ _ _ h => h) (Or.inl ⟨by rfl, ?hyq0⟩) hS0 ?restq0
   case hyq0 => (intro W hSW; (try dsimp only at hSW); go_simp; with_reducible rfl)
   simp only [Act.put, List.setIfInBounds_toArray, List.set_cons_zero, List.set_cons_succ]
   refine bar_takeL (i := 1) (v := ?vq1) rfl (by kernel_rfl) (by kernel_rfl) (by kernel_rfl) (by kernel_rfl) (fun _ _ _ h => h) (Or.inl ⟨by rfl, ?hyq1⟩) hS0 ?restq1
   case hyq1 => (intro W hSW; (try dsimp only at hSW); go_simp; with_reducible rfl)
   simp only [Act.put, List.setIfInBounds_toArray, List.set_cons_zero, List.set_cons_succ]
   refine bar_takeL (i := 2) (v := ?vq2) rfl (by kernel_rfl) (by kernel_rfl) (by kernel_rfl) (by kernel_rfl) (fun _ _ _ h => h) (Or.inl ⟨by rfl, ?hyq2⟩) hS0 ?restq2
   case hyq2 => (intro W hSW; (try dsimp only at hSW); go_simp; with_reducible rfl)
   simp only [Act.put, List.setIfInBounds_toArray, List.set_cons_zero, List.set_cons_succ]
   refine bar_takeL (i := 3) (v := ?vq3) rfl (by kernel_rfl) (by kernel_rfl) (by kernel_rfl) (by kernel_rfl) (fun _ _ _ h => h) (Or.inl ⟨by rfl, ?hyq3⟩) hS0 ?restq3
   case hyq3 => (intro W hSW; (try dsimp only at hSW); go_simp; with_reducible rfl)
   simp only [Act.put, List.setIfInBounds_toArray, List.set_cons_zero, List.set_cons_succ]
   refine bar_takeL (i := 6) (v := ?vq6) rfl (by kernel_rfl) (by kernel_rfl) (by kernel_rfl) (by kernel_rfl) (fun _ _ _ h => h) (Or.inl ⟨by rfl, ?hyq6⟩) hS0 ?restq6
   case hyq6 => (intro W hSW; (try dsimp only at hSW); go_simp; with_reducible rfl)
   simp only [Act.put, List.setIfInBounds_toArray, List.set_cons_zero, List.set_cons_succ]
   refine bar_takeL (i := 7) (v := ?vq7) rfl (by kernel_rfl) (by kernel_rfl) (by kernel_rfl) (by kernel_rfl) (fun _ _ _ h => h) (Or.inl ⟨by rfl, ?hyq7⟩) hS0 ?restq7
   case hyq7 => (intro W hSW; (try dsimp only at hSW); go_simp; with_reducible rfl)
   simp only [Act.put, List.setIfInBounds_toArray, List.set_cons_zero, List.set_cons_succ]
   refine bar_takeL (i := 8) (v := ?vq8) rfl (by kernel_rfl) (by kernel_rfl) (by kernel_rfl) (by kernel_rfl) (fun _ _ _ h => h) (Or.inl ⟨by rfl, ?hyq8⟩) hS0 ?restq8
   case hyq8 => (intro W hSW; (try dsimp only at hSW); go_simp; with_reducible rfl)
   simp only [Act.put, List.setIfInBounds_toArray, List.set_cons_zero, List.set_cons_succ]
   clear hS0
   refine bar_cast #[true, true, true, true, false, false, true, true, true, false, false, false, false, false, false] rfl ?_
   refine ib_0 mkS cR cC HR cI ?hdone y0 X
   case hdone =>
     intro g1 g2 gs gv y5 X5 GV NV
     have H5 : Hid ((Ext w y5 ∧ Blk y5 ga (.bool true) (.int .i64 rr) (.int .i64 cc) (.slice p2 m c2)) ∧ Blk y5 gv (.int .i64 v.k) (.int .i64 v.n) (.string v.s) (.int .i64 v.e)) := ⟨⟨H3.out.1.1.trans X5.out, H3.out.1.2.ext X5.out⟩, GV.out⟩
     clear X5 GV NV X y0 mkS HR cI cR cC k1 k2 H3
     obtain ⟨r1, r2⟩ := hr
     obtain ⟨s1, s2⟩ := hc
     obtain ⟨zg, ⟨ag0, ag1, ag2, ag3⟩, _⟩ := H5.out.1.2
     by_cases t1 : rw < 1
     · have hv := HV.out.1 (.inl t1)
       subst hv
       clear HV
       go_upto_region 8 with fail
       clear ag0 ag1 ag2 ag3 zg
       have mkS : Hid (∀ V, Ext y5 V → V.cell? ⟨gv, 0, none⟩ = some (.int .i64 4) ∧ V.cell? ⟨gv, 1, none⟩ = some (.int .i64 0) ∧ V.cell? ⟨gv, 2, none⟩ = some (.string ⟨#[]⟩) ∧ V.cell? ⟨gv, 3, none⟩ = some (.int .i64 1)) := fun V e => (H5.out.2.ext e).2.1
       refine wp_region_held_drew (S := (fun V => V.cell? ⟨gv, 0, none⟩ = some (.int .i64 4) ∧ V.cell? ⟨gv, 1, none⟩ = some (.int .i64 0) ∧ V.cell? ⟨gv, 2, none⟩ = some (.string ⟨#[]⟩) ∧ V.cell? ⟨gv, 3, none⟩ = some (.int .i64 1))) (by kernel_rfl) ?_ (fun hHeld0 => ?_)
       · (refine mkS.out _ ?_; ((with_reducible (repeat (first | assumption | exact Ext.refl _ | apply Ext.alloc | apply Ext.drew | apply Ext.drewN))); done))
       refine wpAnyH_take (i := 0) (oi := ⟨some 65, .load 25 (.tmp 11), 25, "law.go:88", #[], none⟩) (v := ?_) rfl (by kernel_rfl) (by kernel_rfl) (by kernel_rfl) (fun _ _ _ h => h) (Or.inl ⟨by rfl, ?_⟩) (by assumption) ?_
       rotate_left
       · intro w hSw; (try dsimp only at hSw); first | (go_simp; done) | (go_simp; with_reducible rfl)
       try simp only [Act.put, List.setIfInBounds_toArray, List.set_cons_zero, List.set_cons_succ]
       refine wpAnyH_ready (rs := [1]) (by kernel_rfl) (by simp) ?_
       refine AllReadyH.cons (o := ⟨some 66, .call { callee := .value (.func 18), args := #[.const (.int .i64 1)], argTypes := #[3] }, 25, "law.go:88", #[], none⟩) rfl (fun K hK => ?_) AllReadyH.nil
       go_simp
       (go_at_call 18; refine Calls.mono (cE _) ?_; rintro e y1 ⟨rfl, E1⟩; have X1 : Ext y5 y1 := Ext.trans (by with_reducible repeat (first | assumption | exact Ext.refl _ | apply Ext.alloc | apply Ext.drew | apply Ext.drewN)) E1)
       try go_wp2_with fail
       refine hK.out _ _ ?_ (fun hHeld1 => ?_)
       · (try dsimp only); (refine mkS.out _ ?_; ((with_reducible (repeat (first | assumption | exact Ext.refl _ | apply Ext.alloc | apply Ext.drew | apply Ext.drewN))); done))
       clear hK K hHeld0
       try simp only [Act.put, List.setIfInBounds_toArray, List.set_cons_zero, List.set_cons_succ]
       refine wpAnyH_take (i := 2) (oi := ⟨some 67, .binOp .eql 25 (.tmp 65) (.tmp 66) 25, 4, "law.go:88", #[⟨0, .data⟩, ⟨1, .data⟩], none⟩) (v := ?_) rfl (by kernel_rfl) (by kernel_rfl) (by kernel_rfl) (fun _ _ _ h => h) (Or.inl ⟨by rfl, ?_⟩) (by assumption) ?_
       rotate_left
       · intro w hSw; (try dsimp only at hSw); first | (go_simp; done) | (go_simp; with_reducible rfl)
       try simp only [Act.put, List.setIfInBounds_toArray, List.set_cons_zero, List.set_cons_succ]
       refine wpAnyH_take (i := 3) (oi := ⟨some 68, .move (.tmp 67), 4, "law.go:88", #[⟨2, .data⟩, ⟨1, .chain⟩], none⟩) (v := ?_) rfl (by kernel_rfl) (by kernel_rfl) (by kernel_rfl) (fun _ _ _ h => h) (Or.inl ⟨by rfl, ?_⟩) (by assumption) ?_
       rotate_left
       · intro w hSw; (try dsimp only at hSw); first | (go_simp; done) | (go_simp; with_reducible rfl)
       try simp only [Act.put, List.setIfInBounds_toArray, List.set_cons_zero, List.set_cons_succ]
       refine wpAnyH_ready (rs := [4]) (by kernel_rfl) (by simp) ?_
       refine AllReadyH.cons (o := ⟨some 69, .call { callee := .value (.func 9), args := #[], argTypes := #[] }, 4, "law.go:88", #[⟨3, .chain⟩, ⟨3, .guard⟩], some (3, true)⟩) rfl (fun K hK => ?_) AllReadyH.nil
       go_simp
       (go_at_call 9; refine Calls.mono (cLv _ (H5.out.1.1.trans (by with_reducible repeat (first | assumption | exact Ext.refl _ | apply Ext.alloc | apply Ext.drew | apply Ext.drewN)))) ?_; rintro e y2 ⟨rfl, E2⟩; have X2 : Ext y5 y2 := Ext.trans (by with_reducible repeat (first | assumption | exact Ext.refl _ | apply Ext.alloc | apply Ext.drew | apply Ext.drewN)) E2)
       try go_wp2_with fail
       refine hK.out _ _ ?_ (fun hHeld2 => ?_)
       · (try dsimp only); (refine mkS.out _ ?_; ((with_reducible (repeat (first | assumption | exact Ext.refl _ | apply Ext.alloc | apply Ext.drew | apply Ext.drewN))); done))
       clear hK K hHeld1
       try simp only [Act.put, List.setIfInBounds_toArray, List.set_cons_zero, List.set_cons_succ]
       refine wpAnyH_take (i := 5) (oi := ⟨some 70, .pick (.tmp 68) (.tmp 69) (.const (.bool false)), 4, "law.go:88", #[⟨3, .data⟩, ⟨4, .data⟩], none⟩) (v := ?_) rfl (by kernel_rfl) (by kernel_rfl) (by kernel_rfl) (fun _ _ _ h => h) (Or.inl ⟨by rfl, ?_⟩) (by assumption) ?_
       rotate_left
       · intro w hSw; (try dsimp only at hSw); first | (go_simp; done) | (go_simp; with_reducible rfl)
       try simp only [Act.put, List.setIfInBounds_toArray, List.set_cons_zero, List.set_cons_succ]
       refine wpAnyH_take (i := 6) (oi := ⟨some 6, .assign (.tmp 70), 4, "law.go:88", #[⟨5, .data⟩, ⟨4, .chain⟩, ⟨0, .phase⟩, ⟨1, .phase⟩, ⟨2, .phase⟩, ⟨3, .phase⟩, ⟨4, .phase⟩, ⟨5, .phase⟩], none⟩) (v := ?_) rfl (by kernel_rfl) (by kernel_rfl) (by kernel_rfl) (fun _ _ _ h => h) (Or.inl ⟨by rfl, ?_⟩) (by assumption) ?_
       rotate_left
       · intro w hSw; (try dsimp only at hSw); first | (go_simp; done) | (go_simp; with_reducible rfl)
       try simp only [Act.put, List.setIfInBounds_toArray, List.set_cons_zero, List.set_cons_succ]
       refine wpAnyH_done (by kernel_rfl) ?_ _
       go_wp2_with fail
       go_ret
       exact ⟨rfl, H5.out.1.1.trans (by with_reducible repeat (first | assumption | exact Ext.refl _ | apply Ext.alloc | apply Ext.drew | apply Ext.drewN))⟩
     by_cases t2 : co < 1
     · have hv := HV.out.1 (.inr (.inl t2))
       subst hv
       clear HV
       go_upto_region 8 with fail
       clear ag0 ag1 ag2 ag3 zg
       have mkS : Hid (∀ V, Ext y5 V → V.cell? ⟨gv, 0, none⟩ = some (.int .i64 4) ∧ V.cell? ⟨gv, 1, none⟩ = some (.int .i64 0) ∧ V.cell? ⟨gv, 2, none⟩ = some (.string ⟨#[]⟩) ∧ V.cell? ⟨gv, 3, none⟩ = some (.int .i64 1)) := fun V e => (H5.out.2.ext e).2.1
       refine wp_region_held_drew (S := (fun V => V.cell? ⟨gv, 0, none⟩ = some (.int .i64 4) ∧ V.cell? ⟨gv, 1, none⟩ = some (.int .i64 0) ∧ V.cell? ⟨gv, 2, none⟩ = some (.string ⟨#[]⟩) ∧ V.cell? ⟨gv, 3, none⟩ = some (.int .i64 1))) (by kernel_rfl) ?_ (fun hHeld0 => ?_)
       · (refine mkS.out _ ?_; ((with_reducible (repeat (first | assumption | exact Ext.refl _ | apply Ext.alloc | apply Ext.drew | apply Ext.drewN))); done))
       refine wpAnyH_take (i := 0) (oi := ⟨some 65, .load 25 (.tmp 11), 25, "law.go:88", #[], none⟩) (v := ?_) rfl (by kernel_rfl) (by kernel_rfl) (by kernel_rfl) (fun _ _ _ h => h) (Or.inl ⟨by rfl, ?_⟩) (by assumption) ?_
       rotate_left
       · intro w hSw; (try dsimp only at hSw); first | (go_simp; done) | (go_simp; with_reducible rfl)
       try simp only [Act.put, List.setIfInBounds_toArray, List.set_cons_zero, List.set_cons_succ]
       refine wpAnyH_ready (rs := [1]) (by kernel_rfl) (by simp) ?_
       refine AllReadyH.cons (o := ⟨some 66, .call { callee := .value (.func 18), args := #[.const (.int .i64 1)], argTypes := #[3] }, 25, "law.go:88", #[], none⟩) rfl (fun K hK => ?_) AllReadyH.nil
       go_simp
       (go_at_call 18; refine Calls.mono (cE _) ?_; rintro e y1 ⟨rfl, E1⟩; have X1 : Ext y5 y1 := Ext.trans (by with_reducible repeat (first | assumption | exact Ext.refl _ | apply Ext.alloc | apply Ext.drew | apply Ext.drewN)) E1)
       try go_wp2_with fail
       refine hK.out _ _ ?_ (fun hHeld1 => ?_)
       · (try dsimp only); (refine mkS.out _ ?_; ((with_reducible (repeat (first | assumption | exact Ext.refl _ | apply Ext.alloc | apply Ext.drew | apply Ext.drewN))); done))
       clear hK K hHeld0
       try simp only [Act.put, List.setIfInBounds_toArray, List.set_cons_zero, List.set_cons_succ]
       refine wpAnyH_take (i := 2) (oi := ⟨some 67, .binOp .eql 25 (.tmp 65) (.tmp 66) 25, 4, "law.go:88", #[⟨0, .data⟩, ⟨1, .data⟩], none⟩) (v := ?_) rfl (by kernel_rfl) (by kernel_rfl) (by kernel_rfl) (fun _ _ _ h => h) (Or.inl ⟨by rfl, ?_⟩) (by assumption) ?_
       rotate_left
       · intro w hSw; (try dsimp only at hSw); first | (go_simp; done) | (go_simp; with_reducible rfl)
       try simp only [Act.put, List.setIfInBounds_toArray, List.set_cons_zero, List.set_cons_succ]
       refine wpAnyH_take (i := 3) (oi := ⟨some 68, .move (.tmp 67), 4, "law.go:88", #[⟨2, .data⟩, ⟨1, .chain⟩], none⟩) (v := ?_) rfl (by kernel_rfl) (by kernel_rfl) (by kernel_rfl) (fun _ _ _ h => h) (Or.inl ⟨by rfl, ?_⟩) (by assumption) ?_
       rotate_left
       · intro w hSw; (try dsimp only at hSw); first | (go_simp; done) | (go_simp; with_reducible rfl)
       try simp only [Act.put, List.setIfInBounds_toArray, List.set_cons_zero, List.set_cons_succ]
       refine wpAnyH_ready (rs := [4]) (by kernel_rfl) (by simp) ?_
       refine AllReadyH.cons (o := ⟨some 69, .call { callee := .value (.func 9), args := #[], argTypes := #[] }, 4, "law.go:88", #[⟨3, .chain⟩, ⟨3, .guard⟩], some (3, true)⟩) rfl (fun K hK => ?_) AllReadyH.nil
       go_simp
       (go_at_call 9; refine Calls.mono (cLv _ (H5.out.1.1.trans (by with_reducible repeat (first | assumption | exact Ext.refl _ | apply Ext.alloc | apply Ext.drew | apply Ext.drewN)))) ?_; rintro e y2 ⟨rfl, E2⟩; have X2 : Ext y5 y2 := Ext.trans (by with_reducible repeat (first | assumption | exact Ext.refl _ | apply Ext.alloc | apply Ext.drew | apply Ext.drewN)) E2)
       try go_wp2_with fail
       refine hK.out _ _ ?_ (fun hHeld2 => ?_)
       · (try dsimp only); (refine mkS.out _ ?_; ((with_reducible (repeat (first | assumption | exact Ext.refl _ | apply Ext.alloc | apply Ext.drew | apply Ext.drewN))); done))
       clear hK K hHeld1
       try simp only [Act.put, List.setIfInBounds_toArray, List.set_cons_zero, List.set_cons_succ]
       refine wpAnyH_take (i := 5) (oi := ⟨some 70, .pick (.tmp 68) (.tmp 69) (.const (.bool false)), 4, "law.go:88", #[⟨3, .data⟩, ⟨4, .data⟩], none⟩) (v := ?_) rfl (by kernel_rfl) (by kernel_rfl) (by kernel_rfl) (fun _ _ _ h => h) (Or.inl ⟨by rfl, ?_⟩) (by assumption) ?_
       rotate_left
       · intro w hSw; (try dsimp only at hSw); first | (go_simp; done) | (go_simp; with_reducible rfl)
       try simp only [Act.put, List.setIfInBounds_toArray, List.set_cons_zero, List.set_cons_succ]
       refine wpAnyH_take (i := 6) (oi := ⟨some 6, .assign (.tmp 70), 4, "law.go:88", #[⟨5, .data⟩, ⟨4, .chain⟩, ⟨0, .phase⟩, ⟨1, .phase⟩, ⟨2, .phase⟩, ⟨3, .phase⟩, ⟨4, .phase⟩, ⟨5, .phase⟩], none⟩) (v := ?_) rfl (by kernel_rfl) (by kernel_rfl) (by kernel_rfl) (fun _ _ _ h => h) (Or.inl ⟨by rfl, ?_⟩) (by assumption) ?_
       rotate_left
       · intro w hSw; (try dsimp only at hSw); first | (go_simp; done) | (go_simp; with_reducible rfl)
       try simp only [Act.put, List.setIfInBounds_toArray, List.set_cons_zero, List.set_cons_succ]
       refine wpAnyH_done (by kernel_rfl) ?_ _
       go_wp2_with fail
       go_ret
       exact ⟨rfl, H5.out.1.1.trans (by with_reducible repeat (first | assumption | exact Ext.refl _ | apply Ext.alloc | apply Ext.drew | apply Ext.drewN))⟩
     by_cases t3 : rw > rr
     · have hv := HV.out.1 (.inr (.inr (.inl t3)))
       subst hv
       clear HV
       go_upto_region 8 with fail
       clear ag0 ag1 ag2 ag3 zg
       have mkS : Hid (∀ V, Ext y5 V → V.cell? ⟨gv, 0, none⟩ = some (.int .i64 4) ∧ V.cell? ⟨gv, 1, none⟩ = some (.int .i64 0) ∧ V.cell? ⟨gv, 2, none⟩ = some (.string ⟨#[]⟩) ∧ V.cell? ⟨gv, 3, none⟩ = some (.int .i64 1)) := fun V e => (H5.out.2.ext e).2.1
       refine wp_region_held_drew (S := (fun V => V.cell? ⟨gv, 0, none⟩ = some (.int .i64 4) ∧ V.cell? ⟨gv, 1, none⟩ = some (.int .i64 0) ∧ V.cell? ⟨gv, 2, none⟩ = some (.string ⟨#[]⟩) ∧ V.cell? ⟨gv, 3, none⟩ = some (.int .i64 1))) (by kernel_rfl) ?_ (fun hHeld0 => ?_)
       · (refine mkS.out _ ?_; ((with_reducible (repeat (first | assumption | exact Ext.refl _ | apply Ext.alloc | apply Ext.drew | apply Ext.drewN))); done))
       refine wpAnyH_take (i := 0) (oi := ⟨some 65, .load 25 (.tmp 11), 25, "law.go:88", #[], none⟩) (v := ?_) rfl (by kernel_rfl) (by kernel_rfl) (by kernel_rfl) (fun _ _ _ h => h) (Or.inl ⟨by rfl, ?_⟩) (by assumption) ?_
       rotate_left
       · intro w hSw; (try dsimp only at hSw); first | (go_simp; done) | (go_simp; with_reducible rfl)
       try simp only [Act.put, List.setIfInBounds_toArray, List.set_cons_zero, List.set_cons_succ]
       refine wpAnyH_ready (rs := [1]) (by kernel_rfl) (by simp) ?_
       refine AllReadyH.cons (o := ⟨some 66, .call { callee := .value (.func 18), args := #[.const (.int .i64 1)], argTypes := #[3] }, 25, "law.go:88", #[], none⟩) rfl (fun K hK => ?_) AllReadyH.nil
       go_simp
       (go_at_call 18; refine Calls.mono (cE _) ?_; rintro e y1 ⟨rfl, E1⟩; have X1 : Ext y5 y1 := Ext.trans (by with_reducible repeat (first | assumption | exact Ext.refl _ | apply Ext.alloc | apply Ext.drew | apply Ext.drewN)) E1)
       try go_wp2_with fail
       refine hK.out _ _ ?_ (fun hHeld1 => ?_)
       · (try dsimp only); (refine mkS.out _ ?_; ((with_reducible (repeat (first | assumption | exact Ext.refl _ | apply Ext.alloc | apply Ext.drew | apply Ext.drewN))); done))
       clear hK K hHeld0
       try simp only [Act.put, List.setIfInBounds_toArray, List.set_cons_zero, List.set_cons_succ]
       refine wpAnyH_take (i := 2) (oi := ⟨some 67, .binOp .eql 25 (.tmp 65) (.tmp 66) 25, 4, "law.go:88", #[⟨0, .data⟩, ⟨1, .data⟩], none⟩) (v := ?_) rfl (by kernel_rfl) (by kernel_rfl) (by kernel_rfl) (fun _ _ _ h => h) (Or.inl ⟨by rfl, ?_⟩) (by assumption) ?_
       rotate_left
       · intro w hSw; (try dsimp only at hSw); first | (go_simp; done) | (go_simp; with_reducible rfl)
       try simp only [Act.put, List.setIfInBounds_toArray, List.set_cons_zero, List.set_cons_succ]
       refine wpAnyH_take (i := 3) (oi := ⟨some 68, .move (.tmp 67), 4, "law.go:88", #[⟨2, .data⟩, ⟨1, .chain⟩], none⟩) (v := ?_) rfl (by kernel_rfl) (by kernel_rfl) (by kernel_rfl) (fun _ _ _ h => h) (Or.inl ⟨by rfl, ?_⟩) (by assumption) ?_
       rotate_left
       · intro w hSw; (try dsimp only at hSw); first | (go_simp; done) | (go_simp; with_reducible rfl)
       try simp only [Act.put, List.setIfInBounds_toArray, List.set_cons_zero, List.set_cons_succ]
       refine wpAnyH_ready (rs := [4]) (by kernel_rfl) (by simp) ?_
       refine AllReadyH.cons (o := ⟨some 69, .call { callee := .value (.func 9), args := #[], argTypes := #[] }, 4, "law.go:88", #[⟨3, .chain⟩, ⟨3, .guard⟩], some (3, true)⟩) rfl (fun K hK => ?_) AllReadyH.nil
       go_simp
       (go_at_call 9; refine Calls.mono (cLv _ (H5.out.1.1.trans (by with_reducible repeat (first | assumption | exact Ext.refl _ | apply Ext.alloc | apply Ext.drew | apply Ext.drewN)))) ?_; rintro e y2 ⟨rfl, E2⟩; have X2 : Ext y5 y2 := Ext.trans (by with_reducible repeat (first | assumption | exact Ext.refl _ | apply Ext.alloc | apply Ext.drew | apply Ext.drewN)) E2)
       try go_wp2_with fail
       refine hK.out _ _ ?_ (fun hHeld2 => ?_)
       · (try dsimp only); (refine mkS.out _ ?_; ((with_reducible (repeat (first | assumption | exact Ext.refl _ | apply Ext.alloc | apply Ext.drew | apply Ext.drewN))); done))
       clear hK K hHeld1
       try simp only [Act.put, List.setIfInBounds_toArray, List.set_cons_zero, List.set_cons_succ]
       refine wpAnyH_take (i := 5) (oi := ⟨some 70, .pick (.tmp 68) (.tmp 69) (.const (.bool false)), 4, "law.go:88", #[⟨3, .data⟩, ⟨4, .data⟩], none⟩) (v := ?_) rfl (by kernel_rfl) (by kernel_rfl) (by kernel_rfl) (fun _ _ _ h => h) (Or.inl ⟨by rfl, ?_⟩) (by assumption) ?_
       rotate_left
       · intro w hSw; (try dsimp only at hSw); first | (go_simp; done) | (go_simp; with_reducible rfl)
       try simp only [Act.put, List.setIfInBounds_toArray, List.set_cons_zero, List.set_cons_succ]
       refine wpAnyH_take (i := 6) (oi := ⟨some 6, .assign (.tmp 70), 4, "law.go:88", #[⟨5, .data⟩, ⟨4, .chain⟩, ⟨0, .phase⟩, ⟨1, .phase⟩, ⟨2, .phase⟩, ⟨3, .phase⟩, ⟨4, .phase⟩, ⟨5, .phase⟩], none⟩) (v := ?_) rfl (by kernel_rfl) (by kernel_rfl) (by kernel_rfl) (fun _ _ _ h => h) (Or.inl ⟨by rfl, ?_⟩) (by assumption) ?_
       rotate_left
       · intro w hSw; (try dsimp only at hSw); first | (go_simp; done) | (go_simp; with_reducible rfl)
       try simp only [Act.put, List.setIfInBounds_toArray, List.set_cons_zero, List.set_cons_succ]
       refine wpAnyH_done (by kernel_rfl) ?_ _
       go_wp2_with fail
       go_ret
       exact ⟨rfl, H5.out.1.1.trans (by with_reducible repeat (first | assumption | exact Ext.refl _ | apply Ext.alloc | apply Ext.drew | apply Ext.drewN))⟩
     by_cases t4 : co > cc
     · have hv := HV.out.1 (.inr (.inr (.inr t4)))
       subst hv
       clear HV
       go_upto_region 8 with fail
       clear ag0 ag1 ag2 ag3 zg
       have mkS : Hid (∀ V, Ext y5 V → V.cell? ⟨gv, 0, none⟩ = some (.int .i64 4) ∧ V.cell? ⟨gv, 1, none⟩ = some (.int .i64 0) ∧ V.cell? ⟨gv, 2, none⟩ = some (.string ⟨#[]⟩) ∧ V.cell? ⟨gv, 3, none⟩ = some (.int .i64 1)) := fun V e => (H5.out.2.ext e).2.1
       refine wp_region_held_drew (S := (fun V => V.cell? ⟨gv, 0, none⟩ = some (.int .i64 4) ∧ V.cell? ⟨gv, 1, none⟩ = some (.int .i64 0) ∧ V.cell? ⟨gv, 2, none⟩ = some (.string ⟨#[]⟩) ∧ V.cell? ⟨gv, 3, none⟩ = some (.int .i64 1))) (by kernel_rfl) ?_ (fun hHeld0 => ?_)
       · (refine mkS.out _ ?_; ((with_reducible (repeat (first | assumption | exact Ext.refl _ | apply Ext.alloc | apply Ext.drew | apply Ext.drewN))); done))
       refine wpAnyH_take (i := 0) (oi := ⟨some 65, .load 25 (.tmp 11), 25, "law.go:88", #[], none⟩) (v := ?_) rfl (by kernel_rfl) (by kernel_rfl) (by kernel_rfl) (fun _ _ _ h => h) (Or.inl ⟨by rfl, ?_⟩) (by assumption) ?_
       rotate_left
       · intro w hSw; (try dsimp only at hSw); first | (go_simp; done) | (go_simp; with_reducible rfl)
       try simp only [Act.put, List.setIfInBounds_toArray, List.set_cons_zero, List.set_cons_succ]
       refine wpAnyH_ready (rs := [1]) (by kernel_rfl) (by simp) ?_
       refine AllReadyH.cons (o := ⟨some 66, .call { callee := .value (.func 18), args := #[.const (.int .i64 1)], argTypes := #[3] }, 25, "law.go:88", #[], none⟩) rfl (fun K hK => ?_) AllReadyH.nil
       go_simp
       (go_at_call 18; refine Calls.mono (cE _) ?_; rintro e y1 ⟨rfl, E1⟩; have X1 : Ext y5 y1 := Ext.trans (by with_reducible repeat (first | assumption | exact Ext.refl _ | apply Ext.alloc | apply Ext.drew | apply Ext.drewN)) E1)
       try go_wp2_with fail
       refine hK.out _ _ ?_ (fun hHeld1 => ?_)
       · (try dsimp only); (refine mkS.out _ ?_; ((with_reducible (repeat (first | assumption | exact Ext.refl _ | apply Ext.alloc | apply Ext.drew | apply Ext.drewN))); done))
       clear hK K hHeld0
       try simp only [Act.put, List.setIfInBounds_toArray, List.set_cons_zero, List.set_cons_succ]
       refine wpAnyH_take (i := 2) (oi := ⟨some 67, .binOp .eql 25 (.tmp 65) (.tmp 66) 25, 4, "law.go:88", #[⟨0, .data⟩, ⟨1, .data⟩], none⟩) (v := ?_) rfl (by kernel_rfl) (by kernel_rfl) (by kernel_rfl) (fun _ _ _ h => h) (Or.inl ⟨by rfl, ?_⟩) (by assumption) ?_
       rotate_left
       · intro w hSw; (try dsimp only at hSw); first | (go_simp; done) | (go_simp; with_reducible rfl)
       try simp only [Act.put, List.setIfInBounds_toArray, List.set_cons_zero, List.set_cons_succ]
       refine wpAnyH_take (i := 3) (oi := ⟨some 68, .move (.tmp 67), 4, "law.go:88", #[⟨2, .data⟩, ⟨1, .chain⟩], none⟩) (v := ?_) rfl (by kernel_rfl) (by kernel_rfl) (by kernel_rfl) (fun _ _ _ h => h) (Or.inl ⟨by rfl, ?_⟩) (by assumption) ?_
       rotate_left
       · intro w hSw; (try dsimp only at hSw); first | (go_simp; done) | (go_simp; with_reducible rfl)
       try simp only [Act.put, List.setIfInBounds_toArray, List.set_cons_zero, List.set_cons_succ]
       refine wpAnyH_ready (rs := [4]) (by kernel_rfl) (by simp) ?_
       refine AllReadyH.cons (o := ⟨some 69, .call { callee := .value (.func 9), args := #[], argTypes := #[] }, 4, "law.go:88", #[⟨3, .chain⟩, ⟨3, .guard⟩], some (3, true)⟩) rfl (fun K hK => ?_) AllReadyH.nil
       go_simp
       (go_at_call 9; refine Calls.mono (cLv _ (H5.out.1.1.trans (by with_reducible repeat (first | assumption | exact Ext.refl _ | apply Ext.alloc | apply Ext.drew | apply Ext.drewN)))) ?_; rintro e y2 ⟨rfl, E2⟩; have X2 : Ext y5 y2 := Ext.trans (by with_reducible repeat (first | assumption | exact Ext.refl _ | apply Ext.alloc | apply Ext.drew | apply Ext.drewN)) E2)
       try go_wp2_with fail
       refine hK.out _ _ ?_ (fun hHeld2 => ?_)
       · (try dsimp only); (refine mkS.out _ ?_; ((with_reducible (repeat (first | assumption | exact Ext.refl _ | apply Ext.alloc | apply Ext.drew | apply Ext.drewN))); done))
       clear hK K hHeld1
       try simp only [Act.put, List.setIfInBounds_toArray, List.set_cons_zero, List.set_cons_succ]
       refine wpAnyH_take (i := 5) (oi := ⟨some 70, .pick (.tmp 68) (.tmp 69) (.const (.bool false)), 4, "law.go:88", #[⟨3, .data⟩, ⟨4, .data⟩], none⟩) (v := ?_) rfl (by kernel_rfl) (by kernel_rfl) (by kernel_rfl) (fun _ _ _ h => h) (Or.inl ⟨by rfl, ?_⟩) (by assumption) ?_
       rotate_left
       · intro w hSw; (try dsimp only at hSw); first | (go_simp; done) | (go_simp; with_reducible rfl)
       try simp only [Act.put, List.setIfInBounds_toArray, List.set_cons_zero, List.set_cons_succ]
       refine wpAnyH_take (i := 6) (oi := ⟨some 6, .assign (.tmp 70), 4, "law.go:88", #[⟨5, .data⟩, ⟨4, .chain⟩, ⟨0, .phase⟩, ⟨1, .phase⟩, ⟨2, .phase⟩, ⟨3, .phase⟩, ⟨4, .phase⟩, ⟨5, .phase⟩], none⟩) (v := ?_) rfl (by kernel_rfl) (by kernel_rfl) (by kernel_rfl) (fun _ _ _ h => h) (Or.inl ⟨by rfl, ?_⟩) (by assumption) ?_
       rotate_left
       · intro w hSw; (try dsimp only at hSw); first | (go_simp; done) | (go_simp; with_reducible rfl)
       try simp only [Act.put, List.setIfInBounds_toArray, List.set_cons_zero, List.set_cons_succ]
       refine wpAnyH_done (by kernel_rfl) ?_ _
       go_wp2_with fail
       go_ret
       exact ⟨rfl, H5.out.1.1.trans (by with_reducible repeat (first | assumption | exact Ext.refl _ | apply Ext.alloc | apply Ext.drew | apply Ext.drewN))⟩
     obtain ⟨j, r, hj, hjm, hlj, hv⟩ := HV.out.2 t1 t2 t3 t4
     have cM : ∀ V, Calls Tryz.prog 14 #[.agg #[.int .i64 r.k, .int .i64 r.n, .string r.s, .int .i64 r.e]] V fun e w' => e = .returned (.agg #[.int .i64 v.k, .int .i64 v.n, .string v.s, .int .i64 v.e]) ∧ Ext V w' := fun V => by
       have := rnormal_any r.k r.n r.s r.e V
       rw [show nm r.k r.n r.s r.e = v from hv.symm, dat_eq] at this
       exact this
     obtain ⟨M, hM⟩ : ∃ M, (rw - 1) * cc = M := ⟨_, rfl⟩
     rw [hM] at hj
     have mI : (m : Int) ≤ 1000 := by have := HRR.out; omega
     have hjI : (j : Int) < (m : Int) := by omega
     have m1 : M ≤ 1000 := by omega
     have m0 : 0 ≤ M := by rw [← hM]; exact Int.mul_nonneg (by omega) (by omega)
     have k5 : IntKind.i64.wrap (rw - 1) = rw - 1 := by rw [IntKind.wrap_i64]; omega
     have k6 : IntKind.i64.wrap M = M := by rw [IntKind.wrap_i64]; omega
     have k7 : IntKind.i64.wrap (M + co) = M + co := by rw [IntKind.wrap_i64]; omega
     have k8 : IntKind.i64.wrap (M + co - 1) = (j : Int) := by rw [hj, IntKind.wrap_i64]; omega
     obtain ⟨b, off, r', hpp, hr', hb, hbW, e0, e1, e2, e3⟩ := HR0.out.1.at (i := j) (by rw [HR0.out.2.2]; exact hjm)
     rw [hlj] at hr'
     cases hr'
     subst hpp
     have HL : Hid (∀ V, Ext w V → V.cell? ⟨b, off + j * 4, none⟩ = some (.int .i64 r.k) ∧ V.cell? ⟨b, off + j * 4 + 1, none⟩ = some (.int .i64 r.n) ∧ V.cell? ⟨b, off + j * 4 + 2, none⟩ = some (.string r.s) ∧ V.cell? ⟨b, off + j * 4 + 3, none⟩ = some (.int .i64 r.e)) := fun V e => ⟨(e.cell.1 _ _ hb).trans e0, (e.cell.1 _ _ hb).trans e1, (e.cell.1 _ _ hb).trans e2, (e.cell.1 _ _ hb).trans e3⟩
     clear HV hv hlj hjm hj e0 e1 e2 e3 hb hbW HR0 HRR m1 m0
     go_upto_region 9 with fail
     clear ag0 ag1 ag2 ag3 zg
     have mkS : Hid (∀ V, Ext y5 V → (V.cell? ⟨gv, 0, none⟩ = some (.int .i64 v.k) ∧ V.cell? ⟨gv, 1, none⟩ = some (.int .i64 v.n) ∧ V.cell? ⟨gv, 2, none⟩ = some (.string v.s) ∧ V.cell? ⟨gv, 3, none⟩ = some (.int .i64 v.e)) ∧ V.cell? ⟨b, off + j * 4, none⟩ = some (.int .i64 r.k) ∧ V.cell? ⟨b, off + j * 4 + 1, none⟩ = some (.int .i64 r.n) ∧ V.cell? ⟨b, off + j * 4 + 2, none⟩ = some (.string r.s) ∧ V.cell? ⟨b, off + j * 4 + 3, none⟩ = some (.int .i64 r.e)) := fun V e => ⟨(H5.out.2.ext e).2.1, HL.out V (H5.out.1.1.trans e)⟩
     refine wp_region_held_drew (S := (fun V => (V.cell? ⟨gv, 0, none⟩ = some (.int .i64 v.k) ∧ V.cell? ⟨gv, 1, none⟩ = some (.int .i64 v.n) ∧ V.cell? ⟨gv, 2, none⟩ = some (.string v.s) ∧ V.cell? ⟨gv, 3, none⟩ = some (.int .i64 v.e)) ∧ V.cell? ⟨b, off + j * 4, none⟩ = some (.int .i64 r.k) ∧ V.cell? ⟨b, off + j * 4 + 1, none⟩ = some (.int .i64 r.n) ∧ V.cell? ⟨b, off + j * 4 + 2, none⟩ = some (.string r.s) ∧ V.cell? ⟨b, off + j * 4 + 3, none⟩ = some (.int .i64 r.e))) (by kernel_rfl) ?_ (fun hHeld0 => ?_)
     · (refine mkS.out _ ?_; ((with_reducible (repeat (first | assumption | exact Ext.refl _ | apply Ext.alloc | apply Ext.drew | apply Ext.drewN))); done))
     refine wpAnyH_take (i := 0) (oi := ⟨some 71, .load 25 (.tmp 11), 25, "law.go:90", #[], none⟩) (v := ?_) rfl (by kernel_rfl) (by kernel_rfl) (by kernel_rfl) (fun _ _ _ h => h) (Or.inl ⟨by rfl, ?_⟩) (by assumption) ?_
     rotate_left
     · intro w hSw; (try dsimp only at hSw); first | (go_simp; done) | (go_simp; with_reducible rfl)
     try simp only [Act.put, List.setIfInBounds_toArray, List.set_cons_zero, List.set_cons_succ]
     refine wpAnyH_take (i := 1) (oi := ⟨some 72, .move (.tmp 0), 29, "law.go:90", #[], none⟩) (v := ?_) rfl (by kernel_rfl) (by kernel_rfl) (by kernel_rfl) (fun _ _ _ h => h) (Or.inl ⟨by rfl, ?_⟩) (by assumption) ?_
     rotate_left
     · intro w hSw; (try dsimp only at hSw); first | (go_simp; done) | (go_simp; with_reducible rfl)
     try simp only [Act.put, List.setIfInBounds_toArray, List.set_cons_zero, List.set_cons_succ]
     refine wpAnyH_take (i := 2) (oi := ⟨some 73, .move (.tmp 7), 42, "law.go:90", #[], none⟩) (v := ?_) rfl (by kernel_rfl) (by kernel_rfl) (by kernel_rfl) (fun _ _ _ h => h) (Or.inl ⟨by rfl, ?_⟩) (by assumption) ?_
     rotate_left
     · intro w hSw; (try dsimp only at hSw); first | (go_simp; done) | (go_simp; with_reducible rfl)
     try simp only [Act.put, List.setIfInBounds_toArray, List.set_cons_zero, List.set_cons_succ]
     refine wpAnyH_take (i := 3) (oi := ⟨some 74, .convert 42 3 (.tmp 73), 3, "law.go:90", #[⟨2, .data⟩], none⟩) (v := ?_) rfl (by kernel_rfl) (by kernel_rfl) (by kernel_rfl) (fun _ _ _ h => h) (Or.inl ⟨by rfl, ?_⟩) (by assumption) ?_
     rotate_left
     · intro w hSw; (try dsimp only at hSw); first | (go_simp; done) | (go_simp; with_reducible rfl)
     try simp only [Act.put, List.setIfInBounds_toArray, List.set_cons_zero, List.set_cons_succ]
     refine wpAnyH_take (i := 4) (oi := ⟨some 75, .binOp .sub 3 (.tmp 74) (.const (.int .i64 1)) 3, 3, "law.go:90", #[⟨3, .data⟩], none⟩) (v := ?_) rfl (by kernel_rfl) (by kernel_rfl) (by kernel_rfl) (fun _ _ _ h => h) (Or.inl ⟨by rfl, ?_⟩) (by assumption) ?_
     rotate_left
     · intro w hSw; (try dsimp only at hSw); first | (go_simp; done) | (go_simp; with_reducible rfl)
     try simp only [Act.put, List.setIfInBounds_toArray, List.set_cons_zero, List.set_cons_succ]
     refine wpAnyH_take (i := 5) (oi := ⟨some 76, .move (.tmp 9), 3, "law.go:90", #[], none⟩) (v := ?_) rfl (by kernel_rfl) (by kernel_rfl) (by kernel_rfl) (fun _ _ _ h => h) (Or.inl ⟨by rfl, ?_⟩) (by assumption) ?_
     rotate_left
     · intro w hSw; (try dsimp only at hSw); first | (go_simp; done) | (go_simp; with_reducible rfl)
     try simp only [Act.put, List.setIfInBounds_toArray, List.set_cons_zero, List.set_cons_succ]
     refine wpAnyH_take (i := 6) (oi := ⟨some 77, .binOp .mul 3 (.tmp 75) (.tmp 76) 3, 3, "law.go:90", #[⟨4, .data⟩, ⟨5, .data⟩], none⟩) (v := ?_) rfl (by kernel_rfl) (by kernel_rfl) (by kernel_rfl) (fun _ _ _ h => h) (Or.inl ⟨by rfl, ?_⟩) (by assumption) ?_
     rotate_left
     · intro w hSw; (try dsimp only at hSw); first | (go_simp; done) | (go_simp; with_reducible rfl)
     try simp only [Act.put, List.setIfInBounds_toArray, List.set_cons_zero, List.set_cons_succ]
     refine wpAnyH_take (i := 7) (oi := ⟨some 78, .move (.tmp 8), 42, "law.go:90", #[], none⟩) (v := ?_) rfl (by kernel_rfl) (by kernel_rfl) (by kernel_rfl) (fun _ _ _ h => h) (Or.inl ⟨by rfl, ?_⟩) (by assumption) ?_
     rotate_left
     · intro w hSw; (try dsimp only at hSw); first | (go_simp; done) | (go_simp; with_reducible rfl)
     try simp only [Act.put, List.setIfInBounds_toArray, List.set_cons_zero, List.set_cons_succ]
     refine wpAnyH_take (i := 8) (oi := ⟨some 79, .convert 42 3 (.tmp 78), 3, "law.go:90", #[⟨7, .data⟩], none⟩) (v := ?_) rfl (by kernel_rfl) (by kernel_rfl) (by kernel_rfl) (fun _ _ _ h => h) (Or.inl ⟨by rfl, ?_⟩) (by assumption) ?_
     rotate_left
     · intro w hSw; (try dsimp only at hSw); first | (go_simp; done) | (go_simp; with_reducible rfl)
     try simp only [Act.put, List.setIfInBounds_toArray, List.set_cons_zero, List.set_cons_succ]
     refine wpAnyH_take (i := 9) (oi := ⟨some 80, .binOp .add 3 (.tmp 77) (.tmp 79) 3, 3, "law.go:90", #[⟨6, .data⟩, ⟨8, .data⟩], none⟩) (v := ?_) rfl (by kernel_rfl) (by kernel_rfl) (by kernel_rfl) (fun _ _ _ h => h) (Or.inl ⟨by rfl, ?_⟩) (by assumption) ?_
     rotate_left
     · intro w hSw; (try dsimp only at hSw); first | (go_simp; done) | (go_simp; with_reducible rfl)
     try simp only [Act.put, List.setIfInBounds_toArray, List.set_cons_zero, List.set_cons_succ]
     refine wpAnyH_take (i := 10) (oi := ⟨some 81, .binOp .sub 3 (.tmp 80) (.const (.int .i64 1)) 3, 3, "law.go:90", #[⟨9, .data⟩], none⟩) (v := ?_) rfl (by kernel_rfl) (by kernel_rfl) (by kernel_rfl) (fun _ _ _ h => h) (Or.inl ⟨by rfl, ?_⟩) (by assumption) ?_
     rotate_left
     · intro w hSw; (try dsimp only at hSw); first | (go_simp; done) | (go_simp; with_reducible rfl)
     try simp only [Act.put, List.setIfInBounds_toArray, List.set_cons_zero, List.set_cons_succ]
     refine wpAnyH_take (i := 11) (oi := ⟨some 82, .indexAddr 29 (.tmp 72) (.tmp 81), 0, "law.go:90", #[⟨1, .data⟩, ⟨10, .data⟩], none⟩) (v := ?_) rfl (by kernel_rfl) (by kernel_rfl) (by kernel_rfl) (fun _ _ _ h => h) (Or.inl ⟨by rfl, ?_⟩) (by assumption) ?_
     rotate_left
     · intro w hSw; (try dsimp only at hSw); first | (go_simp; done) | (go_simp; with_reducible rfl)
     try simp only [Act.put, List.setIfInBounds_toArray, List.set_cons_zero, List.set_cons_succ]
     refine wpAnyH_take (i := 12) (oi := ⟨some 83, .load 25 (.tmp 82), 25, "law.go:90", #[⟨11, .data⟩], none⟩) (v := ?_) rfl (by kernel_rfl) (by kernel_rfl) (by kernel_rfl) (fun _ _ _ h => h) (Or.inl ⟨by rfl, ?_⟩) (by assumption) ?_
     rotate_left
     · intro w hSw; (try dsimp only at hSw); first | (go_simp; done) | (go_simp; with_reducible rfl)
     try simp only [Act.put, List.setIfInBounds_toArray, List.set_cons_zero, List.set_cons_succ]
     refine wpAnyH_ready (rs := [13]) (by kernel_rfl) (by simp) ?_
     refine AllReadyH.cons (o := ⟨some 84, .call { callee := .value (.func 14), args := #[.tmp 83], argTypes := #[25] }, 25, "law.go:90", #[⟨12, .data⟩], none⟩) rfl (fun K hK => ?_) AllReadyH.nil
     go_simp
     (go_at_call 14; refine Calls.mono (cM _) ?_; rintro e y1 ⟨rfl, E1⟩; have X1 : Ext y5 y1 := Ext.trans (by with_reducible repeat (first | assumption | exact Ext.refl _ | apply Ext.alloc | apply Ext.drew | apply Ext.drewN)) E1)
     try go_wp2_with fail
     refine hK.out _ _ ?_ (fun hHeld1 => ?_)
     · (try dsimp only); (refine mkS.out _ ?_; ((with_reducible (repeat (first | assumption | exact Ext.refl _ | apply Ext.alloc | apply Ext.drew | apply Ext.drewN))); done))
     clear hK K hHeld0
     try simp only [Act.put, List.setIfInBounds_toArray, List.set_cons_zero, List.set_cons_succ]
     refine wpAnyH_take (i := 14) (oi := ⟨some 85, .binOp .eql 25 (.tmp 71) (.tmp 84) 25, 4, "law.go:90", #[⟨0, .data⟩, ⟨13, .data⟩], none⟩) (v := ?_) rfl (by kernel_rfl) (by kernel_rfl) (by kernel_rfl) (fun _ _ _ h => h) (Or.inl ⟨by rfl, ?_⟩) (by assumption) ?_
     rotate_left
     · intro w hSw; (try dsimp only at hSw); first | (go_simp; done) | (go_simp; with_reducible rfl)
     try simp only [Act.put, List.setIfInBounds_toArray, List.set_cons_zero, List.set_cons_succ]
     refine wpAnyH_take (i := 15) (oi := ⟨some 86, .move (.tmp 85), 4, "law.go:90", #[⟨14, .data⟩, ⟨13, .chain⟩], none⟩) (v := ?_) rfl (by kernel_rfl) (by kernel_rfl) (by kernel_rfl) (fun _ _ _ h => h) (Or.inl ⟨by rfl, ?_⟩) (by assumption) ?_
     rotate_left
     · intro w hSw; (try dsimp only at hSw); first | (go_simp; done) | (go_simp; with_reducible rfl)
     try simp only [Act.put, List.setIfInBounds_toArray, List.set_cons_zero, List.set_cons_succ]
     refine wpAnyH_ready (rs := [16]) (by kernel_rfl) (by simp) ?_
     refine AllReadyH.cons (o := ⟨some 87, .call { callee := .value (.func 9), args := #[], argTypes := #[] }, 4, "law.go:90", #[⟨15, .chain⟩, ⟨15, .guard⟩], some (15, true)⟩) rfl (fun K hK => ?_) AllReadyH.nil
     go_simp
     (go_at_call 9; refine Calls.mono (cLv _ (H5.out.1.1.trans (by with_reducible repeat (first | assumption | exact Ext.refl _ | apply Ext.alloc | apply Ext.drew | apply Ext.drewN)))) ?_; rintro e y2 ⟨rfl, E2⟩; have X2 : Ext y5 y2 := Ext.trans (by with_reducible repeat (first | assumption | exact Ext.refl _ | apply Ext.alloc | apply Ext.drew | apply Ext.drewN)) E2)
     try go_wp2_with fail
     refine hK.out _ _ ?_ (fun hHeld2 => ?_)
     · (try dsimp only); (refine mkS.out _ ?_; ((with_reducible (repeat (first | assumption | exact Ext.refl _ | apply Ext.alloc | apply Ext.drew | apply Ext.drewN))); done))
     clear hK K hHeld1
     try simp only [Act.put, List.setIfInBounds_toArray, List.set_cons_zero, List.set_cons_succ]
     refine wpAnyH_take (i := 17) (oi := ⟨some 88, .pick (.tmp 86) (.tmp 87) (.const (.bool false)), 4, "law.go:90", #[⟨15, .data⟩, ⟨16, .data⟩], none⟩) (v := ?_) rfl (by kernel_rfl) (by kernel_rfl) (by kernel_rfl) (fun _ _ _ h => h) (Or.inl ⟨by rfl, ?_⟩) (by assumption) ?_
     rotate_left
     · intro w hSw; (try dsimp only at hSw); first | (go_simp; done) | (go_simp; with_reducible rfl)
     try simp only [Act.put, List.setIfInBounds_toArray, List.set_cons_zero, List.set_cons_succ]
     refine wpAnyH_take (i := 18) (oi := ⟨some 6, .assign (.tmp 88), 4, "law.go:90", #[⟨17, .data⟩, ⟨16, .chain⟩, ⟨0, .phase⟩, ⟨1, .phase⟩, ⟨2, .phase⟩, ⟨3, .phase⟩, ⟨4, .phase⟩, ⟨5, .phase⟩, ⟨6, .phase⟩, ⟨7, .phase⟩, ⟨8, .phase⟩, ⟨9, .phase⟩, ⟨10, .phase⟩, ⟨11, .phase⟩, ⟨12, .phase⟩, ⟨13, .phase⟩, ⟨14, .phase⟩, ⟨15, .phase⟩, ⟨16, .phase⟩, ⟨17, .phase⟩], none⟩) (v := ?_) rfl (by kernel_rfl) (by kernel_rfl) (by kernel_rfl) (fun _ _ _ h => h) (Or.inl ⟨by rfl, ?_⟩) (by assumption) ?_
     rotate_left
     · intro w hSw; (try dsimp only at hSw); first | (go_simp; done) | (go_simp; with_reducible rfl)
     try simp only [Act.put, List.setIfInBounds_toArray, List.set_cons_zero, List.set_cons_succ]
     refine wpAnyH_done (by kernel_rfl) ?_ _
     go_wp2_with fail
     go_ret
     exact ⟨rfl, H5.out.1.1.trans (by with_reducible repeat (first | assumption | exact Ext.refl _ | apply Ext.alloc | apply Ext.drew | apply Ext.drewN))⟩

theorem laidOut : laidOutB Tryz.prog = true := by kernel_rfl
set_option maxRecDepth 100000 in
theorem contract (H : Type) (enc : TypeId × Value → H) (W : World) (base : Nat) (args : Array Value) (ds gs : List (DataW H)) (before : List MemPlace)
   (hval0 : ∀ (j : Nat) t v, Tryz.f7.params[j]? = some t → args[j]? = some v → Value.okWide Tryz.prog W .any base t v)
   (hW : DataW.Whole enc Tryz.prog Tryz.f7.params.toList Rows.funcsIndexSpec.vars false W args.toList ds gs before) (hL : laidMetH Tryz.prog Rows.funcsIndexRow.laid W) :
   Calls Tryz.prog 7 args W fun e W' => ∃ v, e = .returned v ∧ Rows.funcsIndexSpec.post enc Tryz.prog Tryz.f7 false true false false W args v W' := by
 have hval := hval0
 have hW' := hW
 obtain ⟨p, q, hA0, hV, rfl, hfz, hnd⟩ := hW'
 have hA : DataW.TrodAll enc Tryz.prog W 0 (fun _ => true) true Tryz.f7.params.toList args.toList ds p := hA0
 rw [Tryz.params7] at hA hval
 obtain ⟨v0, vs0, d0, ds0, p0, q0, hargs, rfl, rfl, h0, r0⟩ := trodAll_cons hA
 obtain ⟨v1, vs1, d1, ds1, p1, q1, rfl, rfl, rfl, h1, r1⟩ := trodAll_cons r0
 obtain ⟨v2, vs2, d2, ds2, p2, q2, rfl, rfl, rfl, h2, r2⟩ := trodAll_cons r1
 obtain ⟨rfl, rfl, rfl⟩ := trodAll_nil r2
 obtain rfl : args = #[v0, v1, v2] := by cases args; simp_all
 obtain ⟨rfl, rfl⟩ := trodVars_none hV
 have j0 := h0
 have lt0 : ∀ x ∈ p0, x.block < W.heap.size := by obtain ⟨m, hm⟩ := j0; exact DataW.trod_lt m _ _ _ hm
 obtain ⟨pp0, ln0, cl0, rfl⟩ := okWide_slice Tryz.underlying29 (hval 0 29 v0 rfl rfl)
 obtain ⟨l0, rd0, vi0, vm0⟩ : ∃ l, RdV W.heap.size W (.slice pp0 ln0 cl0) l ∧ (∀ r ∈ l, I64 r.n) ∧ l.length ≤ maxLen := by
   obtain ⟨fuel, hf⟩ := h0
   exact open_vals hf
 obtain ⟨a1, rfl, rfl, rfl, w1⟩ := open_int Tryz.underlying5 (hval 1 5 v1 rfl rfl) h1
 have j2 := h2
 have lt2 : ∀ x ∈ p2, x.block < W.heap.size := by obtain ⟨m, hm⟩ := j2; exact DataW.trod_lt m _ _ _ hm
 obtain ⟨Lp2, Lq2, rfl, wp2, wq2⟩ := open_two (hval 2 43 v2 rfl rfl) h2
 clear hA0 hval0
 refine (walk l0 pp0 ln0 cl0 a1 Lp2 Lq2 W rd0 vi0 vm0 w1 wp2 wq2 (nm_ofU hL) (tab_ofU hL)).mono fun e W' ⟨he, bel⟩ => ?_
 subst he
 exact ⟨_, rfl, _, _, _, [], _, [], hW, trodAll_mk1 (shut_bool Tryz.underlying4 _), (trodAll_cons_mk (Below.trod laidOut (by kernel_rfl) (of_decide_eq_true (by kernel_rfl)) j0 bel lt0) (trodAll_cons_mk (shut_int Tryz.underlying5 w1) (trodAll_cons_mk (Below.trod laidOut (by kernel_rfl) (of_decide_eq_true (by kernel_rfl)) j2 bel lt2) trodAll_mk0))), rfl, Below.frame bel _, fun h => by cases h⟩

theorem laid_met (os : Os) : laidMet Tryz.prog Rows.funcsIndexRow.laid ((laidWorldU os).forCall (fun _ _ => 0) ⟨#[], #[.slice none 0 0, .int .u8 0, .agg #[.int .i8 0, .int .i8 0]], []⟩).memory :=
 laidMet_of_run' 8 (by kernel_rfl) (by kernel_rfl)
theorem reads (os : Os) {H : Type} (enc : TypeId × Value → H) : ∃ places, DataW.whole enc Tryz.prog ((laidWorldU os).forCall (fun _ _ => 0) ⟨#[], #[.slice none 0 0, .int .u8 0, .agg #[.int .i8 0, .int .i8 0]], []⟩).memory Tryz.f7.params.toList Rows.funcsIndexSpec.vars false (#[.slice none 0 0, .int .u8 0, .agg #[.int .i8 0, .int .i8 0]] : Array Value).toList 8 = some ([.nil, .lit (.int .u8 0), .agg [.lit (.int .i8 0), .lit (.int .i8 0)]], [], places) :=
 ⟨[], by kernel_rfl⟩

set_option maxRecDepth 100000 in
theorem lifted (os : Os) (started : os.Started) (H : Type) (enc : TypeId × Value → H) (F : Stop.Interp) :
   ReturnsInHanded {} Tryz.checked os 7 .any ((OpenSpec.ofChange Rows.funcsIndexSpec).preRow enc Tryz.prog Tryz.f7 Rows.funcsIndexRow.domain false Rows.funcsIndexRow.laid) (((OpenSpec.ofChange Rows.funcsIndexSpec).at F).post enc Tryz.prog Tryz.f7 false true false false) := by
 obtain ⟨places, hx⟩ := reads os enc
 refine returnsInHanded_of_row (C := Tryz.checked) (s := OpenSpec.ofChange Rows.funcsIndexSpec) ownK started (by kernel_rfl) Tryz.func7
   (witness_row_at (enc := enc) (C := Tryz.checked) false (laidWorldU os) #[.slice none 0 0, .int .u8 0, .agg #[.int .i8 0, .int .i8 0]] rfl (by kernel_rfl) (by kernel_rfl) (by kernel_rfl)
     (OpenSpec.preRow_of_cond 8 hx (by kernel_rfl) (fun k hk => by cases hk) (by kernel_rfl) (by
       rw [MakeChecks.laidMetH_plain _ _ _ (by kernel_rfl)]
       exact laid_met os))) ?_
 intro W base args ds gs before hval hW _ _ _ hL _ _
 exact contract H enc W base args ds gs before hval hW hL

theorem said : Rows.FuncsIndexSaid :=
 OpenClaim.holds_of_cond 7 Tryz.f7 rfl rfl rfl rfl rfl rfl rfl ⟨rfl, rfl, rfl, rfl, rfl⟩ rfl rfl rfl rfl rfl (by kernel_rfl) Tryz.func7 (by kernel_rfl)
   (of_decide_eq_true (by kernel_rfl)) (by unfold Func.isWrapper; first | (rw [if_pos (by decide +kernel)]; kernel_rfl) | (rw [if_neg (by decide +kernel)]; exact ⟨rfl, rfl⟩))
   (fun os started H enc _ F => by rw [OpenClaim.pre_eq_preRow]; exact lifted os started H enc F)

theorem plain (f : FuncId) (fn : Func) (hf : Tryz.pinned.checked.prog.funcNamed Rows.funcsIndexRow.func = some f) (hfn : Tryz.pinned.checked.prog.funcs[f]? = some fn) :
   true = Tryz.pinned.checked.prog.looks [] ∧ ∀ (j : Nat) t, fn.params[j]? = some t → Tryz.pinned.checked.prog.wantsStandIn t = false := by
 obtain rfl : f = 7 := Option.some.inj ((show Tryz.prog.funcNamed Rows.funcsIndexRow.func = some 7 by kernel_rfl).symm.trans hf) |>.symm
 obtain rfl : fn = Tryz.f7 := (Option.some.inj (Tryz.func7.symm.trans hfn)).symm
 refine ⟨by kernel_rfl, fun j t ht => ?_⟩
 rw [Tryz.params7] at ht
 have hm : t ∈ [29, 5, 43] := by simpa using Array.mem_of_getElem? ht
 have hall : ([29, 5, 43].all fun u => !Tryz.prog.wantsStandIn u) = true := by kernel_rfl
 exact (show Tryz.prog.wantsStandIn t = false by simpa using List.all_eq_true.1 hall t hm)

theorem card : Rows.FuncsIndexCardSaid :=
 Claim7.holds_tied_plain_at .later [] _ _ _ _ said (fun _ h => by cases h) (by kernel_rfl) (fun _ h => by cases h) funcsIndex_row_tie rfl ⟨rfl, rfl⟩ (by kernel_rfl) rfl plain (by kernel_rfl)
end Go.Proofs.YtalejeknigbhjaaGreatDoor.funcsIndex
namespace Go.Proofs.YtalejeknigbhjaaGreatDoor
theorem funcsIndex_card : Rows.FuncsIndexCardSaid := funcsIndex.card
end Go.Proofs.YtalejeknigbhjaaGreatDoor

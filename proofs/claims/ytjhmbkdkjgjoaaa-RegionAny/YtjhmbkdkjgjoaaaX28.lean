import Derived.Test.YtjhmbkdkjgjoaaaX26
import Derived.Test.YtjhmbkdkjgjoaaaX27
import Derived.Test.YtjhmbkdkjgjoaaaX16
import Derived.Test.YtjhmbkdkjgjoaaaX25
import Derived.Test.YtjhmbkdkjgjoaaaX4
import Derived.Deep.RegionHeld3
namespace Go.Proofs.Ytjhmbkdkjgjoaaa
open Go.RowKit
set_option maxHeartbeats 6000000
theorem elem_at {w0 : World} {P : Nat → Prop} {pp : Option Addr} {ln cl i : Nat} {ls : List T} {x : T} (hL : IsL w0 P (.slice pp ln cl) ls) (hi : ls[i]? = some x) :
   ∃ gb off qq lm cm, pp = some ⟨gb, off, none⟩ ∧ ln = ls.length ∧ IsL w0 P (.slice qq lm cm) x.l ∧ ∀ V, Ext w0 V → V.cell? ⟨gb, off + i * 13, none⟩ = some (.int .i64 x.k) ∧ V.cell? ⟨gb, off + i * 13 + 1, none⟩ = some (.int .i64 x.n) ∧ V.cell? ⟨gb, off + i * 13 + 2, none⟩ = some (.string (bs x.s)) ∧ V.cell? ⟨gb, off + i * 13 + 3, none⟩ = some (.int .i64 x.e) ∧ V.cell? ⟨gb, off + i * 13 + 4, none⟩ = some (.int .i64 x.r.1) ∧ V.cell? ⟨gb, off + i * 13 + 5, none⟩ = some (.int .i64 x.r.2.1) ∧ V.cell? ⟨gb, off + i * 13 + 6, none⟩ = some (.bool x.r.2.2.1) ∧ V.cell? ⟨gb, off + i * 13 + 7, none⟩ = some (.bool x.r.2.2.2) ∧ V.cell? ⟨gb, off + i * 13 + 8, none⟩ = some (.int .i64 x.q.1) ∧ V.cell? ⟨gb, off + i * 13 + 9, none⟩ = some (.int .i64 x.q.2.1) ∧ V.cell? ⟨gb, off + i * 13 + 10, none⟩ = some (.bool x.q.2.2.1) ∧ V.cell? ⟨gb, off + i * 13 + 11, none⟩ = some (.bool x.q.2.2.2) ∧ V.cell? ⟨gb, off + i * 13 + 12, none⟩ = some (.slice qq lm cm) := by
 obtain ⟨gb, off, x', lv, hpp, hx1, hA1, hgb, hA2, hLx, hce⟩ := hL.at (i := i) (List.getElem?_eq_some_iff.1 hi).1
 rw [hi] at hx1
 cases hx1
 obtain ⟨qq, cm, hlv, hcl⟩ := hLx.form
 subst hlv
 refine ⟨gb, off, qq, _, cm, hpp, hA1, hLx, fun V e => ?_⟩
 have k := fun o => e.cell.1 gb o hgb
 exact ⟨(k _).trans (hce 0 _ rfl), (k _).trans (hce 1 _ rfl), (k _).trans (hce 2 _ rfl), (k _).trans (hce 3 _ rfl), (k _).trans (hce 4 _ rfl), (k _).trans (hce 5 _ rfl), (k _).trans (hce 6 _ rfl), (k _).trans (hce 7 _ rfl), (k _).trans (hce 8 _ rfl), (k _).trans (hce 9 _ rfl), (k _).trans (hce 10 _ rfl), (k _).trans (hce 11 _ rfl), (k _).trans (hce 12 _ rfl)⟩
open Go.RowKit
set_option maxHeartbeats 6000000
def ShC (n : Nat) (t : T) : Prop := ∀ (W : World) (P : Nat → Prop) (pp : Option Addr) (ln cl : Nat), IsL W P (.slice pp ln cl) t.l →
 Calls Try.prog 22 #[.agg #[.int .i64 t.k, .int .i64 t.n, .string (bs t.s), .int .i64 t.e, .int .i64 t.r.1, .int .i64 t.r.2.1, .bool t.r.2.2.1, .bool t.r.2.2.2, .int .i64 t.q.1, .int .i64 t.q.2.1, .bool t.q.2.2.1, .bool t.q.2.2.2, .slice pp ln cl]] W fun e w' => e = .returned (.string (bs (shT n t))) ∧ Ext W w'
set_option maxRecDepth 100000 in
theorem show_num (n : Nat) (t : T) (hk : t.k = 0) (hW : Wf t) : ShC (n + 1) t := by
 intro W P pp ln cl hL
 have e0 : (t.k == 0) = true := by rw [hk]; rfl
 have HX : Hid (shT (n + 1) t = printL t.n) := by show _ = _; rw [shT]; simp [hk]
 have c1 := fun W => rprint_any t.n (by cases hW; assumption) W
 rw [show (⟨(printL t.n).toArray⟩ : ByteArray) = bs (printL t.n) from rfl] at c1
 clear hL hW hk
 go_enter Try.func22, Try.ntmps22
 go_wp2_with fail
 refine (c1 _).mono ?_
 rintro e w1 ⟨rfl, E1⟩
 have HE1 : Hid (Ext W w1) := ((Ext.refl _).alloc _).trans E1
 clear E1
 go_wp2_with fail
 go_ret
 exact ⟨ret_s (by rw [HX.out]), HE1.out⟩
set_option maxRecDepth 100000 in
theorem show_text (n : Nat) (t : T) (hk : t.k = 1) (_hW : Wf t) (hs : t.s.length ≤ 300) : ShC (n + 1) t := by
 intro W P pp ln cl hL
 have e0 : (t.k == 0) = false := by rw [hk]; rfl
 have e1 : (t.k == 1) = true := by rw [hk]; rfl
 have HX : Hid (shT (n + 1) t = quoL t.s) := by show _ = _; rw [shT]; simp [hk]
 have c1 := fun W => quoted_any (bs t.s) W (by rw [bs_size]; exact hs)
 rw [show (bs t.s).data.toList = t.s from rfl] at c1
 clear hL hk hs
 go_enter Try.func22, Try.ntmps22
 go_wp2_with fail
 refine (c1 _).mono ?_
 rintro e w1 ⟨rfl, E1⟩
 have HE1 : Hid (Ext W w1) := ((Ext.refl _).alloc _).trans E1
 clear E1
 go_wp2_with fail
 go_ret
 exact ⟨ret_s (by rw [HX.out]), HE1.out⟩
set_option maxRecDepth 100000 in
theorem show_bool (n : Nat) (t : T) (hk : t.k = 2) (_hW : Wf t) (hn : t.n = 0 ∨ t.n = 1) : ShC (n + 1) t := by
 intro W P pp ln cl hL
 have e0 : (t.k == 0) = false := by rw [hk]; rfl
 have e1 : (t.k == 1) = false := by rw [hk]; rfl
 have e2 : (t.k == 2) = true := by rw [hk]; rfl
 have HX : Hid (shT (n + 1) t = tfL (t.n == 1)) := by show _ = _; rw [shT]; rcases hn with h | h <;> simp [hk, h, tfL]
 clear hL hk hn
 obtain ⟨bb, hbb⟩ : ∃ bb, (t.n == 1) = bb := ⟨_, rfl⟩
 rw [hbb] at HX
 have c1 := fun W => rb9_any bb W
 have c2 := fun W => rs9_any bb W
 generalize nB bb = nb at *
 go_enter Try.func22, Try.ntmps22
 go_wp2_with fail
 refine (c1 _).mono ?_
 rintro e w0 ⟨rfl, E0⟩
 have HE0 : Hid (Ext W w0) := ((Ext.refl _).alloc _).trans E0
 clear E0
 go_wp2_with fail
 refine (c2 _).mono ?_
 rintro e w1 ⟨rfl, E1⟩
 have HE1 : Hid (Ext W w1) := HE0.out.trans E1
 clear E1
 go_wp2_with fail
 go_ret
 exact ⟨ret_s (by rw [HX.out]), HE1.out⟩
set_option maxRecDepth 100000 in
theorem show_err (n : Nat) (t : T) (hk : t.k = 3) (_hW : Wf t) (he : 1 ≤ t.e ∧ t.e ≤ 5) : ShC (n + 1) t := by
 intro W P pp ln cl hL
 have e0 : (t.k == 0) = false := by rw [hk]; rfl
 have e1 : (t.k == 1) = false := by rw [hk]; rfl
 have e2 : (t.k == 2) = false := by rw [hk]; rfl
 have e3 : (t.k == 3) = true := by rw [hk]; rfl
 have HX : Hid (shT (n + 1) t = errL t.e) := by show _ = _; rw [shT]; simp [hk]
 have c1 := fun W => (rerr9_any t.e he W).mono (fun e w' h => (⟨h.1, by rw [h.2]; exact Ext.refl _⟩ : e = .returned (.string (bs (errL t.e))) ∧ Ext W w'))
 clear hL hk he
 go_enter Try.func22, Try.ntmps22
 go_wp2_with fail
 refine (c1 _).mono ?_
 rintro e w1 ⟨rfl, E1⟩
 have HE1 : Hid (Ext W w1) := ((Ext.refl _).alloc _).trans E1
 clear E1
 go_wp2_with fail
 go_ret
 exact ⟨ret_s (by rw [HX.out]), HE1.out⟩
set_option maxRecDepth 100000 in
theorem show_ref (n : Nat) (t : T) (hk : t.k = 4) (hW : Wf t) : ShC (n + 1) t := by
 intro W P pp ln cl hL
 have e0 : (t.k == 0) = false := by rw [hk]; rfl
 have e1 : (t.k == 1) = false := by rw [hk]; rfl
 have e2 : (t.k == 2) = false := by rw [hk]; rfl
 have e3 : (t.k == 3) = false := by rw [hk]; rfl
 have e4 : (t.k == 4) = true := by rw [hk]; rfl
 have HX : Hid (shT (n + 1) t = rfL t.r) := by show _ = _; rw [shT]; simp [hk]
 have c1 := fun W => rprint6_any t.r.1 t.r.2.1 t.r.2.2.1 t.r.2.2.2 (by cases hW; assumption) (by cases hW; assumption) W
 have HS1 : Hid ((bs (rfL t.r)).size ≤ 8 ∧ (bs (rfL t.r)).data.toList = rfL t.r) := ⟨by rw [bs_size]; exact rfL_len _, rfl⟩
 rw [show (⟨(printR t.r.1 t.r.2.1 t.r.2.2.1 t.r.2.2.2).toArray⟩ : ByteArray) = bs (rfL t.r) from rfl] at c1
 clear hL hW hk HS1
 go_enter Try.func22, Try.ntmps22
 go_wp2_with fail
 refine (c1 _).mono ?_
 rintro e w1 ⟨rfl, E1⟩
 have HE1 : Hid (Ext W w1) := ((Ext.refl _).alloc _).trans E1
 clear E1
 go_wp2_with fail
 go_ret
 exact ⟨ret_s (by rw [HX.out]), HE1.out⟩
set_option maxRecDepth 100000 in
theorem show_range (n : Nat) (t : T) (hk : t.k = 5) (hW : Wf t) : ShC (n + 1) t := by
 intro W P pp ln cl hL
 have e0 : (t.k == 0) = false := by rw [hk]; rfl
 have e1 : (t.k == 1) = false := by rw [hk]; rfl
 have e2 : (t.k == 2) = false := by rw [hk]; rfl
 have e3 : (t.k == 3) = false := by rw [hk]; rfl
 have e4 : (t.k == 4) = false := by rw [hk]; rfl
 have e5 : (t.k == 5) = true := by rw [hk]; rfl
 have HX : Hid (shT (n + 1) t = rfL t.r ++ 58 :: rfL t.q) := by show _ = _; rw [shT]; simp [hk]
 have c1 := fun W => rprint6_any t.r.1 t.r.2.1 t.r.2.2.1 t.r.2.2.2 (by cases hW; assumption) (by cases hW; assumption) W
 have HS1 : Hid ((bs (rfL t.r)).size ≤ 8 ∧ (bs (rfL t.r)).data.toList = rfL t.r) := ⟨by rw [bs_size]; exact rfL_len _, rfl⟩
 rw [show (⟨(printR t.r.1 t.r.2.1 t.r.2.2.1 t.r.2.2.2).toArray⟩ : ByteArray) = bs (rfL t.r) from rfl] at c1
 have c2 := fun W => rprint6_any t.q.1 t.q.2.1 t.q.2.2.1 t.q.2.2.2 (by cases hW; assumption) (by cases hW; assumption) W
 have HS2 : Hid ((bs (rfL t.q)).size ≤ 8 ∧ (bs (rfL t.q)).data.toList = rfL t.q) := ⟨by rw [bs_size]; exact rfL_len _, rfl⟩
 rw [show (⟨(printR t.q.1 t.q.2.1 t.q.2.2.1 t.q.2.2.2).toArray⟩ : ByteArray) = bs (rfL t.q) from rfl] at c2
 generalize bs (rfL t.r) = q at *
 generalize bs (rfL t.q) = q2 at *
 have z1 := HS1.out.1
 have z2 := HS2.out.1
 have s1 : (⟨#[58]⟩ : ByteArray).size = 1 := rfl
 have s2 : (q ++ (⟨#[58]⟩ : ByteArray)).size = q.size + 1 := by rw [ByteArray.size_append, s1]
 have n1 : ¬ 9223372036854775807 < q.size + 1 := by omega
 have n2 : ¬ 9223372036854775807 < q.size + 1 + q2.size := by omega
 have HS : Hid ((q ++ (⟨#[58]⟩ : ByteArray) ++ q2).data.toList = rfL t.r ++ 58 :: rfL t.q) := by
   show _ = _
   rw [app_list, app_list, HS1.out.2, HS2.out.2]; simp
 have C1 : Hid (∀ V, Calls Try.prog 42 #[.agg #[.int .i64 t.r.1, .int .i64 t.r.2.1, .bool t.r.2.2.1, .bool t.r.2.2.2]] V fun e w' => e = .returned (.string q) ∧ Ext V w') := c1
 have C2 : Hid (∀ V, Calls Try.prog 42 #[.agg #[.int .i64 t.q.1, .int .i64 t.q.2.1, .bool t.q.2.2.1, .bool t.q.2.2.2]] V fun e w' => e = .returned (.string q2) ∧ Ext V w') := c2
 clear hL hW hk c1 c2
 go_enter Try.func22, Try.ntmps22
 go_wp2_with fail
 have HF : Hid (BlkX (W.alloc (.cells #[.int .i64 t.k, .int .i64 t.n, .string (bs t.s), .int .i64 t.e, .int .i64 t.r.1, .int .i64 t.r.2.1, .bool t.r.2.2.1, .bool t.r.2.2.2, .int .i64 t.q.1, .int .i64 t.q.2.1, .bool t.q.2.2.1, .bool t.q.2.2.2, .slice pp ln cl] 29)) W.heap.size t (.slice pp ln cl) ∧ Ext W (W.alloc (.cells #[.int .i64 t.k, .int .i64 t.n, .string (bs t.s), .int .i64 t.e, .int .i64 t.r.1, .int .i64 t.r.2.1, .bool t.r.2.2.1, .bool t.r.2.2.2, .int .i64 t.q.1, .int .i64 t.q.2.1, .bool t.q.2.2.1, .bool t.q.2.2.2, .slice pp ln cl] 29))) := ⟨blk13_top (b := W.heap.size) rfl (Ext.refl _), (Ext.refl _).alloc _⟩
 generalize W.alloc (.cells #[.int .i64 t.k, .int .i64 t.n, .string (bs t.s), .int .i64 t.e, .int .i64 t.r.1, .int .i64 t.r.2.1, .bool t.r.2.2.1, .bool t.r.2.2.2, .int .i64 t.q.1, .int .i64 t.q.2.1, .bool t.q.2.2.1, .bool t.q.2.2.2, .slice pp ln cl] 29) = W1 at *
 have mkS : Hid (∀ V, Ext W1 V → V.cell? ⟨W.heap.size, 4, none⟩ = some (.int .i64 t.r.1) ∧ V.cell? ⟨W.heap.size, 5, none⟩ = some (.int .i64 t.r.2.1) ∧ V.cell? ⟨W.heap.size, 6, none⟩ = some (.bool t.r.2.2.1) ∧ V.cell? ⟨W.heap.size, 7, none⟩ = some (.bool t.r.2.2.2) ∧ V.cell? ⟨W.heap.size, 8, none⟩ = some (.int .i64 t.q.1) ∧ V.cell? ⟨W.heap.size, 9, none⟩ = some (.int .i64 t.q.2.1) ∧ V.cell? ⟨W.heap.size, 10, none⟩ = some (.bool t.q.2.2.1) ∧ V.cell? ⟨W.heap.size, 11, none⟩ = some (.bool t.q.2.2.2)) := fun V e => by
   obtain ⟨qz, ⟨k0, k1, k2, k3, k4, k5, k6, k7, k8, k9, k10, k11, k12⟩, gz⟩ := HF.out.1.ext e
   exact ⟨k4, k5, k6, k7, k8, k9, k10, k11⟩
 refine wp_region_held_drew (S := (fun V => V.cell? ⟨W.heap.size, 4, none⟩ = some (.int .i64 t.r.1) ∧ V.cell? ⟨W.heap.size, 5, none⟩ = some (.int .i64 t.r.2.1) ∧ V.cell? ⟨W.heap.size, 6, none⟩ = some (.bool t.r.2.2.1) ∧ V.cell? ⟨W.heap.size, 7, none⟩ = some (.bool t.r.2.2.2) ∧ V.cell? ⟨W.heap.size, 8, none⟩ = some (.int .i64 t.q.1) ∧ V.cell? ⟨W.heap.size, 9, none⟩ = some (.int .i64 t.q.2.1) ∧ V.cell? ⟨W.heap.size, 10, none⟩ = some (.bool t.q.2.2.1) ∧ V.cell? ⟨W.heap.size, 11, none⟩ = some (.bool t.q.2.2.2))) (by kernel_rfl) ?_ (fun hHeld0 => ?_)
 · (refine mkS.out _ ?_; ((with_reducible (repeat (first | assumption | exact Ext.refl _ | apply Ext.alloc | apply Ext.drew | apply Ext.drewN))); done))
 refine wpAnyH_take (i := 0) (oi := ⟨some 41, .fieldAddr 29 (.tmp 1) 4, 0, "ref.go:38", #[], none⟩) (v := ?_) rfl (by kernel_rfl) (by kernel_rfl) (by kernel_rfl) (fun _ _ _ h => h) (Or.inl ⟨by rfl, ?_⟩) (by assumption) ?_
 rotate_left
 · intro w hSw; (try dsimp only at hSw); first | (go_simp; done) | (go_simp; with_reducible rfl)
 try simp only [Act.put, List.setIfInBounds_toArray, List.set_cons_zero, List.set_cons_succ]
 refine wpAnyH_take (i := 1) (oi := ⟨some 42, .load 26 (.tmp 41), 26, "ref.go:38", #[⟨0, .data⟩], none⟩) (v := ?_) rfl (by kernel_rfl) (by kernel_rfl) (by kernel_rfl) (fun _ _ _ h => h) (Or.inl ⟨by rfl, ?_⟩) (by assumption) ?_
 rotate_left
 · intro w hSw; (try dsimp only at hSw); first | (go_simp; done) | (go_simp; with_reducible rfl)
 try simp only [Act.put, List.setIfInBounds_toArray, List.set_cons_zero, List.set_cons_succ]
 refine wpAnyH_take (i := 4) (oi := ⟨some 45, .fieldAddr 29 (.tmp 1) 5, 0, "ref.go:38", #[], none⟩) (v := ?_) rfl (by kernel_rfl) (by kernel_rfl) (by kernel_rfl) (fun _ _ _ h => h) (Or.inl ⟨by rfl, ?_⟩) (by assumption) ?_
 rotate_left
 · intro w hSw; (try dsimp only at hSw); first | (go_simp; done) | (go_simp; with_reducible rfl)
 try simp only [Act.put, List.setIfInBounds_toArray, List.set_cons_zero, List.set_cons_succ]
 refine wpAnyH_take (i := 5) (oi := ⟨some 46, .load 26 (.tmp 45), 26, "ref.go:38", #[⟨4, .data⟩], none⟩) (v := ?_) rfl (by kernel_rfl) (by kernel_rfl) (by kernel_rfl) (fun _ _ _ h => h) (Or.inl ⟨by rfl, ?_⟩) (by assumption) ?_
 rotate_left
 · intro w hSw; (try dsimp only at hSw); first | (go_simp; done) | (go_simp; with_reducible rfl)
 try simp only [Act.put, List.setIfInBounds_toArray, List.set_cons_zero, List.set_cons_succ]
 refine wpAnyH_ready (rs := [2]) (by kernel_rfl) (by simp) ?_
 refine AllReadyH.cons (o := ⟨some 43, .call { callee := .value (.func 42), args := #[.tmp 42], argTypes := #[26] }, 9, "ref.go:38", #[⟨1, .data⟩], none⟩) rfl (fun K hK => ?_) AllReadyH.nil
 go_simp
 (go_at_call 42; refine Calls.mono (C1.out _) ?_; rintro e y1 ⟨rfl, E1⟩; have X1 : Ext W1 y1 := Ext.trans (by with_reducible repeat (first | assumption | exact Ext.refl _ | apply Ext.alloc | apply Ext.drew | apply Ext.drewN)) E1)
 try go_wp2_with fail
 refine hK.out _ _ ?_ (fun hHeld1 => ?_)
 · (try dsimp only); (refine mkS.out _ ?_; ((with_reducible (repeat (first | assumption | exact Ext.refl _ | apply Ext.alloc | apply Ext.drew | apply Ext.drewN))); done))
 clear hK K hHeld0
 try simp only [Act.put, List.setIfInBounds_toArray, List.set_cons_zero, List.set_cons_succ]
 refine wpAnyH_take (i := 3) (oi := ⟨some 44, .binOp .add 9 (.tmp 43) (.const (.string ⟨#[58]⟩)) 9, 9, "ref.go:38", #[⟨2, .data⟩], none⟩) (v := ?_) rfl (by kernel_rfl) (by kernel_rfl) (by kernel_rfl) (fun _ _ _ h => h) (Or.inl ⟨by rfl, ?_⟩) (by assumption) ?_
 rotate_left
 · intro w hSw; (try dsimp only at hSw); first | (go_simp; done) | (go_simp; with_reducible rfl)
 try simp only [Act.put, List.setIfInBounds_toArray, List.set_cons_zero, List.set_cons_succ]
 refine wpAnyH_ready (rs := [6]) (by kernel_rfl) (by simp) ?_
 refine AllReadyH.cons (o := ⟨some 47, .call { callee := .value (.func 42), args := #[.tmp 46], argTypes := #[26] }, 9, "ref.go:38", #[⟨5, .data⟩, ⟨2, .chain⟩], none⟩) rfl (fun K hK => ?_) AllReadyH.nil
 go_simp
 (go_at_call 42; refine Calls.mono (C2.out _) ?_; rintro e y2 ⟨rfl, E2⟩; have X2 : Ext W1 y2 := Ext.trans (by with_reducible repeat (first | assumption | exact Ext.refl _ | apply Ext.alloc | apply Ext.drew | apply Ext.drewN)) E2)
 try go_wp2_with fail
 refine hK.out _ _ ?_ (fun hHeld2 => ?_)
 · (try dsimp only); (refine mkS.out _ ?_; ((with_reducible (repeat (first | assumption | exact Ext.refl _ | apply Ext.alloc | apply Ext.drew | apply Ext.drewN))); done))
 clear hK K hHeld1
 try simp only [Act.put, List.setIfInBounds_toArray, List.set_cons_zero, List.set_cons_succ]
 refine wpAnyH_take (i := 7) (oi := ⟨some 48, .binOp .add 9 (.tmp 44) (.tmp 47) 9, 9, "ref.go:38", #[⟨3, .data⟩, ⟨6, .data⟩], none⟩) (v := ?_) rfl (by kernel_rfl) (by kernel_rfl) (by kernel_rfl) (fun _ _ _ h => h) (Or.inl ⟨by rfl, ?_⟩) (by assumption) ?_
 rotate_left
 · intro w hSw; (try dsimp only at hSw); first | (go_simp; done) | (go_simp; with_reducible rfl)
 try simp only [Act.put, List.setIfInBounds_toArray, List.set_cons_zero, List.set_cons_succ]
 refine wpAnyH_take (i := 8) (oi := ⟨some 2, .assign (.tmp 48), 9, "ref.go:38", #[⟨7, .data⟩, ⟨6, .chain⟩, ⟨0, .phase⟩, ⟨1, .phase⟩, ⟨2, .phase⟩, ⟨3, .phase⟩, ⟨4, .phase⟩, ⟨5, .phase⟩, ⟨6, .phase⟩, ⟨7, .phase⟩], none⟩) (v := ?_) rfl (by kernel_rfl) (by kernel_rfl) (by kernel_rfl) (fun _ _ _ h => h) (Or.inl ⟨by rfl, ?_⟩) (by assumption) ?_
 rotate_left
 · intro w hSw; (try dsimp only at hSw); first | (go_simp; done) | (go_simp; with_reducible rfl)
 try simp only [Act.put, List.setIfInBounds_toArray, List.set_cons_zero, List.set_cons_succ]
 refine wpAnyH_done (by kernel_rfl) ?_ _
 go_wp2_with fail
 go_ret
 exact ⟨ret_s (mkL _ _ (by rw [HX.out, HS.out])), HF.out.2.trans (by assumption)⟩
set_option maxRecDepth 100000 in
theorem show_neg (n : Nat) (t : T) (hk : t.k = 6) (_hW : Wf t) (x : T) (hl : t.l = [x]) (hx : ShC n x) (lx : (shT n x).length ≤ 80000000) : ShC (n + 1) t := by
 intro W P pp ln cl hL
 have e0 : (t.k == 0) = false := by rw [hk]; rfl
 have e1 : (t.k == 1) = false := by rw [hk]; rfl
 have e2 : (t.k == 2) = false := by rw [hk]; rfl
 have e3 : (t.k == 3) = false := by rw [hk]; rfl
 have e4 : (t.k == 4) = false := by rw [hk]; rfl
 have e5 : (t.k == 5) = false := by rw [hk]; rfl
 have e6 : (t.k == 6) = true := by rw [hk]; rfl
 have HX : Hid (shT (n + 1) t = 45 :: brkL (loose 5 x) (shT n x)) := by show _ = _; rw [shT]; simp [hk, hl, hdT]
 obtain ⟨gb, off, qq, lm, cm, hpp, hln, hLx, hce⟩ := elem_at hL (show t.l[0]? = some x by rw [hl]; rfl)
 rw [hl] at hln
 simp only [Nat.zero_mul, Nat.add_zero] at hce
 replace hln : ln = 1 := hln
 subst hpp hln
 have HC : Hid (∀ V, Ext W V → Calls Try.prog 22 #[.agg #[.int .i64 x.k, .int .i64 x.n, .string (bs x.s), .int .i64 x.e, .int .i64 x.r.1, .int .i64 x.r.2.1, .bool x.r.2.2.1, .bool x.r.2.2.2, .int .i64 x.q.1, .int .i64 x.q.2.1, .bool x.q.2.2.1, .bool x.q.2.2.2, .slice qq lm cm]] V fun e w' => e = .returned (.string (bs (shT n x))) ∧ Ext V w') := fun V e => hx V P qq lm cm (hLx.ext e)
 have HE : Hid (∀ V, Ext W V → V.cell? ⟨gb, off, none⟩ = some (.int .i64 x.k) ∧ V.cell? ⟨gb, off + 1, none⟩ = some (.int .i64 x.n) ∧ V.cell? ⟨gb, off + 2, none⟩ = some (.string (bs x.s)) ∧ V.cell? ⟨gb, off + 3, none⟩ = some (.int .i64 x.e) ∧ V.cell? ⟨gb, off + 4, none⟩ = some (.int .i64 x.r.1) ∧ V.cell? ⟨gb, off + 5, none⟩ = some (.int .i64 x.r.2.1) ∧ V.cell? ⟨gb, off + 6, none⟩ = some (.bool x.r.2.2.1) ∧ V.cell? ⟨gb, off + 7, none⟩ = some (.bool x.r.2.2.2) ∧ V.cell? ⟨gb, off + 8, none⟩ = some (.int .i64 x.q.1) ∧ V.cell? ⟨gb, off + 9, none⟩ = some (.int .i64 x.q.2.1) ∧ V.cell? ⟨gb, off + 10, none⟩ = some (.bool x.q.2.2.1) ∧ V.cell? ⟨gb, off + 11, none⟩ = some (.bool x.q.2.2.2) ∧ V.cell? ⟨gb, off + 12, none⟩ = some (.slice qq lm cm)) := hce
 have HQ : Hid ((bs (shT n x)).data.toList = shT n x) := rfl
 have hqs : (bs (shT n x)).size ≤ 80000000 := by rw [bs_size]; exact lx
 generalize bs (shT n x) = q at *
 have s1 : (⟨#[40]⟩ : ByteArray).size = 1 := rfl
 have s2 : (⟨#[41]⟩ : ByteArray).size = 1 := rfl
 have s3 : (⟨#[45]⟩ : ByteArray).size = 1 := rfl
 have s4 : ((⟨#[40]⟩ : ByteArray) ++ q).size = q.size + 1 := by rw [ByteArray.size_append, s1]; omega
 have s5 : ((⟨#[40]⟩ : ByteArray) ++ q ++ (⟨#[41]⟩ : ByteArray)).size = q.size + 2 := by rw [ByteArray.size_append, s4, s2]
 clear hL hk hl hx lx hLx hce
 go_enter Try.func22, Try.ntmps22
 obtain ⟨c0, c1, c2, c3, c4, c5, c6, c7, c8, c9, c10, c11, c12⟩ := HE.out _ ((Ext.refl W).alloc (.cells #[.int .i64 t.k, .int .i64 t.n, .string (bs t.s), .int .i64 t.e, .int .i64 t.r.1, .int .i64 t.r.2.1, .bool t.r.2.2.1, .bool t.r.2.2.2, .int .i64 t.q.1, .int .i64 t.q.2.1, .bool t.q.2.2.1, .bool t.q.2.2.2, .slice (some ⟨gb, off, none⟩) 1 cl] 29))
 go_wp2_with fail
 have HF : Hid (BlkX (W.alloc (.cells #[.int .i64 t.k, .int .i64 t.n, .string (bs t.s), .int .i64 t.e, .int .i64 t.r.1, .int .i64 t.r.2.1, .bool t.r.2.2.1, .bool t.r.2.2.2, .int .i64 t.q.1, .int .i64 t.q.2.1, .bool t.q.2.2.1, .bool t.q.2.2.2, .slice (some ⟨gb, off, none⟩) 1 cl] 29)) W.heap.size t (.slice (some ⟨gb, off, none⟩) 1 cl) ∧ Ext W (W.alloc (.cells #[.int .i64 t.k, .int .i64 t.n, .string (bs t.s), .int .i64 t.e, .int .i64 t.r.1, .int .i64 t.r.2.1, .bool t.r.2.2.1, .bool t.r.2.2.2, .int .i64 t.q.1, .int .i64 t.q.2.1, .bool t.q.2.2.1, .bool t.q.2.2.2, .slice (some ⟨gb, off, none⟩) 1 cl] 29))) := ⟨blk13_top (b := W.heap.size) rfl (Ext.refl _), (Ext.refl _).alloc _⟩
 generalize W.alloc (.cells #[.int .i64 t.k, .int .i64 t.n, .string (bs t.s), .int .i64 t.e, .int .i64 t.r.1, .int .i64 t.r.2.1, .bool t.r.2.2.1, .bool t.r.2.2.2, .int .i64 t.q.1, .int .i64 t.q.2.1, .bool t.q.2.2.1, .bool t.q.2.2.2, .slice (some ⟨gb, off, none⟩) 1 cl] 29) = W1 at *
 refine (HC.out _ HF.out.2).mono ?_
 rintro e w2 ⟨rfl, E2⟩
 have HE2 : Hid (Ext W w2) := HF.out.2.trans E2
 obtain ⟨qz, ⟨k0, k1, k2, k3, k4, k5, k6, k7, k8, k9, k10, k11, k12⟩, gz⟩ := HF.out.1.ext E2
 clear E2 gz c0 c1 c2 c3 c4 c5 c6 c7 c8 c9 c10 c11 c12
 obtain ⟨c0, c1, c2, c3, c4, c5, c6, c7, c8, c9, c10, c11, c12⟩ := HE.out w2 HE2.out
 by_cases h7 : x.k = 7
 · have x7 : (x.k == 7) = true := by rw [h7]; rfl
   have HB : Hid (brkL (loose 5 x) (shT n x) = 40 :: (shT n x ++ [41])) := by
     show _ = _
     have hb4 : bnd x.s < 5 := by unfold bnd; repeat (first | (split; · omega) | omega)
     simp [loose, h7, hb4, brkL]
   clear h7
   go_wp2_with fail
   go_ret
   exact ⟨ret_s (mkL _ _ (by rw [HX.out, HB.out, app_list, app_list, app_list, HQ.out]; simp)), HE2.out⟩
 · have x7 : (x.k == 7) = false := by simpa using h7
   have HB : Hid (brkL (loose 5 x) (shT n x) = shT n x) := by
     show _ = _
     simp [loose, h7, brkL]
   clear h7
   go_wp2_with fail
   go_ret
   exact ⟨ret_s (mkL _ _ (by rw [HX.out, HB.out, app_list, HQ.out]; simp)), HE2.out⟩
end Go.Proofs.Ytjhmbkdkjgjoaaa

import Derived.Test.YtjhmbkdkjgjoaaaX22
namespace Go.Proofs.Ytjhmbkdkjgjoaaa
open Go.RowKit
set_option maxHeartbeats 6000000
def RpCm (w0 : World) (b : Nat) (W : World) (ts : List Tk) (d pa why : Int) (e : Ending) (w' : World) : Prop := ExtB b W w' ∧
 ((sgn ts why = [44] ∧ e = .returned (.bool true) ∧ Rp w0 b w' (nx ts) d pa why) ∨ (sgn ts why ≠ [44] ∧ e = .returned (.bool false) ∧ Rp w0 b w' ts d pa why))
set_option maxRecDepth 100000 in
theorem rcomma_any {w0 W : World} {b : Nat} {ts : List Tk} {d pa why : Int} (h : Rp w0 b W ts d pa why) : Calls Try.prog 74 #[.pointer (some ⟨b, 0, none⟩)] W (RpCm w0 b W ts d pa why) := by
 have HR : Hid (Rp w0 b W ts d pa why) := h
 have c1 := rsign_any h
 have hq : ((bs (sgn ts why)).toList == [44]) = decide (sgn ts why = [44]) := by
   rw [bs_tl]
   by_cases hh : sgn ts why = [44] <;> simp [hh]
 have hq2 : ((bs (sgn ts why)).toList != [44]) = !decide (sgn ts why = [44]) := by
   rw [bs_tl]
   by_cases hh : sgn ts why = [44] <;> simp [hh]
 obtain ⟨sg, hsg⟩ : ∃ sg, sgn ts why = sg := ⟨_, rfl⟩
 rw [hsg] at c1 hq hq2
 have HS : Hid (sgn ts why = sg) := hsg
 generalize bs sg = q at *
 clear h hsg
 by_cases he : sg = [44]
 · rw [decide_eq_true he] at hq hq2
   have HE : Hid (sg = [44]) := he
   clear he
   go_enter Try.func74, Try.ntmps74
   go_wp2_with fail
   refine c1.mono ?_
   rintro e w1 ⟨rfl, E1⟩
   have HE1 : Hid (Ext W w1) := E1
   clear E1 c1
   go_wp2_with fail
   refine (rnext_any (HR.out.ext HE1.out)).mono ?_
   rintro e w2 ⟨rfl, R2, X2⟩
   have H2 : Hid (Rp w0 b w2 (nx ts) d pa why ∧ ExtB b W w2) := ⟨R2, (HE1.out.toB b).trans X2⟩
   clear R2 X2
   go_wp2_with fail
   go_ret
   exact ⟨H2.out.2, .inl ⟨HS.out.trans HE.out, rfl, H2.out.1⟩⟩
 · rw [decide_eq_false he] at hq hq2
   have HE : Hid (sg ≠ [44]) := he
   clear he
   go_enter Try.func74, Try.ntmps74
   go_wp2_with fail
   refine c1.mono ?_
   rintro e w1 ⟨rfl, E1⟩
   have HE1 : Hid (Ext W w1) := E1
   clear E1 c1
   go_wp2_with fail
   go_ret
   exact ⟨HE1.out.toB b, .inr ⟨by rw [HS.out]; exact HE.out, rfl, HR.out.ext HE1.out⟩⟩
def prf (l : List UInt8) : Rf := if okP l then rfP l else rz
theorem rparse_rf (l : List UInt8) (w : World) (hl : l.length ≤ 300) : Calls Try.prog 72 #[.string (bs l)] w fun e w' => e = .returned (.tuple #[.agg #[.int .i64 (prf l).1, .int .i64 (prf l).2.1, .bool (prf l).2.2.1, .bool (prf l).2.2.2], .bool (okP l)]) ∧ Ext w w' := by
 have h := rparse6_any (bs l) w (by rw [bs_size]; unfold maxLen; omega)
 rw [bs_list] at h
 have e : prV l = .agg #[.int .i64 (prf l).1, .int .i64 (prf l).2.1, .bool (prf l).2.2.1, .bool (prf l).2.2.2] := by
   unfold prV prf
   split <;> rfl
 rw [e] at h
 exact h
theorem Rp.peek {w0 W : World} {b : Nat} {ts : List Tk} {d pa why : Int} (h : Rp w0 b W ts d pa why) : ∃ (tb off cc nn ii : Nat), Blk5 W b (.slice (some ⟨tb, off, none⟩) nn cc) (.int .i64 (ii : Int)) (.int .i64 d) (.int .i64 pa) (.int .i64 why) ∧ nn ≤ 400 ∧
   (2 ≤ ts.length → ii + 1 < nn ∧ tb < w0.heap.size ∧ tb ≠ b ∧ ∀ V, Ext W V → V.cell? ⟨tb, off + (ii + 1) * 5, none⟩ = some (.int .i64 (hd ts.tail).1) ∧ V.cell? ⟨tb, off + (ii + 1) * 5 + 2, none⟩ = some (.string (bs (hd ts.tail).2.2.1))) := by
 obtain ⟨h1, h2, h3, h4, h5, h6, h7, tb, off, c, n, i, all, g1, g2, g3, g4, g5, g6⟩ := h
 refine ⟨tb, off, c, n, i, g6, g3, fun hl => ?_⟩
 have hlen : ts.length = n - i := by rw [← g5, List.length_drop, g2]
 have hi : i + 1 < all.length := by omega
 obtain ⟨b', off', t, e3, e4, _, e6⟩ := g1.at hi
 cases e3
 have ht : hd ts.tail = t := by rw [← g5, List.tail_drop]; unfold hd; rw [List.headD_eq_head?_getD, List.head?_drop, e4]; rfl
 have htb : tb < w0.heap.size := by
   rcases g1 with ⟨h8, _⟩ | ⟨b2, o2, c2, q1, q2, q3, _⟩
   · cases h8
   · cases q1; exact q3
 rw [ht]
 exact ⟨by omega, htb, by omega, fun V e => ⟨(e6 V (h1.trans e)).1, (e6 V (h1.trans e)).2.2.1⟩⟩
set_option maxRecDepth 100000 in
theorem argument_a (w0 : World) (b n : Nat) (hX : ExC w0 b n n) (W : World) (ts : List Tk) (d : Nat) (pa : Int) (h : Rp w0 b W ts d pa 0) (hts : ts.length ≤ n) (hd4 : d ≤ 40) (ho : okP (hd ts).2.2.1 = false) :
   Calls Try.prog 75 #[.pointer (some ⟨b, 0, none⟩)] W (RX w0 b W ts.length (d - 1) d (argm (frm (O n)) d ts)) := by
 have HR : Hid (Rp w0 b W ts d pa 0) := h
 have HN : Hid (ts.length ≤ n ∧ d ≤ 40 ∧ w0.heap.size ≤ W.heap.size) := ⟨hts, hd4, h.1.sz⟩
 have HX : Hid (ExC w0 b n n) := hX
 have hbW : b < W.heap.size := h.lt.1
 have hgW : W.heap.size ≠ b := by omega
 have c1 := fun V e => rt_any (h.ext (W' := V) e)
 unfold tkA at c1
 have kf0 := fun W => tkf0 (hd ts) W
 have kf2 := fun W => tkf2 (hd ts) W
 have cP := fun V => rparse_rf (hd ts).2.2.1 V (h.2.2.2.2.1 _ (hd_mem h.2.2.1.pos)).1
 have hdoc := argm_doc (n := n) hd4 h.2.2.1 hts
 have HXX : Hid (argm (frm (O n)) d ts = LvK (O n) 1 d ts) := by
   show _ = _
   rw [hdoc, if_neg]
   · rfl
   · rintro ⟨_, h2, _⟩; rw [ho] at h2; cases h2
 rw [ho] at cP
 clear ho
 obtain ⟨r, hr⟩ : ∃ r, prf (hd ts).2.2.1 = r := ⟨_, rfl⟩
 rw [hr] at cP
 have HRF : Hid (prf (hd ts).2.2.1 = r) := hr
 obtain ⟨tb, off, cc, nn, ii, hB, hnn, hpk⟩ := h.peek
 have HPK : Hid (Blk5 W b (.slice (some ⟨tb, off, none⟩) nn cc) (.int .i64 (ii : Int)) (.int .i64 (d : Int)) (.int .i64 pa) (.int .i64 0)) := hB
 clear hB hpk hr hts hd4 hX h hdoc
 obtain ⟨t, ht⟩ : ∃ t, hd ts = t := ⟨_, rfl⟩
 have HTT : Hid (hd ts = t) := ht
 rw [ht] at c1 kf0 kf2 cP 
 clear ht
 go_enter Try.func75, Try.ntmps75
 go_wp2_with fail
 refine (c1 _ ((Ext.refl _).alloc _)).mono ?_
 rintro e w1 ⟨rfl, E1⟩
 have hw1 : W.heap.size + 1 ≤ w1.heap.size := by have := E1.size; simp at this; omega
 have HB1 : Hid (BlkX w1 W.heap.size tz (.slice none 0 0) ∧ Ext W w1) := ⟨BlkX.top rfl E1, ((Ext.refl _).alloc _).trans E1⟩
 clear E1
 go_wp2_with fail
 refine (cP _).mono ?_
 rintro e w2 ⟨rfl, E2⟩
 have hw2 : W.heap.size + 1 ≤ w2.heap.size := by have := E2.size; omega
 have HB2 : Hid (BlkX w2 W.heap.size tz (.slice none 0 0) ∧ Ext W w2) := ⟨HB1.out.1.ext E2, HB1.out.2.trans E2⟩
 clear E2 HB1
 go_wp2_with fail
 have E3 : Ext w2 (w2.alloc (.cells #[.int .i64 r.1, .int .i64 r.2.1, .bool r.2.2.1, .bool r.2.2.2] 26)) := (Ext.refl _).alloc _
 have B3 := blk_top (b := w2.heap.size) rfl (Ext.refl (w2.alloc (.cells #[.int .i64 r.1, .int .i64 r.2.1, .bool r.2.2.1, .bool r.2.2.2] 26)))
 have hz3 : w2.heap.size < (w2.alloc (.cells #[.int .i64 r.1, .int .i64 r.2.1, .bool r.2.2.1, .bool r.2.2.2] 26)).heap.size := by simp
 generalize w2.alloc (.cells #[.int .i64 r.1, .int .i64 r.2.1, .bool r.2.2.1, .bool r.2.2.2] 26) = V3 at *
 have HV : Hid (BlkX V3 W.heap.size tz (.slice none 0 0) ∧ Ext W V3 ∧ Blk V3 w2.heap.size (.int .i64 r.1) (.int .i64 r.2.1) (.bool r.2.2.1) (.bool r.2.2.2)) := ⟨HB2.out.1.ext E3, HB2.out.2.trans E3, B3⟩
 clear E3 B3 HB2
 refine wp_region_held_drew (S := (fun V => True)) (by kernel_rfl) ?_ (fun hHeld0 => ?_)
 · (all_goals trivial)
 refine wpAnyH_take (i := 0) (oi := ⟨some 14, .move (.tmp 4), 4, "ref.go:184", #[], none⟩) (v := ?_) rfl (by kernel_rfl) (by kernel_rfl) (by kernel_rfl) (fun _ _ _ h => h) (Or.inl ⟨by rfl, ?_⟩) (by assumption) ?_
 rotate_left
 · intro w hSw; (try dsimp only at hSw); first | (go_simp; done) | (go_simp; with_reducible rfl)
 try go_frame
 refine wpAnyH_take (i := 1) (oi := ⟨some 15, .unOp .not 4 (.tmp 14), 4, "ref.go:184", #[⟨0, .data⟩], none⟩) (v := ?_) rfl (by kernel_rfl) (by kernel_rfl) (by kernel_rfl) (fun _ _ _ h => h) (Or.inl ⟨by rfl, ?_⟩) (by assumption) ?_
 rotate_left
 · intro w hSw; (try dsimp only at hSw); first | (go_simp; done) | (go_simp; with_reducible rfl)
 try go_frame
 refine wpAnyH_take (i := 2) (oi := ⟨some 16, .move (.tmp 15), 4, "ref.go:184", #[⟨1, .data⟩], none⟩) (v := ?_) rfl (by kernel_rfl) (by kernel_rfl) (by kernel_rfl) (fun _ _ _ h => h) (Or.inl ⟨by rfl, ?_⟩) (by assumption) ?_
 rotate_left
 · intro w hSw; (try dsimp only at hSw); first | (go_simp; done) | (go_simp; with_reducible rfl)
 try go_frame
 refine wpAnyH_take (i := 3) (oi := ⟨some 17, .move (.tmp 0), 57, "ref.go:184", #[⟨2, .guard⟩], some (2, false)⟩) (v := undef) rfl (by kernel_rfl) (by kernel_rfl) (by kernel_rfl) (fun _ _ _ h => h) (Or.inr ⟨by rfl, rfl⟩) (by assumption) ?_
 try go_frame
 refine wpAnyH_take (i := 4) (oi := ⟨some 18, .call { callee := .value (.func 20), args := #[.tmp 17], argTypes := #[57] }, 62, "ref.go:184", #[⟨3, .data⟩, ⟨2, .chain⟩, ⟨2, .guard⟩], some (2, false)⟩) (v := undef) rfl (by kernel_rfl) (by kernel_rfl) (by kernel_rfl) (fun _ _ _ h => h) (Or.inr ⟨by rfl, rfl⟩) (by assumption) ?_
 try go_frame
 refine wpAnyH_take (i := 5) (oi := ⟨some 19, .field 62 (.tmp 18) 0, 3, "ref.go:184", #[⟨4, .data⟩, ⟨2, .guard⟩], some (2, false)⟩) (v := undef) rfl (by kernel_rfl) (by kernel_rfl) (by kernel_rfl) (fun _ _ _ h => h) (Or.inr ⟨by rfl, rfl⟩) (by assumption) ?_
 try go_frame
 refine wpAnyH_take (i := 6) (oi := ⟨some 20, .binOp .neq 3 (.tmp 19) (.const (.int .i64 2)) 3, 4, "ref.go:184", #[⟨5, .data⟩, ⟨2, .guard⟩], some (2, false)⟩) (v := undef) rfl (by kernel_rfl) (by kernel_rfl) (by kernel_rfl) (fun _ _ _ h => h) (Or.inr ⟨by rfl, rfl⟩) (by assumption) ?_
 try go_frame
 refine wpAnyH_take (i := 7) (oi := ⟨some 21, .pick (.tmp 16) (.const (.bool true)) (.tmp 20), 4, "ref.go:184", #[⟨2, .data⟩, ⟨6, .data⟩], none⟩) (v := ?_) rfl (by kernel_rfl) (by kernel_rfl) (by kernel_rfl) (fun _ _ _ h => h) (Or.inl ⟨by rfl, ?_⟩) (by assumption) ?_
 rotate_left
 · intro w hSw; (try dsimp only at hSw); first | (go_simp; done) | (go_simp; with_reducible rfl)
 try go_frame
 refine wpAnyH_take (i := 8) (oi := ⟨some 22, .move (.tmp 21), 4, "ref.go:184", #[⟨7, .data⟩, ⟨4, .chain⟩], none⟩) (v := ?_) rfl (by kernel_rfl) (by kernel_rfl) (by kernel_rfl) (fun _ _ _ h => h) (Or.inl ⟨by rfl, ?_⟩) (by assumption) ?_
 rotate_left
 · intro w hSw; (try dsimp only at hSw); first | (go_simp; done) | (go_simp; with_reducible rfl)
 try go_frame
 refine wpAnyH_take (i := 9) (oi := ⟨some 23, .move (.tmp 0), 57, "ref.go:184", #[⟨8, .guard⟩], some (8, false)⟩) (v := undef) rfl (by kernel_rfl) (by kernel_rfl) (by kernel_rfl) (fun _ _ _ h => h) (Or.inr ⟨by rfl, rfl⟩) (by assumption) ?_
 try go_frame
 refine wpAnyH_take (i := 10) (oi := ⟨some 24, .nilCheck (.tmp 23), 0, "ref.go:184", #[⟨9, .data⟩, ⟨8, .guard⟩], some (8, false)⟩) (v := undef) rfl (by kernel_rfl) (by kernel_rfl) (by kernel_rfl) (fun _ _ _ h => h) (Or.inr ⟨by rfl, rfl⟩) (by assumption) ?_
 try go_frame
 refine wpAnyH_take (i := 11) (oi := ⟨some 25, .fieldAddr 59 (.tmp 24) 0, 0, "ref.go:184", #[⟨10, .data⟩, ⟨8, .guard⟩], some (8, false)⟩) (v := undef) rfl (by kernel_rfl) (by kernel_rfl) (by kernel_rfl) (fun _ _ _ h => h) (Or.inr ⟨by rfl, rfl⟩) (by assumption) ?_
 try go_frame
 refine wpAnyH_take (i := 12) (oi := ⟨some 26, .load 54 (.tmp 25), 54, "ref.go:184", #[⟨11, .data⟩, ⟨8, .guard⟩], some (8, false)⟩) (v := undef) rfl (by kernel_rfl) (by kernel_rfl) (by kernel_rfl) (fun _ _ _ h => h) (Or.inr ⟨by rfl, rfl⟩) (by assumption) ?_
 try go_frame
 refine wpAnyH_take (i := 13) (oi := ⟨some 27, .move (.tmp 0), 57, "ref.go:184", #[⟨8, .guard⟩], some (8, false)⟩) (v := undef) rfl (by kernel_rfl) (by kernel_rfl) (by kernel_rfl) (fun _ _ _ h => h) (Or.inr ⟨by rfl, rfl⟩) (by assumption) ?_
 try go_frame
 refine wpAnyH_take (i := 14) (oi := ⟨some 28, .nilCheck (.tmp 27), 0, "ref.go:184", #[⟨13, .data⟩, ⟨8, .guard⟩], some (8, false)⟩) (v := undef) rfl (by kernel_rfl) (by kernel_rfl) (by kernel_rfl) (fun _ _ _ h => h) (Or.inr ⟨by rfl, rfl⟩) (by assumption) ?_
 try go_frame
 refine wpAnyH_take (i := 15) (oi := ⟨some 29, .fieldAddr 59 (.tmp 28) 1, 0, "ref.go:184", #[⟨14, .data⟩, ⟨8, .guard⟩], some (8, false)⟩) (v := undef) rfl (by kernel_rfl) (by kernel_rfl) (by kernel_rfl) (fun _ _ _ h => h) (Or.inr ⟨by rfl, rfl⟩) (by assumption) ?_
 try go_frame
 refine wpAnyH_take (i := 16) (oi := ⟨some 30, .load 3 (.tmp 29), 3, "ref.go:184", #[⟨15, .data⟩, ⟨8, .guard⟩], some (8, false)⟩) (v := undef) rfl (by kernel_rfl) (by kernel_rfl) (by kernel_rfl) (fun _ _ _ h => h) (Or.inr ⟨by rfl, rfl⟩) (by assumption) ?_
 try go_frame
 refine wpAnyH_take (i := 17) (oi := ⟨some 31, .binOp .add 3 (.tmp 30) (.const (.int .i64 1)) 3, 3, "ref.go:184", #[⟨16, .data⟩, ⟨8, .guard⟩], some (8, false)⟩) (v := undef) rfl (by kernel_rfl) (by kernel_rfl) (by kernel_rfl) (fun _ _ _ h => h) (Or.inr ⟨by rfl, rfl⟩) (by assumption) ?_
 try go_frame
 refine wpAnyH_take (i := 18) (oi := ⟨some 32, .indexAddr 54 (.tmp 26) (.tmp 31), 0, "ref.go:184", #[⟨12, .data⟩, ⟨17, .data⟩, ⟨8, .guard⟩], some (8, false)⟩) (v := undef) rfl (by kernel_rfl) (by kernel_rfl) (by kernel_rfl) (fun _ _ _ h => h) (Or.inr ⟨by rfl, rfl⟩) (by assumption) ?_
 try go_frame
 refine wpAnyH_take (i := 19) (oi := ⟨some 33, .fieldAddr 62 (.tmp 32) 0, 0, "ref.go:184", #[⟨18, .data⟩, ⟨8, .guard⟩], some (8, false)⟩) (v := undef) rfl (by kernel_rfl) (by kernel_rfl) (by kernel_rfl) (fun _ _ _ h => h) (Or.inr ⟨by rfl, rfl⟩) (by assumption) ?_
 try go_frame
 refine wpAnyH_take (i := 20) (oi := ⟨some 34, .load 3 (.tmp 33), 3, "ref.go:184", #[⟨19, .data⟩, ⟨8, .guard⟩], some (8, false)⟩) (v := undef) rfl (by kernel_rfl) (by kernel_rfl) (by kernel_rfl) (fun _ _ _ h => h) (Or.inr ⟨by rfl, rfl⟩) (by assumption) ?_
 try go_frame
 refine wpAnyH_take (i := 21) (oi := ⟨some 35, .binOp .neq 3 (.tmp 34) (.const (.int .i64 3)) 3, 4, "ref.go:184", #[⟨20, .data⟩, ⟨8, .guard⟩], some (8, false)⟩) (v := undef) rfl (by kernel_rfl) (by kernel_rfl) (by kernel_rfl) (fun _ _ _ h => h) (Or.inr ⟨by rfl, rfl⟩) (by assumption) ?_
 try go_frame
 refine wpAnyH_take (i := 22) (oi := ⟨some 36, .pick (.tmp 22) (.const (.bool true)) (.tmp 35), 4, "ref.go:184", #[⟨8, .data⟩, ⟨21, .data⟩], none⟩) (v := ?_) rfl (by kernel_rfl) (by kernel_rfl) (by kernel_rfl) (fun _ _ _ h => h) (Or.inl ⟨by rfl, ?_⟩) (by assumption) ?_
 rotate_left
 · intro w hSw; (try dsimp only at hSw); first | (go_simp; done) | (go_simp; with_reducible rfl)
 try go_frame
 refine wpAnyH_take (i := 23) (oi := ⟨some 37, .move (.tmp 36), 4, "ref.go:184", #[⟨22, .data⟩, ⟨8, .chain⟩], none⟩) (v := ?_) rfl (by kernel_rfl) (by kernel_rfl) (by kernel_rfl) (fun _ _ _ h => h) (Or.inl ⟨by rfl, ?_⟩) (by assumption) ?_
 rotate_left
 · intro w hSw; (try dsimp only at hSw); first | (go_simp; done) | (go_simp; with_reducible rfl)
 try go_frame
 refine wpAnyH_take (i := 24) (oi := ⟨some 38, .move (.tmp 0), 57, "ref.go:184", #[⟨23, .guard⟩], some (23, false)⟩) (v := undef) rfl (by kernel_rfl) (by kernel_rfl) (by kernel_rfl) (fun _ _ _ h => h) (Or.inr ⟨by rfl, rfl⟩) (by assumption) ?_
 try go_frame
 refine wpAnyH_take (i := 25) (oi := ⟨some 39, .nilCheck (.tmp 38), 0, "ref.go:184", #[⟨24, .data⟩, ⟨23, .guard⟩], some (23, false)⟩) (v := undef) rfl (by kernel_rfl) (by kernel_rfl) (by kernel_rfl) (fun _ _ _ h => h) (Or.inr ⟨by rfl, rfl⟩) (by assumption) ?_
 try go_frame
 refine wpAnyH_take (i := 26) (oi := ⟨some 40, .fieldAddr 59 (.tmp 39) 0, 0, "ref.go:184", #[⟨25, .data⟩, ⟨23, .guard⟩], some (23, false)⟩) (v := undef) rfl (by kernel_rfl) (by kernel_rfl) (by kernel_rfl) (fun _ _ _ h => h) (Or.inr ⟨by rfl, rfl⟩) (by assumption) ?_
 try go_frame
 refine wpAnyH_take (i := 27) (oi := ⟨some 41, .load 54 (.tmp 40), 54, "ref.go:184", #[⟨26, .data⟩, ⟨23, .guard⟩], some (23, false)⟩) (v := undef) rfl (by kernel_rfl) (by kernel_rfl) (by kernel_rfl) (fun _ _ _ h => h) (Or.inr ⟨by rfl, rfl⟩) (by assumption) ?_
 try go_frame
 refine wpAnyH_take (i := 28) (oi := ⟨some 42, .move (.tmp 0), 57, "ref.go:184", #[⟨23, .guard⟩], some (23, false)⟩) (v := undef) rfl (by kernel_rfl) (by kernel_rfl) (by kernel_rfl) (fun _ _ _ h => h) (Or.inr ⟨by rfl, rfl⟩) (by assumption) ?_
 try go_frame
 refine wpAnyH_take (i := 29) (oi := ⟨some 43, .nilCheck (.tmp 42), 0, "ref.go:184", #[⟨28, .data⟩, ⟨23, .guard⟩], some (23, false)⟩) (v := undef) rfl (by kernel_rfl) (by kernel_rfl) (by kernel_rfl) (fun _ _ _ h => h) (Or.inr ⟨by rfl, rfl⟩) (by assumption) ?_
 try go_frame
 refine wpAnyH_take (i := 30) (oi := ⟨some 44, .fieldAddr 59 (.tmp 43) 1, 0, "ref.go:184", #[⟨29, .data⟩, ⟨23, .guard⟩], some (23, false)⟩) (v := undef) rfl (by kernel_rfl) (by kernel_rfl) (by kernel_rfl) (fun _ _ _ h => h) (Or.inr ⟨by rfl, rfl⟩) (by assumption) ?_
 try go_frame
 refine wpAnyH_take (i := 31) (oi := ⟨some 45, .load 3 (.tmp 44), 3, "ref.go:184", #[⟨30, .data⟩, ⟨23, .guard⟩], some (23, false)⟩) (v := undef) rfl (by kernel_rfl) (by kernel_rfl) (by kernel_rfl) (fun _ _ _ h => h) (Or.inr ⟨by rfl, rfl⟩) (by assumption) ?_
 try go_frame
 refine wpAnyH_take (i := 32) (oi := ⟨some 46, .binOp .add 3 (.tmp 45) (.const (.int .i64 1)) 3, 3, "ref.go:184", #[⟨31, .data⟩, ⟨23, .guard⟩], some (23, false)⟩) (v := undef) rfl (by kernel_rfl) (by kernel_rfl) (by kernel_rfl) (fun _ _ _ h => h) (Or.inr ⟨by rfl, rfl⟩) (by assumption) ?_
 try go_frame
 refine wpAnyH_take (i := 33) (oi := ⟨some 47, .indexAddr 54 (.tmp 41) (.tmp 46), 0, "ref.go:184", #[⟨27, .data⟩, ⟨32, .data⟩, ⟨23, .guard⟩], some (23, false)⟩) (v := undef) rfl (by kernel_rfl) (by kernel_rfl) (by kernel_rfl) (fun _ _ _ h => h) (Or.inr ⟨by rfl, rfl⟩) (by assumption) ?_
 try go_frame
 refine wpAnyH_take (i := 34) (oi := ⟨some 48, .fieldAddr 62 (.tmp 47) 2, 0, "ref.go:184", #[⟨33, .data⟩, ⟨23, .guard⟩], some (23, false)⟩) (v := undef) rfl (by kernel_rfl) (by kernel_rfl) (by kernel_rfl) (fun _ _ _ h => h) (Or.inr ⟨by rfl, rfl⟩) (by assumption) ?_
 try go_frame
 refine wpAnyH_take (i := 35) (oi := ⟨some 49, .load 9 (.tmp 48), 9, "ref.go:184", #[⟨34, .data⟩, ⟨23, .guard⟩], some (23, false)⟩) (v := undef) rfl (by kernel_rfl) (by kernel_rfl) (by kernel_rfl) (fun _ _ _ h => h) (Or.inr ⟨by rfl, rfl⟩) (by assumption) ?_
 try go_frame
 refine wpAnyH_take (i := 36) (oi := ⟨some 50, .binOp .neq 9 (.tmp 49) (.const (.string ⟨#[58]⟩)) 9, 4, "ref.go:184", #[⟨35, .data⟩, ⟨23, .guard⟩], some (23, false)⟩) (v := undef) rfl (by kernel_rfl) (by kernel_rfl) (by kernel_rfl) (fun _ _ _ h => h) (Or.inr ⟨by rfl, rfl⟩) (by assumption) ?_
 try go_frame
 refine wpAnyH_take (i := 37) (oi := ⟨some 51, .pick (.tmp 37) (.const (.bool true)) (.tmp 50), 4, "ref.go:184", #[⟨23, .data⟩, ⟨36, .data⟩], none⟩) (v := ?_) rfl (by kernel_rfl) (by kernel_rfl) (by kernel_rfl) (fun _ _ _ h => h) (Or.inl ⟨by rfl, ?_⟩) (by assumption) ?_
 rotate_left
 · intro w hSw; (try dsimp only at hSw); first | (go_simp; done) | (go_simp; with_reducible rfl)
 try go_frame
 refine wpAnyH_done (by kernel_rfl) ?_ _
 go_wp2_with fail
 refine (HX.out _ ts d pa 1 (HR.out.ext HV.out.2.1.drew) HN.out.1 HN.out.2.1 (by omega) (by omega)).mono ?_
 intro e w4 h4
 obtain ⟨x, p, l, c, rfl, hY⟩ := h4.form
 have HY : Hid (RY w0 b W ts.length (d - 1) d (LvK (O n) 1 d ts) x (.slice p l c) (putX w4 W.heap.size x (.slice p l c))) := hY.put (Ext.toB HV.out.2.1.drew b) (by show _ < V3.drew.heap.size; simp; omega) hgW HN.out.2.2 (Nat.le_refl _)
 have HB4 : Hid (BlkX w4 W.heap.size tz (.slice none 0 0)) := (HV.out.1.ext (Ext.refl _).drew).extB hY.1 hgW
 have HB0 := HB4.out
 obtain ⟨qa, ⟨la0, la1, la2, la3, la4, la5, la6, la7, la8, la9, la10, la11, la12⟩, ga0, ga1, ga2, ga3, ga4, ga5, ga6, ga7, ga8, ga9, ga10, ga11, ga12⟩ := HB0
 clear h4 hY
 unfold aggX
 go_wp2_with fail
 show bodyPost Try.prog _ _ _ _ (putX w4 W.heap.size x (.slice p l c))
 rw [HXX.out]
 exact endR (HB4.out.put x (.slice p l c)) rfl HY.out.back (fun h0 h1 h2 h3 h4 h5 h6 h7 h8 h9 h10 h11 h12 => by simp [results, Try.results75, go_sem, h0, h1, h2, h3, h4, h5, h6, h7, h8, h9, h10, h11, h12, aggX])
set_option maxRecDepth 100000 in
theorem argument_b (w0 : World) (b n : Nat) (hX : ExC w0 b n n) (W : World) (ts : List Tk) (d : Nat) (pa : Int) (h : Rp w0 b W ts d pa 0) (hts : ts.length ≤ n) (hd4 : d ≤ 40) (ho : okP (hd ts).2.2.1 = true) (hk : (hd ts).1 ≠ 2) :
   Calls Try.prog 75 #[.pointer (some ⟨b, 0, none⟩)] W (RX w0 b W ts.length (d - 1) d (argm (frm (O n)) d ts)) := by
 have HR : Hid (Rp w0 b W ts d pa 0) := h
 have HN : Hid (ts.length ≤ n ∧ d ≤ 40 ∧ w0.heap.size ≤ W.heap.size) := ⟨hts, hd4, h.1.sz⟩
 have HX : Hid (ExC w0 b n n) := hX
 have hbW : b < W.heap.size := h.lt.1
 have hgW : W.heap.size ≠ b := by omega
 have c1 := fun V e => rt_any (h.ext (W' := V) e)
 unfold tkA at c1
 have kf0 := fun W => tkf0 (hd ts) W
 have kf2 := fun W => tkf2 (hd ts) W
 have cP := fun V => rparse_rf (hd ts).2.2.1 V (h.2.2.2.2.1 _ (hd_mem h.2.2.1.pos)).1
 have hdoc := argm_doc (n := n) hd4 h.2.2.1 hts
 have HXX : Hid (argm (frm (O n)) d ts = LvK (O n) 1 d ts) := by
   show _ = _
   rw [hdoc, if_neg]
   · rfl
   · rintro ⟨h2, _⟩; exact hk h2
 rw [ho] at cP
 have k2 : ((hd ts).1 != 2) = true := by simpa using hk
 clear ho hk
 obtain ⟨r, hr⟩ : ∃ r, prf (hd ts).2.2.1 = r := ⟨_, rfl⟩
 rw [hr] at cP
 have HRF : Hid (prf (hd ts).2.2.1 = r) := hr
 obtain ⟨tb, off, cc, nn, ii, hB, hnn, hpk⟩ := h.peek
 have HPK : Hid (Blk5 W b (.slice (some ⟨tb, off, none⟩) nn cc) (.int .i64 (ii : Int)) (.int .i64 (d : Int)) (.int .i64 pa) (.int .i64 0)) := hB
 clear hB hpk hr hts hd4 hX h hdoc
 obtain ⟨t, ht⟩ : ∃ t, hd ts = t := ⟨_, rfl⟩
 have HTT : Hid (hd ts = t) := ht
 rw [ht] at c1 kf0 kf2 cP k2
 clear ht
 go_enter Try.func75, Try.ntmps75
 go_wp2_with fail
 refine (c1 _ ((Ext.refl _).alloc _)).mono ?_
 rintro e w1 ⟨rfl, E1⟩
 have hw1 : W.heap.size + 1 ≤ w1.heap.size := by have := E1.size; simp at this; omega
 have HB1 : Hid (BlkX w1 W.heap.size tz (.slice none 0 0) ∧ Ext W w1) := ⟨BlkX.top rfl E1, ((Ext.refl _).alloc _).trans E1⟩
 clear E1
 go_wp2_with fail
 refine (cP _).mono ?_
 rintro e w2 ⟨rfl, E2⟩
 have hw2 : W.heap.size + 1 ≤ w2.heap.size := by have := E2.size; omega
 have HB2 : Hid (BlkX w2 W.heap.size tz (.slice none 0 0) ∧ Ext W w2) := ⟨HB1.out.1.ext E2, HB1.out.2.trans E2⟩
 clear E2 HB1
 go_wp2_with fail
 have E3 : Ext w2 (w2.alloc (.cells #[.int .i64 r.1, .int .i64 r.2.1, .bool r.2.2.1, .bool r.2.2.2] 26)) := (Ext.refl _).alloc _
 have B3 := blk_top (b := w2.heap.size) rfl (Ext.refl (w2.alloc (.cells #[.int .i64 r.1, .int .i64 r.2.1, .bool r.2.2.1, .bool r.2.2.2] 26)))
 have hz3 : w2.heap.size < (w2.alloc (.cells #[.int .i64 r.1, .int .i64 r.2.1, .bool r.2.2.1, .bool r.2.2.2] 26)).heap.size := by simp
 generalize w2.alloc (.cells #[.int .i64 r.1, .int .i64 r.2.1, .bool r.2.2.1, .bool r.2.2.2] 26) = V3 at *
 have HV : Hid (BlkX V3 W.heap.size tz (.slice none 0 0) ∧ Ext W V3 ∧ Blk V3 w2.heap.size (.int .i64 r.1) (.int .i64 r.2.1) (.bool r.2.2.1) (.bool r.2.2.2)) := ⟨HB2.out.1.ext E3, HB2.out.2.trans E3, B3⟩
 clear E3 B3 HB2
 refine wp_region_held_drew (S := (fun V => True)) (by kernel_rfl) ?_ (fun hHeld0 => ?_)
 · (all_goals trivial)
 refine wpAnyH_take (i := 0) (oi := ⟨some 14, .move (.tmp 4), 4, "ref.go:184", #[], none⟩) (v := ?_) rfl (by kernel_rfl) (by kernel_rfl) (by kernel_rfl) (fun _ _ _ h => h) (Or.inl ⟨by rfl, ?_⟩) (by assumption) ?_
 rotate_left
 · intro w hSw; (try dsimp only at hSw); first | (go_simp; done) | (go_simp; with_reducible rfl)
 try go_frame
 refine wpAnyH_take (i := 1) (oi := ⟨some 15, .unOp .not 4 (.tmp 14), 4, "ref.go:184", #[⟨0, .data⟩], none⟩) (v := ?_) rfl (by kernel_rfl) (by kernel_rfl) (by kernel_rfl) (fun _ _ _ h => h) (Or.inl ⟨by rfl, ?_⟩) (by assumption) ?_
 rotate_left
 · intro w hSw; (try dsimp only at hSw); first | (go_simp; done) | (go_simp; with_reducible rfl)
 try go_frame
 refine wpAnyH_take (i := 2) (oi := ⟨some 16, .move (.tmp 15), 4, "ref.go:184", #[⟨1, .data⟩], none⟩) (v := ?_) rfl (by kernel_rfl) (by kernel_rfl) (by kernel_rfl) (fun _ _ _ h => h) (Or.inl ⟨by rfl, ?_⟩) (by assumption) ?_
 rotate_left
 · intro w hSw; (try dsimp only at hSw); first | (go_simp; done) | (go_simp; with_reducible rfl)
 try go_frame
 refine wpAnyH_take (i := 3) (oi := ⟨some 17, .move (.tmp 0), 57, "ref.go:184", #[⟨2, .guard⟩], some (2, false)⟩) (v := ?_) rfl (by kernel_rfl) (by kernel_rfl) (by kernel_rfl) (fun _ _ _ h => h) (Or.inl ⟨by rfl, ?_⟩) (by assumption) ?_
 rotate_left
 · intro w hSw; (try dsimp only at hSw); first | (go_simp; done) | (go_simp; with_reducible rfl)
 try go_frame
 refine wpAnyH_ready (rs := [4]) (by kernel_rfl) (by simp) ?_
 refine AllReadyH.cons (o := ⟨some 18, .call { callee := .value (.func 20), args := #[.tmp 17], argTypes := #[57] }, 62, "ref.go:184", #[⟨3, .data⟩, ⟨2, .chain⟩, ⟨2, .guard⟩], some (2, false)⟩) rfl (fun K hK => ?_) AllReadyH.nil
 go_simp
 (go_at_call 20; refine Calls.mono (c1 _ (by with_reducible (repeat (first | assumption | exact HV.out.2.1 | exact Ext.refl _ | apply Ext.alloc | apply Ext.drew | apply Ext.drewN)))) ?_; rintro e w9 ⟨rfl, E9⟩; have X9 : Ext W w9 := Ext.trans (by with_reducible (repeat (first | assumption | exact HV.out.2.1 | exact Ext.refl _ | apply Ext.alloc | apply Ext.drew | apply Ext.drewN))) E9)
 try go_wp2_with fail
 refine hK.out _ _ ?_ (fun hHeld1 => ?_)
 · (try dsimp only); (all_goals trivial)
 clear hK K hHeld0
 try go_frame
 refine wpAnyH_take (i := 5) (oi := ⟨some 19, .field 62 (.tmp 18) 0, 3, "ref.go:184", #[⟨4, .data⟩, ⟨2, .guard⟩], some (2, false)⟩) (v := ?_) rfl (by kernel_rfl) (by kernel_rfl) (by kernel_rfl) (fun _ _ _ h => h) (Or.inl ⟨by rfl, ?_⟩) (by assumption) ?_
 rotate_left
 · intro w hSw; (try dsimp only at hSw); first | (go_simp; done) | (go_simp; with_reducible rfl)
 try go_frame
 refine wpAnyH_take (i := 6) (oi := ⟨some 20, .binOp .neq 3 (.tmp 19) (.const (.int .i64 2)) 3, 4, "ref.go:184", #[⟨5, .data⟩, ⟨2, .guard⟩], some (2, false)⟩) (v := ?_) rfl (by kernel_rfl) (by kernel_rfl) (by kernel_rfl) (fun _ _ _ h => h) (Or.inl ⟨by rfl, ?_⟩) (by assumption) ?_
 rotate_left
 · intro w hSw; (try dsimp only at hSw); first | (go_simp; done) | (go_simp; with_reducible rfl)
 try go_frame
 refine wpAnyH_take (i := 7) (oi := ⟨some 21, .pick (.tmp 16) (.const (.bool true)) (.tmp 20), 4, "ref.go:184", #[⟨2, .data⟩, ⟨6, .data⟩], none⟩) (v := ?_) rfl (by kernel_rfl) (by kernel_rfl) (by kernel_rfl) (fun _ _ _ h => h) (Or.inl ⟨by rfl, ?_⟩) (by assumption) ?_
 rotate_left
 · intro w hSw; (try dsimp only at hSw); first | (go_simp; done) | (go_simp; with_reducible rfl)
 try go_frame
 refine wpAnyH_take (i := 8) (oi := ⟨some 22, .move (.tmp 21), 4, "ref.go:184", #[⟨7, .data⟩, ⟨4, .chain⟩], none⟩) (v := ?_) rfl (by kernel_rfl) (by kernel_rfl) (by kernel_rfl) (fun _ _ _ h => h) (Or.inl ⟨by rfl, ?_⟩) (by assumption) ?_
 rotate_left
 · intro w hSw; (try dsimp only at hSw); first | (go_simp; done) | (go_simp; with_reducible rfl)
 try go_frame
 refine wpAnyH_take (i := 9) (oi := ⟨some 23, .move (.tmp 0), 57, "ref.go:184", #[⟨8, .guard⟩], some (8, false)⟩) (v := undef) rfl (by kernel_rfl) (by kernel_rfl) (by kernel_rfl) (fun _ _ _ h => h) (Or.inr ⟨by rfl, rfl⟩) (by assumption) ?_
 try go_frame
 refine wpAnyH_take (i := 10) (oi := ⟨some 24, .nilCheck (.tmp 23), 0, "ref.go:184", #[⟨9, .data⟩, ⟨8, .guard⟩], some (8, false)⟩) (v := undef) rfl (by kernel_rfl) (by kernel_rfl) (by kernel_rfl) (fun _ _ _ h => h) (Or.inr ⟨by rfl, rfl⟩) (by assumption) ?_
 try go_frame
 refine wpAnyH_take (i := 11) (oi := ⟨some 25, .fieldAddr 59 (.tmp 24) 0, 0, "ref.go:184", #[⟨10, .data⟩, ⟨8, .guard⟩], some (8, false)⟩) (v := undef) rfl (by kernel_rfl) (by kernel_rfl) (by kernel_rfl) (fun _ _ _ h => h) (Or.inr ⟨by rfl, rfl⟩) (by assumption) ?_
 try go_frame
 refine wpAnyH_take (i := 12) (oi := ⟨some 26, .load 54 (.tmp 25), 54, "ref.go:184", #[⟨11, .data⟩, ⟨8, .guard⟩], some (8, false)⟩) (v := undef) rfl (by kernel_rfl) (by kernel_rfl) (by kernel_rfl) (fun _ _ _ h => h) (Or.inr ⟨by rfl, rfl⟩) (by assumption) ?_
 try go_frame
 refine wpAnyH_take (i := 13) (oi := ⟨some 27, .move (.tmp 0), 57, "ref.go:184", #[⟨8, .guard⟩], some (8, false)⟩) (v := undef) rfl (by kernel_rfl) (by kernel_rfl) (by kernel_rfl) (fun _ _ _ h => h) (Or.inr ⟨by rfl, rfl⟩) (by assumption) ?_
 try go_frame
 refine wpAnyH_take (i := 14) (oi := ⟨some 28, .nilCheck (.tmp 27), 0, "ref.go:184", #[⟨13, .data⟩, ⟨8, .guard⟩], some (8, false)⟩) (v := undef) rfl (by kernel_rfl) (by kernel_rfl) (by kernel_rfl) (fun _ _ _ h => h) (Or.inr ⟨by rfl, rfl⟩) (by assumption) ?_
 try go_frame
 refine wpAnyH_take (i := 15) (oi := ⟨some 29, .fieldAddr 59 (.tmp 28) 1, 0, "ref.go:184", #[⟨14, .data⟩, ⟨8, .guard⟩], some (8, false)⟩) (v := undef) rfl (by kernel_rfl) (by kernel_rfl) (by kernel_rfl) (fun _ _ _ h => h) (Or.inr ⟨by rfl, rfl⟩) (by assumption) ?_
 try go_frame
 refine wpAnyH_take (i := 16) (oi := ⟨some 30, .load 3 (.tmp 29), 3, "ref.go:184", #[⟨15, .data⟩, ⟨8, .guard⟩], some (8, false)⟩) (v := undef) rfl (by kernel_rfl) (by kernel_rfl) (by kernel_rfl) (fun _ _ _ h => h) (Or.inr ⟨by rfl, rfl⟩) (by assumption) ?_
 try go_frame
 refine wpAnyH_take (i := 17) (oi := ⟨some 31, .binOp .add 3 (.tmp 30) (.const (.int .i64 1)) 3, 3, "ref.go:184", #[⟨16, .data⟩, ⟨8, .guard⟩], some (8, false)⟩) (v := undef) rfl (by kernel_rfl) (by kernel_rfl) (by kernel_rfl) (fun _ _ _ h => h) (Or.inr ⟨by rfl, rfl⟩) (by assumption) ?_
 try go_frame
 refine wpAnyH_take (i := 18) (oi := ⟨some 32, .indexAddr 54 (.tmp 26) (.tmp 31), 0, "ref.go:184", #[⟨12, .data⟩, ⟨17, .data⟩, ⟨8, .guard⟩], some (8, false)⟩) (v := undef) rfl (by kernel_rfl) (by kernel_rfl) (by kernel_rfl) (fun _ _ _ h => h) (Or.inr ⟨by rfl, rfl⟩) (by assumption) ?_
 try go_frame
 refine wpAnyH_take (i := 19) (oi := ⟨some 33, .fieldAddr 62 (.tmp 32) 0, 0, "ref.go:184", #[⟨18, .data⟩, ⟨8, .guard⟩], some (8, false)⟩) (v := undef) rfl (by kernel_rfl) (by kernel_rfl) (by kernel_rfl) (fun _ _ _ h => h) (Or.inr ⟨by rfl, rfl⟩) (by assumption) ?_
 try go_frame
 refine wpAnyH_take (i := 20) (oi := ⟨some 34, .load 3 (.tmp 33), 3, "ref.go:184", #[⟨19, .data⟩, ⟨8, .guard⟩], some (8, false)⟩) (v := undef) rfl (by kernel_rfl) (by kernel_rfl) (by kernel_rfl) (fun _ _ _ h => h) (Or.inr ⟨by rfl, rfl⟩) (by assumption) ?_
 try go_frame
 refine wpAnyH_take (i := 21) (oi := ⟨some 35, .binOp .neq 3 (.tmp 34) (.const (.int .i64 3)) 3, 4, "ref.go:184", #[⟨20, .data⟩, ⟨8, .guard⟩], some (8, false)⟩) (v := undef) rfl (by kernel_rfl) (by kernel_rfl) (by kernel_rfl) (fun _ _ _ h => h) (Or.inr ⟨by rfl, rfl⟩) (by assumption) ?_
 try go_frame
 refine wpAnyH_take (i := 22) (oi := ⟨some 36, .pick (.tmp 22) (.const (.bool true)) (.tmp 35), 4, "ref.go:184", #[⟨8, .data⟩, ⟨21, .data⟩], none⟩) (v := ?_) rfl (by kernel_rfl) (by kernel_rfl) (by kernel_rfl) (fun _ _ _ h => h) (Or.inl ⟨by rfl, ?_⟩) (by assumption) ?_
 rotate_left
 · intro w hSw; (try dsimp only at hSw); first | (go_simp; done) | (go_simp; with_reducible rfl)
 try go_frame
 refine wpAnyH_take (i := 23) (oi := ⟨some 37, .move (.tmp 36), 4, "ref.go:184", #[⟨22, .data⟩, ⟨8, .chain⟩], none⟩) (v := ?_) rfl (by kernel_rfl) (by kernel_rfl) (by kernel_rfl) (fun _ _ _ h => h) (Or.inl ⟨by rfl, ?_⟩) (by assumption) ?_
 rotate_left
 · intro w hSw; (try dsimp only at hSw); first | (go_simp; done) | (go_simp; with_reducible rfl)
 try go_frame
 refine wpAnyH_take (i := 24) (oi := ⟨some 38, .move (.tmp 0), 57, "ref.go:184", #[⟨23, .guard⟩], some (23, false)⟩) (v := undef) rfl (by kernel_rfl) (by kernel_rfl) (by kernel_rfl) (fun _ _ _ h => h) (Or.inr ⟨by rfl, rfl⟩) (by assumption) ?_
 try go_frame
 refine wpAnyH_take (i := 25) (oi := ⟨some 39, .nilCheck (.tmp 38), 0, "ref.go:184", #[⟨24, .data⟩, ⟨23, .guard⟩], some (23, false)⟩) (v := undef) rfl (by kernel_rfl) (by kernel_rfl) (by kernel_rfl) (fun _ _ _ h => h) (Or.inr ⟨by rfl, rfl⟩) (by assumption) ?_
 try go_frame
 refine wpAnyH_take (i := 26) (oi := ⟨some 40, .fieldAddr 59 (.tmp 39) 0, 0, "ref.go:184", #[⟨25, .data⟩, ⟨23, .guard⟩], some (23, false)⟩) (v := undef) rfl (by kernel_rfl) (by kernel_rfl) (by kernel_rfl) (fun _ _ _ h => h) (Or.inr ⟨by rfl, rfl⟩) (by assumption) ?_
 try go_frame
 refine wpAnyH_take (i := 27) (oi := ⟨some 41, .load 54 (.tmp 40), 54, "ref.go:184", #[⟨26, .data⟩, ⟨23, .guard⟩], some (23, false)⟩) (v := undef) rfl (by kernel_rfl) (by kernel_rfl) (by kernel_rfl) (fun _ _ _ h => h) (Or.inr ⟨by rfl, rfl⟩) (by assumption) ?_
 try go_frame
 refine wpAnyH_take (i := 28) (oi := ⟨some 42, .move (.tmp 0), 57, "ref.go:184", #[⟨23, .guard⟩], some (23, false)⟩) (v := undef) rfl (by kernel_rfl) (by kernel_rfl) (by kernel_rfl) (fun _ _ _ h => h) (Or.inr ⟨by rfl, rfl⟩) (by assumption) ?_
 try go_frame
 refine wpAnyH_take (i := 29) (oi := ⟨some 43, .nilCheck (.tmp 42), 0, "ref.go:184", #[⟨28, .data⟩, ⟨23, .guard⟩], some (23, false)⟩) (v := undef) rfl (by kernel_rfl) (by kernel_rfl) (by kernel_rfl) (fun _ _ _ h => h) (Or.inr ⟨by rfl, rfl⟩) (by assumption) ?_
 try go_frame
 refine wpAnyH_take (i := 30) (oi := ⟨some 44, .fieldAddr 59 (.tmp 43) 1, 0, "ref.go:184", #[⟨29, .data⟩, ⟨23, .guard⟩], some (23, false)⟩) (v := undef) rfl (by kernel_rfl) (by kernel_rfl) (by kernel_rfl) (fun _ _ _ h => h) (Or.inr ⟨by rfl, rfl⟩) (by assumption) ?_
 try go_frame
 refine wpAnyH_take (i := 31) (oi := ⟨some 45, .load 3 (.tmp 44), 3, "ref.go:184", #[⟨30, .data⟩, ⟨23, .guard⟩], some (23, false)⟩) (v := undef) rfl (by kernel_rfl) (by kernel_rfl) (by kernel_rfl) (fun _ _ _ h => h) (Or.inr ⟨by rfl, rfl⟩) (by assumption) ?_
 try go_frame
 refine wpAnyH_take (i := 32) (oi := ⟨some 46, .binOp .add 3 (.tmp 45) (.const (.int .i64 1)) 3, 3, "ref.go:184", #[⟨31, .data⟩, ⟨23, .guard⟩], some (23, false)⟩) (v := undef) rfl (by kernel_rfl) (by kernel_rfl) (by kernel_rfl) (fun _ _ _ h => h) (Or.inr ⟨by rfl, rfl⟩) (by assumption) ?_
 try go_frame
 refine wpAnyH_take (i := 33) (oi := ⟨some 47, .indexAddr 54 (.tmp 41) (.tmp 46), 0, "ref.go:184", #[⟨27, .data⟩, ⟨32, .data⟩, ⟨23, .guard⟩], some (23, false)⟩) (v := undef) rfl (by kernel_rfl) (by kernel_rfl) (by kernel_rfl) (fun _ _ _ h => h) (Or.inr ⟨by rfl, rfl⟩) (by assumption) ?_
 try go_frame
 refine wpAnyH_take (i := 34) (oi := ⟨some 48, .fieldAddr 62 (.tmp 47) 2, 0, "ref.go:184", #[⟨33, .data⟩, ⟨23, .guard⟩], some (23, false)⟩) (v := undef) rfl (by kernel_rfl) (by kernel_rfl) (by kernel_rfl) (fun _ _ _ h => h) (Or.inr ⟨by rfl, rfl⟩) (by assumption) ?_
 try go_frame
 refine wpAnyH_take (i := 35) (oi := ⟨some 49, .load 9 (.tmp 48), 9, "ref.go:184", #[⟨34, .data⟩, ⟨23, .guard⟩], some (23, false)⟩) (v := undef) rfl (by kernel_rfl) (by kernel_rfl) (by kernel_rfl) (fun _ _ _ h => h) (Or.inr ⟨by rfl, rfl⟩) (by assumption) ?_
 try go_frame
 refine wpAnyH_take (i := 36) (oi := ⟨some 50, .binOp .neq 9 (.tmp 49) (.const (.string ⟨#[58]⟩)) 9, 4, "ref.go:184", #[⟨35, .data⟩, ⟨23, .guard⟩], some (23, false)⟩) (v := undef) rfl (by kernel_rfl) (by kernel_rfl) (by kernel_rfl) (fun _ _ _ h => h) (Or.inr ⟨by rfl, rfl⟩) (by assumption) ?_
 try go_frame
 refine wpAnyH_take (i := 37) (oi := ⟨some 51, .pick (.tmp 37) (.const (.bool true)) (.tmp 50), 4, "ref.go:184", #[⟨23, .data⟩, ⟨36, .data⟩], none⟩) (v := ?_) rfl (by kernel_rfl) (by kernel_rfl) (by kernel_rfl) (fun _ _ _ h => h) (Or.inl ⟨by rfl, ?_⟩) (by assumption) ?_
 rotate_left
 · intro w hSw; (try dsimp only at hSw); first | (go_simp; done) | (go_simp; with_reducible rfl)
 try go_frame
 refine wpAnyH_done (by kernel_rfl) ?_ _
 go_wp2_with fail
 refine (HX.out _ ts d pa 1 (HR.out.ext X9) HN.out.1 HN.out.2.1 (by omega) (by omega)).mono ?_
 intro e w4 h4
 obtain ⟨x, p, l, c, rfl, hY⟩ := h4.form
 have HY : Hid (RY w0 b W ts.length (d - 1) d (LvK (O n) 1 d ts) x (.slice p l c) (putX w4 W.heap.size x (.slice p l c))) := hY.put (Ext.toB X9 b) (by have := ((Ext.refl V3).drew.trans E9).size; omega) hgW HN.out.2.2 (Nat.le_refl _)
 have HB4 : Hid (BlkX w4 W.heap.size tz (.slice none 0 0)) := (HV.out.1.ext ((Ext.refl V3).drew.trans E9)).extB hY.1 hgW
 have HB0 := HB4.out
 obtain ⟨qa, ⟨la0, la1, la2, la3, la4, la5, la6, la7, la8, la9, la10, la11, la12⟩, ga0, ga1, ga2, ga3, ga4, ga5, ga6, ga7, ga8, ga9, ga10, ga11, ga12⟩ := HB0
 clear h4 hY
 unfold aggX
 go_wp2_with fail
 show bodyPost Try.prog _ _ _ _ (putX w4 W.heap.size x (.slice p l c))
 rw [HXX.out]
 exact endR (HB4.out.put x (.slice p l c)) rfl HY.out.back (fun h0 h1 h2 h3 h4 h5 h6 h7 h8 h9 h10 h11 h12 => by simp [results, Try.results75, go_sem, h0, h1, h2, h3, h4, h5, h6, h7, h8, h9, h10, h11, h12, aggX])
set_option maxRecDepth 100000 in
theorem argument_c (w0 : World) (b n : Nat) (hX : ExC w0 b n n) (W : World) (ts : List Tk) (d : Nat) (pa : Int) (h : Rp w0 b W ts d pa 0) (hts : ts.length ≤ n) (hd4 : d ≤ 40) (ho : okP (hd ts).2.2.1 = true) (hk : (hd ts).1 = 2) (hn3 : (hd ts.tail).1 ≠ 3) :
   Calls Try.prog 75 #[.pointer (some ⟨b, 0, none⟩)] W (RX w0 b W ts.length (d - 1) d (argm (frm (O n)) d ts)) := by
 have HR : Hid (Rp w0 b W ts d pa 0) := h
 have HN : Hid (ts.length ≤ n ∧ d ≤ 40 ∧ w0.heap.size ≤ W.heap.size) := ⟨hts, hd4, h.1.sz⟩
 have HX : Hid (ExC w0 b n n) := hX
 have hbW : b < W.heap.size := h.lt.1
 have hgW : W.heap.size ≠ b := by omega
 have c1 := fun V e => rt_any (h.ext (W' := V) e)
 unfold tkA at c1
 have kf0 := fun W => tkf0 (hd ts) W
 have kf2 := fun W => tkf2 (hd ts) W
 have cP := fun V => rparse_rf (hd ts).2.2.1 V (h.2.2.2.2.1 _ (hd_mem h.2.2.1.pos)).1
 have hdoc := argm_doc (n := n) hd4 h.2.2.1 hts
 have HXX : Hid (argm (frm (O n)) d ts = LvK (O n) 1 d ts) := by
   show _ = _
   rw [hdoc, if_neg]
   · rfl
   · rintro ⟨_, _, h3⟩; exact hn3 (isSg_k h3).1
 have hl2 : 2 ≤ ts.length := by have h1 := h.2.2.1.tail (by rw [hk]; decide); have h2 := h1.1.pos; have h3 := h1.2; omega
 rw [ho] at cP
 have k2 : ((hd ts).1 != 2) = false := by rw [hk]; rfl
 have n3 : ((hd ts.tail).1 != 3) = true := by simpa using hn3
 clear ho hk hn3
 obtain ⟨r, hr⟩ : ∃ r, prf (hd ts).2.2.1 = r := ⟨_, rfl⟩
 rw [hr] at cP
 have HRF : Hid (prf (hd ts).2.2.1 = r) := hr
 obtain ⟨tb, off, cc, nn, ii, hB, hnn, hpk⟩ := h.peek
 have HPK : Hid (Blk5 W b (.slice (some ⟨tb, off, none⟩) nn cc) (.int .i64 (ii : Int)) (.int .i64 (d : Int)) (.int .i64 pa) (.int .i64 0)) := hB
 obtain ⟨u, hu⟩ : ∃ u, hd ts.tail = u := ⟨_, rfl⟩
 have HUU : Hid (hd ts.tail = u ∧ ii + 1 < nn ∧ tb < w0.heap.size ∧ tb ≠ b ∧ ∀ V, Ext W V → V.cell? ⟨tb, off + (ii + 1) * 5, none⟩ = some (.int .i64 u.1) ∧ V.cell? ⟨tb, off + (ii + 1) * 5 + 2, none⟩ = some (.string (bs u.2.2.1))) := by
   have := hpk hl2
   rw [hu] at this
   exact ⟨hu, this⟩
 have hii : (ii : Int) + 1 < (nn : Int) := by have := HUU.out.2.1; omega
 have hit : ((ii : Int) + 1).toNat = ii + 1 := by omega
 have hiw : IntKind.i64.wrap ((ii : Int) + 1) = (ii : Int) + 1 := by rw [IntKind.wrap_i64]; omega
 have hi0 : 0 ≤ (ii : Int) + 1 := by omega
 rw [hu] at n3
 clear hu
 clear hl2
 clear hB hpk hr hts hd4 hX h hdoc
 obtain ⟨t, ht⟩ : ∃ t, hd ts = t := ⟨_, rfl⟩
 have HTT : Hid (hd ts = t) := ht
 rw [ht] at c1 kf0 kf2 cP k2
 clear ht
 go_enter Try.func75, Try.ntmps75
 go_wp2_with fail
 refine (c1 _ ((Ext.refl _).alloc _)).mono ?_
 rintro e w1 ⟨rfl, E1⟩
 have hw1 : W.heap.size + 1 ≤ w1.heap.size := by have := E1.size; simp at this; omega
 have HB1 : Hid (BlkX w1 W.heap.size tz (.slice none 0 0) ∧ Ext W w1) := ⟨BlkX.top rfl E1, ((Ext.refl _).alloc _).trans E1⟩
 clear E1
 go_wp2_with fail
 refine (cP _).mono ?_
 rintro e w2 ⟨rfl, E2⟩
 have hw2 : W.heap.size + 1 ≤ w2.heap.size := by have := E2.size; omega
 have HB2 : Hid (BlkX w2 W.heap.size tz (.slice none 0 0) ∧ Ext W w2) := ⟨HB1.out.1.ext E2, HB1.out.2.trans E2⟩
 clear E2 HB1
 go_wp2_with fail
 have E3 : Ext w2 (w2.alloc (.cells #[.int .i64 r.1, .int .i64 r.2.1, .bool r.2.2.1, .bool r.2.2.2] 26)) := (Ext.refl _).alloc _
 have B3 := blk_top (b := w2.heap.size) rfl (Ext.refl (w2.alloc (.cells #[.int .i64 r.1, .int .i64 r.2.1, .bool r.2.2.1, .bool r.2.2.2] 26)))
 have hz3 : w2.heap.size < (w2.alloc (.cells #[.int .i64 r.1, .int .i64 r.2.1, .bool r.2.2.1, .bool r.2.2.2] 26)).heap.size := by simp
 generalize w2.alloc (.cells #[.int .i64 r.1, .int .i64 r.2.1, .bool r.2.2.1, .bool r.2.2.2] 26) = V3 at *
 have HV : Hid (BlkX V3 W.heap.size tz (.slice none 0 0) ∧ Ext W V3 ∧ Blk V3 w2.heap.size (.int .i64 r.1) (.int .i64 r.2.1) (.bool r.2.2.1) (.bool r.2.2.2)) := ⟨HB2.out.1.ext E3, HB2.out.2.trans E3, B3⟩
 clear E3 B3 HB2
 have mkS : Hid (∀ V, Ext W V → V.cell? ⟨b, 0, none⟩ = some (.slice (some ⟨tb, off, none⟩) nn cc) ∧ V.cell? ⟨b, 1, none⟩ = some (.int .i64 (ii : Int)) ∧ V.cell? ⟨tb, off + (ii + 1) * 5, none⟩ = some (.int .i64 u.1) ∧ V.cell? ⟨tb, off + (ii + 1) * 5 + 2, none⟩ = some (.string (bs u.2.2.1))) := fun V e => by
   obtain ⟨_, ⟨q0, q1, _⟩, _⟩ := HPK.out.ext e
   exact ⟨q0, q1, (HUU.out.2.2.2.2 V e).1, (HUU.out.2.2.2.2 V e).2⟩
 refine wp_region_held_drew (S := (fun V => V.cell? ⟨b, 0, none⟩ = some (.slice (some ⟨tb, off, none⟩) nn cc) ∧ V.cell? ⟨b, 1, none⟩ = some (.int .i64 (ii : Int)) ∧ V.cell? ⟨tb, off + (ii + 1) * 5, none⟩ = some (.int .i64 u.1) ∧ V.cell? ⟨tb, off + (ii + 1) * 5 + 2, none⟩ = some (.string (bs u.2.2.1)))) (by kernel_rfl) ?_ (fun hHeld0 => ?_)
 · (refine mkS.out _ ?_; ((with_reducible (repeat (first | assumption | exact HV.out.2.1 | exact Ext.refl _ | apply Ext.alloc | apply Ext.drew | apply Ext.drewN))); done))
 refine wpAnyH_take (i := 0) (oi := ⟨some 14, .move (.tmp 4), 4, "ref.go:184", #[], none⟩) (v := ?_) rfl (by kernel_rfl) (by kernel_rfl) (by kernel_rfl) (fun _ _ _ h => h) (Or.inl ⟨by rfl, ?_⟩) (by assumption) ?_
 rotate_left
 · intro w hSw; (try dsimp only at hSw); first | (go_simp; done) | (go_simp; with_reducible rfl)
 try go_frame
 refine wpAnyH_take (i := 1) (oi := ⟨some 15, .unOp .not 4 (.tmp 14), 4, "ref.go:184", #[⟨0, .data⟩], none⟩) (v := ?_) rfl (by kernel_rfl) (by kernel_rfl) (by kernel_rfl) (fun _ _ _ h => h) (Or.inl ⟨by rfl, ?_⟩) (by assumption) ?_
 rotate_left
 · intro w hSw; (try dsimp only at hSw); first | (go_simp; done) | (go_simp; with_reducible rfl)
 try go_frame
 refine wpAnyH_take (i := 2) (oi := ⟨some 16, .move (.tmp 15), 4, "ref.go:184", #[⟨1, .data⟩], none⟩) (v := ?_) rfl (by kernel_rfl) (by kernel_rfl) (by kernel_rfl) (fun _ _ _ h => h) (Or.inl ⟨by rfl, ?_⟩) (by assumption) ?_
 rotate_left
 · intro w hSw; (try dsimp only at hSw); first | (go_simp; done) | (go_simp; with_reducible rfl)
 try go_frame
 refine wpAnyH_take (i := 3) (oi := ⟨some 17, .move (.tmp 0), 57, "ref.go:184", #[⟨2, .guard⟩], some (2, false)⟩) (v := ?_) rfl (by kernel_rfl) (by kernel_rfl) (by kernel_rfl) (fun _ _ _ h => h) (Or.inl ⟨by rfl, ?_⟩) (by assumption) ?_
 rotate_left
 · intro w hSw; (try dsimp only at hSw); first | (go_simp; done) | (go_simp; with_reducible rfl)
 try go_frame
 refine wpAnyH_ready (rs := [4]) (by kernel_rfl) (by simp) ?_
 refine AllReadyH.cons (o := ⟨some 18, .call { callee := .value (.func 20), args := #[.tmp 17], argTypes := #[57] }, 62, "ref.go:184", #[⟨3, .data⟩, ⟨2, .chain⟩, ⟨2, .guard⟩], some (2, false)⟩) rfl (fun K hK => ?_) AllReadyH.nil
 go_simp
 (go_at_call 20; refine Calls.mono (c1 _ (by with_reducible (repeat (first | assumption | exact HV.out.2.1 | exact Ext.refl _ | apply Ext.alloc | apply Ext.drew | apply Ext.drewN)))) ?_; rintro e w9 ⟨rfl, E9⟩; have X9 : Ext W w9 := Ext.trans (by with_reducible (repeat (first | assumption | exact HV.out.2.1 | exact Ext.refl _ | apply Ext.alloc | apply Ext.drew | apply Ext.drewN))) E9)
 try go_wp2_with fail
 refine hK.out _ _ ?_ (fun hHeld1 => ?_)
 · (try dsimp only); (refine mkS.out _ ?_; ((with_reducible (repeat (first | assumption | exact HV.out.2.1 | exact Ext.refl _ | apply Ext.alloc | apply Ext.drew | apply Ext.drewN))); done))
 clear hK K hHeld0
 try go_frame
 refine wpAnyH_take (i := 5) (oi := ⟨some 19, .field 62 (.tmp 18) 0, 3, "ref.go:184", #[⟨4, .data⟩, ⟨2, .guard⟩], some (2, false)⟩) (v := ?_) rfl (by kernel_rfl) (by kernel_rfl) (by kernel_rfl) (fun _ _ _ h => h) (Or.inl ⟨by rfl, ?_⟩) (by assumption) ?_
 rotate_left
 · intro w hSw; (try dsimp only at hSw); first | (go_simp; done) | (go_simp; with_reducible rfl)
 try go_frame
 refine wpAnyH_take (i := 6) (oi := ⟨some 20, .binOp .neq 3 (.tmp 19) (.const (.int .i64 2)) 3, 4, "ref.go:184", #[⟨5, .data⟩, ⟨2, .guard⟩], some (2, false)⟩) (v := ?_) rfl (by kernel_rfl) (by kernel_rfl) (by kernel_rfl) (fun _ _ _ h => h) (Or.inl ⟨by rfl, ?_⟩) (by assumption) ?_
 rotate_left
 · intro w hSw; (try dsimp only at hSw); first | (go_simp; done) | (go_simp; with_reducible rfl)
 try go_frame
 refine wpAnyH_take (i := 7) (oi := ⟨some 21, .pick (.tmp 16) (.const (.bool true)) (.tmp 20), 4, "ref.go:184", #[⟨2, .data⟩, ⟨6, .data⟩], none⟩) (v := ?_) rfl (by kernel_rfl) (by kernel_rfl) (by kernel_rfl) (fun _ _ _ h => h) (Or.inl ⟨by rfl, ?_⟩) (by assumption) ?_
 rotate_left
 · intro w hSw; (try dsimp only at hSw); first | (go_simp; done) | (go_simp; with_reducible rfl)
 try go_frame
 refine wpAnyH_take (i := 8) (oi := ⟨some 22, .move (.tmp 21), 4, "ref.go:184", #[⟨7, .data⟩, ⟨4, .chain⟩], none⟩) (v := ?_) rfl (by kernel_rfl) (by kernel_rfl) (by kernel_rfl) (fun _ _ _ h => h) (Or.inl ⟨by rfl, ?_⟩) (by assumption) ?_
 rotate_left
 · intro w hSw; (try dsimp only at hSw); first | (go_simp; done) | (go_simp; with_reducible rfl)
 try go_frame
 refine wpAnyH_take (i := 9) (oi := ⟨some 23, .move (.tmp 0), 57, "ref.go:184", #[⟨8, .guard⟩], some (8, false)⟩) (v := ?_) rfl (by kernel_rfl) (by kernel_rfl) (by kernel_rfl) (fun _ _ _ h => h) (Or.inl ⟨by rfl, ?_⟩) (by assumption) ?_
 rotate_left
 · intro w hSw; (try dsimp only at hSw); first | (go_simp; done) | (go_simp; with_reducible rfl)
 try go_frame
 refine wpAnyH_take (i := 10) (oi := ⟨some 24, .nilCheck (.tmp 23), 0, "ref.go:184", #[⟨9, .data⟩, ⟨8, .guard⟩], some (8, false)⟩) (v := ?_) rfl (by kernel_rfl) (by kernel_rfl) (by kernel_rfl) (fun _ _ _ h => h) (Or.inl ⟨by rfl, ?_⟩) (by assumption) ?_
 rotate_left
 · intro w hSw; (try dsimp only at hSw); first | (go_simp; done) | (go_simp; with_reducible rfl)
 try go_frame
 refine wpAnyH_take (i := 11) (oi := ⟨some 25, .fieldAddr 59 (.tmp 24) 0, 0, "ref.go:184", #[⟨10, .data⟩, ⟨8, .guard⟩], some (8, false)⟩) (v := ?_) rfl (by kernel_rfl) (by kernel_rfl) (by kernel_rfl) (fun _ _ _ h => h) (Or.inl ⟨by rfl, ?_⟩) (by assumption) ?_
 rotate_left
 · intro w hSw; (try dsimp only at hSw); first | (go_simp; done) | (go_simp; with_reducible rfl)
 try go_frame
 refine wpAnyH_take (i := 12) (oi := ⟨some 26, .load 54 (.tmp 25), 54, "ref.go:184", #[⟨11, .data⟩, ⟨8, .guard⟩], some (8, false)⟩) (v := ?_) rfl (by kernel_rfl) (by kernel_rfl) (by kernel_rfl) (fun _ _ _ h => h) (Or.inl ⟨by rfl, ?_⟩) (by assumption) ?_
 rotate_left
 · intro w hSw; (try dsimp only at hSw); first | (go_simp; done) | (go_simp; with_reducible rfl)
 try go_frame
 refine wpAnyH_take (i := 13) (oi := ⟨some 27, .move (.tmp 0), 57, "ref.go:184", #[⟨8, .guard⟩], some (8, false)⟩) (v := ?_) rfl (by kernel_rfl) (by kernel_rfl) (by kernel_rfl) (fun _ _ _ h => h) (Or.inl ⟨by rfl, ?_⟩) (by assumption) ?_
 rotate_left
 · intro w hSw; (try dsimp only at hSw); first | (go_simp; done) | (go_simp; with_reducible rfl)
 try go_frame
 refine wpAnyH_take (i := 14) (oi := ⟨some 28, .nilCheck (.tmp 27), 0, "ref.go:184", #[⟨13, .data⟩, ⟨8, .guard⟩], some (8, false)⟩) (v := ?_) rfl (by kernel_rfl) (by kernel_rfl) (by kernel_rfl) (fun _ _ _ h => h) (Or.inl ⟨by rfl, ?_⟩) (by assumption) ?_
 rotate_left
 · intro w hSw; (try dsimp only at hSw); first | (go_simp; done) | (go_simp; with_reducible rfl)
 try go_frame
 refine wpAnyH_take (i := 15) (oi := ⟨some 29, .fieldAddr 59 (.tmp 28) 1, 0, "ref.go:184", #[⟨14, .data⟩, ⟨8, .guard⟩], some (8, false)⟩) (v := ?_) rfl (by kernel_rfl) (by kernel_rfl) (by kernel_rfl) (fun _ _ _ h => h) (Or.inl ⟨by rfl, ?_⟩) (by assumption) ?_
 rotate_left
 · intro w hSw; (try dsimp only at hSw); first | (go_simp; done) | (go_simp; with_reducible rfl)
 try go_frame
 refine wpAnyH_take (i := 16) (oi := ⟨some 30, .load 3 (.tmp 29), 3, "ref.go:184", #[⟨15, .data⟩, ⟨8, .guard⟩], some (8, false)⟩) (v := ?_) rfl (by kernel_rfl) (by kernel_rfl) (by kernel_rfl) (fun _ _ _ h => h) (Or.inl ⟨by rfl, ?_⟩) (by assumption) ?_
 rotate_left
 · intro w hSw; (try dsimp only at hSw); first | (go_simp; done) | (go_simp; with_reducible rfl)
 try go_frame
 refine wpAnyH_take (i := 17) (oi := ⟨some 31, .binOp .add 3 (.tmp 30) (.const (.int .i64 1)) 3, 3, "ref.go:184", #[⟨16, .data⟩, ⟨8, .guard⟩], some (8, false)⟩) (v := ?_) rfl (by kernel_rfl) (by kernel_rfl) (by kernel_rfl) (fun _ _ _ h => h) (Or.inl ⟨by rfl, ?_⟩) (by assumption) ?_
 rotate_left
 · intro w hSw; (try dsimp only at hSw); first | (go_simp; done) | (go_simp; with_reducible rfl)
 try go_frame
 refine wpAnyH_take (i := 18) (oi := ⟨some 32, .indexAddr 54 (.tmp 26) (.tmp 31), 0, "ref.go:184", #[⟨12, .data⟩, ⟨17, .data⟩, ⟨8, .guard⟩], some (8, false)⟩) (v := ?_) rfl (by kernel_rfl) (by kernel_rfl) (by kernel_rfl) (fun _ _ _ h => h) (Or.inl ⟨by rfl, ?_⟩) (by assumption) ?_
 rotate_left
 · intro w hSw; (try dsimp only at hSw); first | (go_simp; done) | (go_simp; with_reducible rfl)
 try go_frame
 refine wpAnyH_take (i := 19) (oi := ⟨some 33, .fieldAddr 62 (.tmp 32) 0, 0, "ref.go:184", #[⟨18, .data⟩, ⟨8, .guard⟩], some (8, false)⟩) (v := ?_) rfl (by kernel_rfl) (by kernel_rfl) (by kernel_rfl) (fun _ _ _ h => h) (Or.inl ⟨by rfl, ?_⟩) (by assumption) ?_
 rotate_left
 · intro w hSw; (try dsimp only at hSw); first | (go_simp; done) | (go_simp; with_reducible rfl)
 try go_frame
 refine wpAnyH_take (i := 20) (oi := ⟨some 34, .load 3 (.tmp 33), 3, "ref.go:184", #[⟨19, .data⟩, ⟨8, .guard⟩], some (8, false)⟩) (v := ?_) rfl (by kernel_rfl) (by kernel_rfl) (by kernel_rfl) (fun _ _ _ h => h) (Or.inl ⟨by rfl, ?_⟩) (by assumption) ?_
 rotate_left
 · intro w hSw; (try dsimp only at hSw); first | (go_simp; done) | (go_simp; with_reducible rfl)
 try go_frame
 refine wpAnyH_take (i := 21) (oi := ⟨some 35, .binOp .neq 3 (.tmp 34) (.const (.int .i64 3)) 3, 4, "ref.go:184", #[⟨20, .data⟩, ⟨8, .guard⟩], some (8, false)⟩) (v := ?_) rfl (by kernel_rfl) (by kernel_rfl) (by kernel_rfl) (fun _ _ _ h => h) (Or.inl ⟨by rfl, ?_⟩) (by assumption) ?_
 rotate_left
 · intro w hSw; (try dsimp only at hSw); first | (go_simp; done) | (go_simp; with_reducible rfl)
 try go_frame
 refine wpAnyH_take (i := 22) (oi := ⟨some 36, .pick (.tmp 22) (.const (.bool true)) (.tmp 35), 4, "ref.go:184", #[⟨8, .data⟩, ⟨21, .data⟩], none⟩) (v := ?_) rfl (by kernel_rfl) (by kernel_rfl) (by kernel_rfl) (fun _ _ _ h => h) (Or.inl ⟨by rfl, ?_⟩) (by assumption) ?_
 rotate_left
 · intro w hSw; (try dsimp only at hSw); first | (go_simp; done) | (go_simp; with_reducible rfl)
 try go_frame
 refine wpAnyH_take (i := 23) (oi := ⟨some 37, .move (.tmp 36), 4, "ref.go:184", #[⟨22, .data⟩, ⟨8, .chain⟩], none⟩) (v := ?_) rfl (by kernel_rfl) (by kernel_rfl) (by kernel_rfl) (fun _ _ _ h => h) (Or.inl ⟨by rfl, ?_⟩) (by assumption) ?_
 rotate_left
 · intro w hSw; (try dsimp only at hSw); first | (go_simp; done) | (go_simp; with_reducible rfl)
 try go_frame
 refine wpAnyH_take (i := 24) (oi := ⟨some 38, .move (.tmp 0), 57, "ref.go:184", #[⟨23, .guard⟩], some (23, false)⟩) (v := undef) rfl (by kernel_rfl) (by kernel_rfl) (by kernel_rfl) (fun _ _ _ h => h) (Or.inr ⟨by rfl, rfl⟩) (by assumption) ?_
 try go_frame
 refine wpAnyH_take (i := 25) (oi := ⟨some 39, .nilCheck (.tmp 38), 0, "ref.go:184", #[⟨24, .data⟩, ⟨23, .guard⟩], some (23, false)⟩) (v := undef) rfl (by kernel_rfl) (by kernel_rfl) (by kernel_rfl) (fun _ _ _ h => h) (Or.inr ⟨by rfl, rfl⟩) (by assumption) ?_
 try go_frame
 refine wpAnyH_take (i := 26) (oi := ⟨some 40, .fieldAddr 59 (.tmp 39) 0, 0, "ref.go:184", #[⟨25, .data⟩, ⟨23, .guard⟩], some (23, false)⟩) (v := undef) rfl (by kernel_rfl) (by kernel_rfl) (by kernel_rfl) (fun _ _ _ h => h) (Or.inr ⟨by rfl, rfl⟩) (by assumption) ?_
 try go_frame
 refine wpAnyH_take (i := 27) (oi := ⟨some 41, .load 54 (.tmp 40), 54, "ref.go:184", #[⟨26, .data⟩, ⟨23, .guard⟩], some (23, false)⟩) (v := undef) rfl (by kernel_rfl) (by kernel_rfl) (by kernel_rfl) (fun _ _ _ h => h) (Or.inr ⟨by rfl, rfl⟩) (by assumption) ?_
 try go_frame
 refine wpAnyH_take (i := 28) (oi := ⟨some 42, .move (.tmp 0), 57, "ref.go:184", #[⟨23, .guard⟩], some (23, false)⟩) (v := undef) rfl (by kernel_rfl) (by kernel_rfl) (by kernel_rfl) (fun _ _ _ h => h) (Or.inr ⟨by rfl, rfl⟩) (by assumption) ?_
 try go_frame
 refine wpAnyH_take (i := 29) (oi := ⟨some 43, .nilCheck (.tmp 42), 0, "ref.go:184", #[⟨28, .data⟩, ⟨23, .guard⟩], some (23, false)⟩) (v := undef) rfl (by kernel_rfl) (by kernel_rfl) (by kernel_rfl) (fun _ _ _ h => h) (Or.inr ⟨by rfl, rfl⟩) (by assumption) ?_
 try go_frame
 refine wpAnyH_take (i := 30) (oi := ⟨some 44, .fieldAddr 59 (.tmp 43) 1, 0, "ref.go:184", #[⟨29, .data⟩, ⟨23, .guard⟩], some (23, false)⟩) (v := undef) rfl (by kernel_rfl) (by kernel_rfl) (by kernel_rfl) (fun _ _ _ h => h) (Or.inr ⟨by rfl, rfl⟩) (by assumption) ?_
 try go_frame
 refine wpAnyH_take (i := 31) (oi := ⟨some 45, .load 3 (.tmp 44), 3, "ref.go:184", #[⟨30, .data⟩, ⟨23, .guard⟩], some (23, false)⟩) (v := undef) rfl (by kernel_rfl) (by kernel_rfl) (by kernel_rfl) (fun _ _ _ h => h) (Or.inr ⟨by rfl, rfl⟩) (by assumption) ?_
 try go_frame
 refine wpAnyH_take (i := 32) (oi := ⟨some 46, .binOp .add 3 (.tmp 45) (.const (.int .i64 1)) 3, 3, "ref.go:184", #[⟨31, .data⟩, ⟨23, .guard⟩], some (23, false)⟩) (v := undef) rfl (by kernel_rfl) (by kernel_rfl) (by kernel_rfl) (fun _ _ _ h => h) (Or.inr ⟨by rfl, rfl⟩) (by assumption) ?_
 try go_frame
 refine wpAnyH_take (i := 33) (oi := ⟨some 47, .indexAddr 54 (.tmp 41) (.tmp 46), 0, "ref.go:184", #[⟨27, .data⟩, ⟨32, .data⟩, ⟨23, .guard⟩], some (23, false)⟩) (v := undef) rfl (by kernel_rfl) (by kernel_rfl) (by kernel_rfl) (fun _ _ _ h => h) (Or.inr ⟨by rfl, rfl⟩) (by assumption) ?_
 try go_frame
 refine wpAnyH_take (i := 34) (oi := ⟨some 48, .fieldAddr 62 (.tmp 47) 2, 0, "ref.go:184", #[⟨33, .data⟩, ⟨23, .guard⟩], some (23, false)⟩) (v := undef) rfl (by kernel_rfl) (by kernel_rfl) (by kernel_rfl) (fun _ _ _ h => h) (Or.inr ⟨by rfl, rfl⟩) (by assumption) ?_
 try go_frame
 refine wpAnyH_take (i := 35) (oi := ⟨some 49, .load 9 (.tmp 48), 9, "ref.go:184", #[⟨34, .data⟩, ⟨23, .guard⟩], some (23, false)⟩) (v := undef) rfl (by kernel_rfl) (by kernel_rfl) (by kernel_rfl) (fun _ _ _ h => h) (Or.inr ⟨by rfl, rfl⟩) (by assumption) ?_
 try go_frame
 refine wpAnyH_take (i := 36) (oi := ⟨some 50, .binOp .neq 9 (.tmp 49) (.const (.string ⟨#[58]⟩)) 9, 4, "ref.go:184", #[⟨35, .data⟩, ⟨23, .guard⟩], some (23, false)⟩) (v := undef) rfl (by kernel_rfl) (by kernel_rfl) (by kernel_rfl) (fun _ _ _ h => h) (Or.inr ⟨by rfl, rfl⟩) (by assumption) ?_
 try go_frame
 refine wpAnyH_take (i := 37) (oi := ⟨some 51, .pick (.tmp 37) (.const (.bool true)) (.tmp 50), 4, "ref.go:184", #[⟨23, .data⟩, ⟨36, .data⟩], none⟩) (v := ?_) rfl (by kernel_rfl) (by kernel_rfl) (by kernel_rfl) (fun _ _ _ h => h) (Or.inl ⟨by rfl, ?_⟩) (by assumption) ?_
 rotate_left
 · intro w hSw; (try dsimp only at hSw); first | (go_simp; done) | (go_simp; with_reducible rfl)
 try go_frame
 refine wpAnyH_done (by kernel_rfl) ?_ _
 go_wp2_with fail
 refine (HX.out _ ts d pa 1 (HR.out.ext X9) HN.out.1 HN.out.2.1 (by omega) (by omega)).mono ?_
 intro e w4 h4
 obtain ⟨x, p, l, c, rfl, hY⟩ := h4.form
 have HY : Hid (RY w0 b W ts.length (d - 1) d (LvK (O n) 1 d ts) x (.slice p l c) (putX w4 W.heap.size x (.slice p l c))) := hY.put (Ext.toB X9 b) (by have := ((Ext.refl V3).drew.trans E9).size; omega) hgW HN.out.2.2 (Nat.le_refl _)
 have HB4 : Hid (BlkX w4 W.heap.size tz (.slice none 0 0)) := (HV.out.1.ext ((Ext.refl V3).drew.trans E9)).extB hY.1 hgW
 have HB0 := HB4.out
 obtain ⟨qa, ⟨la0, la1, la2, la3, la4, la5, la6, la7, la8, la9, la10, la11, la12⟩, ga0, ga1, ga2, ga3, ga4, ga5, ga6, ga7, ga8, ga9, ga10, ga11, ga12⟩ := HB0
 clear h4 hY
 unfold aggX
 go_wp2_with fail
 show bodyPost Try.prog _ _ _ _ (putX w4 W.heap.size x (.slice p l c))
 rw [HXX.out]
 exact endR (HB4.out.put x (.slice p l c)) rfl HY.out.back (fun h0 h1 h2 h3 h4 h5 h6 h7 h8 h9 h10 h11 h12 => by simp [results, Try.results75, go_sem, h0, h1, h2, h3, h4, h5, h6, h7, h8, h9, h10, h11, h12, aggX])
set_option maxRecDepth 100000 in
theorem argument_d (w0 : World) (b n : Nat) (hX : ExC w0 b n n) (W : World) (ts : List Tk) (d : Nat) (pa : Int) (h : Rp w0 b W ts d pa 0) (hts : ts.length ≤ n) (hd4 : d ≤ 40) (ho : okP (hd ts).2.2.1 = true) (hk : (hd ts).1 = 2) (hn3 : (hd ts.tail).1 = 3) (h58 : (hd ts.tail).2.2.1 ≠ [58]) :
   Calls Try.prog 75 #[.pointer (some ⟨b, 0, none⟩)] W (RX w0 b W ts.length (d - 1) d (argm (frm (O n)) d ts)) := by
 have HR : Hid (Rp w0 b W ts d pa 0) := h
 have HN : Hid (ts.length ≤ n ∧ d ≤ 40 ∧ w0.heap.size ≤ W.heap.size) := ⟨hts, hd4, h.1.sz⟩
 have HX : Hid (ExC w0 b n n) := hX
 have hbW : b < W.heap.size := h.lt.1
 have hgW : W.heap.size ≠ b := by omega
 have c1 := fun V e => rt_any (h.ext (W' := V) e)
 unfold tkA at c1
 have kf0 := fun W => tkf0 (hd ts) W
 have kf2 := fun W => tkf2 (hd ts) W
 have cP := fun V => rparse_rf (hd ts).2.2.1 V (h.2.2.2.2.1 _ (hd_mem h.2.2.1.pos)).1
 have hdoc := argm_doc (n := n) hd4 h.2.2.1 hts
 have HXX : Hid (argm (frm (O n)) d ts = LvK (O n) 1 d ts) := by
   show _ = _
   rw [hdoc, if_neg]
   · rfl
   · rintro ⟨_, _, h3⟩; exact h58 (isSg_k h3).2
 have hl2 : 2 ≤ ts.length := by have h1 := h.2.2.1.tail (by rw [hk]; decide); have h2 := h1.1.pos; have h3 := h1.2; omega
 rw [ho] at cP
 have k2 : ((hd ts).1 != 2) = false := by rw [hk]; rfl
 have n3 : ((hd ts.tail).1 != 3) = false := by rw [hn3]; rfl
 have n58 : ((bs (hd ts.tail).2.2.1).toList != [58]) = true := by rw [bs_tl]; simpa using h58
 have n59 : ((bs (hd ts.tail).2.2.1).toList == [58]) = false := by rw [bs_tl]; simpa using h58
 clear ho hk hn3 h58
 obtain ⟨r, hr⟩ : ∃ r, prf (hd ts).2.2.1 = r := ⟨_, rfl⟩
 rw [hr] at cP
 have HRF : Hid (prf (hd ts).2.2.1 = r) := hr
 obtain ⟨tb, off, cc, nn, ii, hB, hnn, hpk⟩ := h.peek
 have HPK : Hid (Blk5 W b (.slice (some ⟨tb, off, none⟩) nn cc) (.int .i64 (ii : Int)) (.int .i64 (d : Int)) (.int .i64 pa) (.int .i64 0)) := hB
 obtain ⟨u, hu⟩ : ∃ u, hd ts.tail = u := ⟨_, rfl⟩
 have HUU : Hid (hd ts.tail = u ∧ ii + 1 < nn ∧ tb < w0.heap.size ∧ tb ≠ b ∧ ∀ V, Ext W V → V.cell? ⟨tb, off + (ii + 1) * 5, none⟩ = some (.int .i64 u.1) ∧ V.cell? ⟨tb, off + (ii + 1) * 5 + 2, none⟩ = some (.string (bs u.2.2.1))) := by
   have := hpk hl2
   rw [hu] at this
   exact ⟨hu, this⟩
 have hii : (ii : Int) + 1 < (nn : Int) := by have := HUU.out.2.1; omega
 have hit : ((ii : Int) + 1).toNat = ii + 1 := by omega
 have hiw : IntKind.i64.wrap ((ii : Int) + 1) = (ii : Int) + 1 := by rw [IntKind.wrap_i64]; omega
 have hi0 : 0 ≤ (ii : Int) + 1 := by omega
 rw [hu] at n3 n58 n59
 clear hu
 clear hl2
 clear hB hpk hr hts hd4 hX h hdoc
 obtain ⟨t, ht⟩ : ∃ t, hd ts = t := ⟨_, rfl⟩
 have HTT : Hid (hd ts = t) := ht
 rw [ht] at c1 kf0 kf2 cP k2
 clear ht
 go_enter Try.func75, Try.ntmps75
 go_wp2_with fail
 refine (c1 _ ((Ext.refl _).alloc _)).mono ?_
 rintro e w1 ⟨rfl, E1⟩
 have hw1 : W.heap.size + 1 ≤ w1.heap.size := by have := E1.size; simp at this; omega
 have HB1 : Hid (BlkX w1 W.heap.size tz (.slice none 0 0) ∧ Ext W w1) := ⟨BlkX.top rfl E1, ((Ext.refl _).alloc _).trans E1⟩
 clear E1
 go_wp2_with fail
 refine (cP _).mono ?_
 rintro e w2 ⟨rfl, E2⟩
 have hw2 : W.heap.size + 1 ≤ w2.heap.size := by have := E2.size; omega
 have HB2 : Hid (BlkX w2 W.heap.size tz (.slice none 0 0) ∧ Ext W w2) := ⟨HB1.out.1.ext E2, HB1.out.2.trans E2⟩
 clear E2 HB1
 go_wp2_with fail
 have E3 : Ext w2 (w2.alloc (.cells #[.int .i64 r.1, .int .i64 r.2.1, .bool r.2.2.1, .bool r.2.2.2] 26)) := (Ext.refl _).alloc _
 have B3 := blk_top (b := w2.heap.size) rfl (Ext.refl (w2.alloc (.cells #[.int .i64 r.1, .int .i64 r.2.1, .bool r.2.2.1, .bool r.2.2.2] 26)))
 have hz3 : w2.heap.size < (w2.alloc (.cells #[.int .i64 r.1, .int .i64 r.2.1, .bool r.2.2.1, .bool r.2.2.2] 26)).heap.size := by simp
 generalize w2.alloc (.cells #[.int .i64 r.1, .int .i64 r.2.1, .bool r.2.2.1, .bool r.2.2.2] 26) = V3 at *
 have HV : Hid (BlkX V3 W.heap.size tz (.slice none 0 0) ∧ Ext W V3 ∧ Blk V3 w2.heap.size (.int .i64 r.1) (.int .i64 r.2.1) (.bool r.2.2.1) (.bool r.2.2.2)) := ⟨HB2.out.1.ext E3, HB2.out.2.trans E3, B3⟩
 clear E3 B3 HB2
 have mkS : Hid (∀ V, Ext W V → V.cell? ⟨b, 0, none⟩ = some (.slice (some ⟨tb, off, none⟩) nn cc) ∧ V.cell? ⟨b, 1, none⟩ = some (.int .i64 (ii : Int)) ∧ V.cell? ⟨tb, off + (ii + 1) * 5, none⟩ = some (.int .i64 u.1) ∧ V.cell? ⟨tb, off + (ii + 1) * 5 + 2, none⟩ = some (.string (bs u.2.2.1))) := fun V e => by
   obtain ⟨_, ⟨q0, q1, _⟩, _⟩ := HPK.out.ext e
   exact ⟨q0, q1, (HUU.out.2.2.2.2 V e).1, (HUU.out.2.2.2.2 V e).2⟩
 refine wp_region_held_drew (S := (fun V => V.cell? ⟨b, 0, none⟩ = some (.slice (some ⟨tb, off, none⟩) nn cc) ∧ V.cell? ⟨b, 1, none⟩ = some (.int .i64 (ii : Int)) ∧ V.cell? ⟨tb, off + (ii + 1) * 5, none⟩ = some (.int .i64 u.1) ∧ V.cell? ⟨tb, off + (ii + 1) * 5 + 2, none⟩ = some (.string (bs u.2.2.1)))) (by kernel_rfl) ?_ (fun hHeld0 => ?_)
 · (refine mkS.out _ ?_; ((with_reducible (repeat (first | assumption | exact HV.out.2.1 | exact Ext.refl _ | apply Ext.alloc | apply Ext.drew | apply Ext.drewN))); done))
 refine wpAnyH_take (i := 0) (oi := ⟨some 14, .move (.tmp 4), 4, "ref.go:184", #[], none⟩) (v := ?_) rfl (by kernel_rfl) (by kernel_rfl) (by kernel_rfl) (fun _ _ _ h => h) (Or.inl ⟨by rfl, ?_⟩) (by assumption) ?_
 rotate_left
 · intro w hSw; (try dsimp only at hSw); first | (go_simp; done) | (go_simp; with_reducible rfl)
 try go_frame
 refine wpAnyH_take (i := 1) (oi := ⟨some 15, .unOp .not 4 (.tmp 14), 4, "ref.go:184", #[⟨0, .data⟩], none⟩) (v := ?_) rfl (by kernel_rfl) (by kernel_rfl) (by kernel_rfl) (fun _ _ _ h => h) (Or.inl ⟨by rfl, ?_⟩) (by assumption) ?_
 rotate_left
 · intro w hSw; (try dsimp only at hSw); first | (go_simp; done) | (go_simp; with_reducible rfl)
 try go_frame
 refine wpAnyH_take (i := 2) (oi := ⟨some 16, .move (.tmp 15), 4, "ref.go:184", #[⟨1, .data⟩], none⟩) (v := ?_) rfl (by kernel_rfl) (by kernel_rfl) (by kernel_rfl) (fun _ _ _ h => h) (Or.inl ⟨by rfl, ?_⟩) (by assumption) ?_
 rotate_left
 · intro w hSw; (try dsimp only at hSw); first | (go_simp; done) | (go_simp; with_reducible rfl)
 try go_frame
 refine wpAnyH_take (i := 3) (oi := ⟨some 17, .move (.tmp 0), 57, "ref.go:184", #[⟨2, .guard⟩], some (2, false)⟩) (v := ?_) rfl (by kernel_rfl) (by kernel_rfl) (by kernel_rfl) (fun _ _ _ h => h) (Or.inl ⟨by rfl, ?_⟩) (by assumption) ?_
 rotate_left
 · intro w hSw; (try dsimp only at hSw); first | (go_simp; done) | (go_simp; with_reducible rfl)
 try go_frame
 refine wpAnyH_ready (rs := [4]) (by kernel_rfl) (by simp) ?_
 refine AllReadyH.cons (o := ⟨some 18, .call { callee := .value (.func 20), args := #[.tmp 17], argTypes := #[57] }, 62, "ref.go:184", #[⟨3, .data⟩, ⟨2, .chain⟩, ⟨2, .guard⟩], some (2, false)⟩) rfl (fun K hK => ?_) AllReadyH.nil
 go_simp
 (go_at_call 20; refine Calls.mono (c1 _ (by with_reducible (repeat (first | assumption | exact HV.out.2.1 | exact Ext.refl _ | apply Ext.alloc | apply Ext.drew | apply Ext.drewN)))) ?_; rintro e w9 ⟨rfl, E9⟩; have X9 : Ext W w9 := Ext.trans (by with_reducible (repeat (first | assumption | exact HV.out.2.1 | exact Ext.refl _ | apply Ext.alloc | apply Ext.drew | apply Ext.drewN))) E9)
 try go_wp2_with fail
 refine hK.out _ _ ?_ (fun hHeld1 => ?_)
 · (try dsimp only); (refine mkS.out _ ?_; ((with_reducible (repeat (first | assumption | exact HV.out.2.1 | exact Ext.refl _ | apply Ext.alloc | apply Ext.drew | apply Ext.drewN))); done))
 clear hK K hHeld0
 try go_frame
 refine wpAnyH_take (i := 5) (oi := ⟨some 19, .field 62 (.tmp 18) 0, 3, "ref.go:184", #[⟨4, .data⟩, ⟨2, .guard⟩], some (2, false)⟩) (v := ?_) rfl (by kernel_rfl) (by kernel_rfl) (by kernel_rfl) (fun _ _ _ h => h) (Or.inl ⟨by rfl, ?_⟩) (by assumption) ?_
 rotate_left
 · intro w hSw; (try dsimp only at hSw); first | (go_simp; done) | (go_simp; with_reducible rfl)
 try go_frame
 refine wpAnyH_take (i := 6) (oi := ⟨some 20, .binOp .neq 3 (.tmp 19) (.const (.int .i64 2)) 3, 4, "ref.go:184", #[⟨5, .data⟩, ⟨2, .guard⟩], some (2, false)⟩) (v := ?_) rfl (by kernel_rfl) (by kernel_rfl) (by kernel_rfl) (fun _ _ _ h => h) (Or.inl ⟨by rfl, ?_⟩) (by assumption) ?_
 rotate_left
 · intro w hSw; (try dsimp only at hSw); first | (go_simp; done) | (go_simp; with_reducible rfl)
 try go_frame
 refine wpAnyH_take (i := 7) (oi := ⟨some 21, .pick (.tmp 16) (.const (.bool true)) (.tmp 20), 4, "ref.go:184", #[⟨2, .data⟩, ⟨6, .data⟩], none⟩) (v := ?_) rfl (by kernel_rfl) (by kernel_rfl) (by kernel_rfl) (fun _ _ _ h => h) (Or.inl ⟨by rfl, ?_⟩) (by assumption) ?_
 rotate_left
 · intro w hSw; (try dsimp only at hSw); first | (go_simp; done) | (go_simp; with_reducible rfl)
 try go_frame
 refine wpAnyH_take (i := 8) (oi := ⟨some 22, .move (.tmp 21), 4, "ref.go:184", #[⟨7, .data⟩, ⟨4, .chain⟩], none⟩) (v := ?_) rfl (by kernel_rfl) (by kernel_rfl) (by kernel_rfl) (fun _ _ _ h => h) (Or.inl ⟨by rfl, ?_⟩) (by assumption) ?_
 rotate_left
 · intro w hSw; (try dsimp only at hSw); first | (go_simp; done) | (go_simp; with_reducible rfl)
 try go_frame
 refine wpAnyH_take (i := 9) (oi := ⟨some 23, .move (.tmp 0), 57, "ref.go:184", #[⟨8, .guard⟩], some (8, false)⟩) (v := ?_) rfl (by kernel_rfl) (by kernel_rfl) (by kernel_rfl) (fun _ _ _ h => h) (Or.inl ⟨by rfl, ?_⟩) (by assumption) ?_
 rotate_left
 · intro w hSw; (try dsimp only at hSw); first | (go_simp; done) | (go_simp; with_reducible rfl)
 try go_frame
 refine wpAnyH_take (i := 10) (oi := ⟨some 24, .nilCheck (.tmp 23), 0, "ref.go:184", #[⟨9, .data⟩, ⟨8, .guard⟩], some (8, false)⟩) (v := ?_) rfl (by kernel_rfl) (by kernel_rfl) (by kernel_rfl) (fun _ _ _ h => h) (Or.inl ⟨by rfl, ?_⟩) (by assumption) ?_
 rotate_left
 · intro w hSw; (try dsimp only at hSw); first | (go_simp; done) | (go_simp; with_reducible rfl)
 try go_frame
 refine wpAnyH_take (i := 11) (oi := ⟨some 25, .fieldAddr 59 (.tmp 24) 0, 0, "ref.go:184", #[⟨10, .data⟩, ⟨8, .guard⟩], some (8, false)⟩) (v := ?_) rfl (by kernel_rfl) (by kernel_rfl) (by kernel_rfl) (fun _ _ _ h => h) (Or.inl ⟨by rfl, ?_⟩) (by assumption) ?_
 rotate_left
 · intro w hSw; (try dsimp only at hSw); first | (go_simp; done) | (go_simp; with_reducible rfl)
 try go_frame
 refine wpAnyH_take (i := 12) (oi := ⟨some 26, .load 54 (.tmp 25), 54, "ref.go:184", #[⟨11, .data⟩, ⟨8, .guard⟩], some (8, false)⟩) (v := ?_) rfl (by kernel_rfl) (by kernel_rfl) (by kernel_rfl) (fun _ _ _ h => h) (Or.inl ⟨by rfl, ?_⟩) (by assumption) ?_
 rotate_left
 · intro w hSw; (try dsimp only at hSw); first | (go_simp; done) | (go_simp; with_reducible rfl)
 try go_frame
 refine wpAnyH_take (i := 13) (oi := ⟨some 27, .move (.tmp 0), 57, "ref.go:184", #[⟨8, .guard⟩], some (8, false)⟩) (v := ?_) rfl (by kernel_rfl) (by kernel_rfl) (by kernel_rfl) (fun _ _ _ h => h) (Or.inl ⟨by rfl, ?_⟩) (by assumption) ?_
 rotate_left
 · intro w hSw; (try dsimp only at hSw); first | (go_simp; done) | (go_simp; with_reducible rfl)
 try go_frame
 refine wpAnyH_take (i := 14) (oi := ⟨some 28, .nilCheck (.tmp 27), 0, "ref.go:184", #[⟨13, .data⟩, ⟨8, .guard⟩], some (8, false)⟩) (v := ?_) rfl (by kernel_rfl) (by kernel_rfl) (by kernel_rfl) (fun _ _ _ h => h) (Or.inl ⟨by rfl, ?_⟩) (by assumption) ?_
 rotate_left
 · intro w hSw; (try dsimp only at hSw); first | (go_simp; done) | (go_simp; with_reducible rfl)
 try go_frame
 refine wpAnyH_take (i := 15) (oi := ⟨some 29, .fieldAddr 59 (.tmp 28) 1, 0, "ref.go:184", #[⟨14, .data⟩, ⟨8, .guard⟩], some (8, false)⟩) (v := ?_) rfl (by kernel_rfl) (by kernel_rfl) (by kernel_rfl) (fun _ _ _ h => h) (Or.inl ⟨by rfl, ?_⟩) (by assumption) ?_
 rotate_left
 · intro w hSw; (try dsimp only at hSw); first | (go_simp; done) | (go_simp; with_reducible rfl)
 try go_frame
 refine wpAnyH_take (i := 16) (oi := ⟨some 30, .load 3 (.tmp 29), 3, "ref.go:184", #[⟨15, .data⟩, ⟨8, .guard⟩], some (8, false)⟩) (v := ?_) rfl (by kernel_rfl) (by kernel_rfl) (by kernel_rfl) (fun _ _ _ h => h) (Or.inl ⟨by rfl, ?_⟩) (by assumption) ?_
 rotate_left
 · intro w hSw; (try dsimp only at hSw); first | (go_simp; done) | (go_simp; with_reducible rfl)
 try go_frame
 refine wpAnyH_take (i := 17) (oi := ⟨some 31, .binOp .add 3 (.tmp 30) (.const (.int .i64 1)) 3, 3, "ref.go:184", #[⟨16, .data⟩, ⟨8, .guard⟩], some (8, false)⟩) (v := ?_) rfl (by kernel_rfl) (by kernel_rfl) (by kernel_rfl) (fun _ _ _ h => h) (Or.inl ⟨by rfl, ?_⟩) (by assumption) ?_
 rotate_left
 · intro w hSw; (try dsimp only at hSw); first | (go_simp; done) | (go_simp; with_reducible rfl)
 try go_frame
 refine wpAnyH_take (i := 18) (oi := ⟨some 32, .indexAddr 54 (.tmp 26) (.tmp 31), 0, "ref.go:184", #[⟨12, .data⟩, ⟨17, .data⟩, ⟨8, .guard⟩], some (8, false)⟩) (v := ?_) rfl (by kernel_rfl) (by kernel_rfl) (by kernel_rfl) (fun _ _ _ h => h) (Or.inl ⟨by rfl, ?_⟩) (by assumption) ?_
 rotate_left
 · intro w hSw; (try dsimp only at hSw); first | (go_simp; done) | (go_simp; with_reducible rfl)
 try go_frame
 refine wpAnyH_take (i := 19) (oi := ⟨some 33, .fieldAddr 62 (.tmp 32) 0, 0, "ref.go:184", #[⟨18, .data⟩, ⟨8, .guard⟩], some (8, false)⟩) (v := ?_) rfl (by kernel_rfl) (by kernel_rfl) (by kernel_rfl) (fun _ _ _ h => h) (Or.inl ⟨by rfl, ?_⟩) (by assumption) ?_
 rotate_left
 · intro w hSw; (try dsimp only at hSw); first | (go_simp; done) | (go_simp; with_reducible rfl)
 try go_frame
 refine wpAnyH_take (i := 20) (oi := ⟨some 34, .load 3 (.tmp 33), 3, "ref.go:184", #[⟨19, .data⟩, ⟨8, .guard⟩], some (8, false)⟩) (v := ?_) rfl (by kernel_rfl) (by kernel_rfl) (by kernel_rfl) (fun _ _ _ h => h) (Or.inl ⟨by rfl, ?_⟩) (by assumption) ?_
 rotate_left
 · intro w hSw; (try dsimp only at hSw); first | (go_simp; done) | (go_simp; with_reducible rfl)
 try go_frame
 refine wpAnyH_take (i := 21) (oi := ⟨some 35, .binOp .neq 3 (.tmp 34) (.const (.int .i64 3)) 3, 4, "ref.go:184", #[⟨20, .data⟩, ⟨8, .guard⟩], some (8, false)⟩) (v := ?_) rfl (by kernel_rfl) (by kernel_rfl) (by kernel_rfl) (fun _ _ _ h => h) (Or.inl ⟨by rfl, ?_⟩) (by assumption) ?_
 rotate_left
 · intro w hSw; (try dsimp only at hSw); first | (go_simp; done) | (go_simp; with_reducible rfl)
 try go_frame
 refine wpAnyH_take (i := 22) (oi := ⟨some 36, .pick (.tmp 22) (.const (.bool true)) (.tmp 35), 4, "ref.go:184", #[⟨8, .data⟩, ⟨21, .data⟩], none⟩) (v := ?_) rfl (by kernel_rfl) (by kernel_rfl) (by kernel_rfl) (fun _ _ _ h => h) (Or.inl ⟨by rfl, ?_⟩) (by assumption) ?_
 rotate_left
 · intro w hSw; (try dsimp only at hSw); first | (go_simp; done) | (go_simp; with_reducible rfl)
 try go_frame
 refine wpAnyH_take (i := 23) (oi := ⟨some 37, .move (.tmp 36), 4, "ref.go:184", #[⟨22, .data⟩, ⟨8, .chain⟩], none⟩) (v := ?_) rfl (by kernel_rfl) (by kernel_rfl) (by kernel_rfl) (fun _ _ _ h => h) (Or.inl ⟨by rfl, ?_⟩) (by assumption) ?_
 rotate_left
 · intro w hSw; (try dsimp only at hSw); first | (go_simp; done) | (go_simp; with_reducible rfl)
 try go_frame
 refine wpAnyH_take (i := 24) (oi := ⟨some 38, .move (.tmp 0), 57, "ref.go:184", #[⟨23, .guard⟩], some (23, false)⟩) (v := ?_) rfl (by kernel_rfl) (by kernel_rfl) (by kernel_rfl) (fun _ _ _ h => h) (Or.inl ⟨by rfl, ?_⟩) (by assumption) ?_
 rotate_left
 · intro w hSw; (try dsimp only at hSw); first | (go_simp; done) | (go_simp; with_reducible rfl)
 try go_frame
 refine wpAnyH_take (i := 25) (oi := ⟨some 39, .nilCheck (.tmp 38), 0, "ref.go:184", #[⟨24, .data⟩, ⟨23, .guard⟩], some (23, false)⟩) (v := ?_) rfl (by kernel_rfl) (by kernel_rfl) (by kernel_rfl) (fun _ _ _ h => h) (Or.inl ⟨by rfl, ?_⟩) (by assumption) ?_
 rotate_left
 · intro w hSw; (try dsimp only at hSw); first | (go_simp; done) | (go_simp; with_reducible rfl)
 try go_frame
 refine wpAnyH_take (i := 26) (oi := ⟨some 40, .fieldAddr 59 (.tmp 39) 0, 0, "ref.go:184", #[⟨25, .data⟩, ⟨23, .guard⟩], some (23, false)⟩) (v := ?_) rfl (by kernel_rfl) (by kernel_rfl) (by kernel_rfl) (fun _ _ _ h => h) (Or.inl ⟨by rfl, ?_⟩) (by assumption) ?_
 rotate_left
 · intro w hSw; (try dsimp only at hSw); first | (go_simp; done) | (go_simp; with_reducible rfl)
 try go_frame
 refine wpAnyH_take (i := 27) (oi := ⟨some 41, .load 54 (.tmp 40), 54, "ref.go:184", #[⟨26, .data⟩, ⟨23, .guard⟩], some (23, false)⟩) (v := ?_) rfl (by kernel_rfl) (by kernel_rfl) (by kernel_rfl) (fun _ _ _ h => h) (Or.inl ⟨by rfl, ?_⟩) (by assumption) ?_
 rotate_left
 · intro w hSw; (try dsimp only at hSw); first | (go_simp; done) | (go_simp; with_reducible rfl)
 try go_frame
 refine wpAnyH_take (i := 28) (oi := ⟨some 42, .move (.tmp 0), 57, "ref.go:184", #[⟨23, .guard⟩], some (23, false)⟩) (v := ?_) rfl (by kernel_rfl) (by kernel_rfl) (by kernel_rfl) (fun _ _ _ h => h) (Or.inl ⟨by rfl, ?_⟩) (by assumption) ?_
 rotate_left
 · intro w hSw; (try dsimp only at hSw); first | (go_simp; done) | (go_simp; with_reducible rfl)
 try go_frame
 refine wpAnyH_take (i := 29) (oi := ⟨some 43, .nilCheck (.tmp 42), 0, "ref.go:184", #[⟨28, .data⟩, ⟨23, .guard⟩], some (23, false)⟩) (v := ?_) rfl (by kernel_rfl) (by kernel_rfl) (by kernel_rfl) (fun _ _ _ h => h) (Or.inl ⟨by rfl, ?_⟩) (by assumption) ?_
 rotate_left
 · intro w hSw; (try dsimp only at hSw); first | (go_simp; done) | (go_simp; with_reducible rfl)
 try go_frame
 refine wpAnyH_take (i := 30) (oi := ⟨some 44, .fieldAddr 59 (.tmp 43) 1, 0, "ref.go:184", #[⟨29, .data⟩, ⟨23, .guard⟩], some (23, false)⟩) (v := ?_) rfl (by kernel_rfl) (by kernel_rfl) (by kernel_rfl) (fun _ _ _ h => h) (Or.inl ⟨by rfl, ?_⟩) (by assumption) ?_
 rotate_left
 · intro w hSw; (try dsimp only at hSw); first | (go_simp; done) | (go_simp; with_reducible rfl)
 try go_frame
 refine wpAnyH_take (i := 31) (oi := ⟨some 45, .load 3 (.tmp 44), 3, "ref.go:184", #[⟨30, .data⟩, ⟨23, .guard⟩], some (23, false)⟩) (v := ?_) rfl (by kernel_rfl) (by kernel_rfl) (by kernel_rfl) (fun _ _ _ h => h) (Or.inl ⟨by rfl, ?_⟩) (by assumption) ?_
 rotate_left
 · intro w hSw; (try dsimp only at hSw); first | (go_simp; done) | (go_simp; with_reducible rfl)
 try go_frame
 refine wpAnyH_take (i := 32) (oi := ⟨some 46, .binOp .add 3 (.tmp 45) (.const (.int .i64 1)) 3, 3, "ref.go:184", #[⟨31, .data⟩, ⟨23, .guard⟩], some (23, false)⟩) (v := ?_) rfl (by kernel_rfl) (by kernel_rfl) (by kernel_rfl) (fun _ _ _ h => h) (Or.inl ⟨by rfl, ?_⟩) (by assumption) ?_
 rotate_left
 · intro w hSw; (try dsimp only at hSw); first | (go_simp; done) | (go_simp; with_reducible rfl)
 try go_frame
 refine wpAnyH_take (i := 33) (oi := ⟨some 47, .indexAddr 54 (.tmp 41) (.tmp 46), 0, "ref.go:184", #[⟨27, .data⟩, ⟨32, .data⟩, ⟨23, .guard⟩], some (23, false)⟩) (v := ?_) rfl (by kernel_rfl) (by kernel_rfl) (by kernel_rfl) (fun _ _ _ h => h) (Or.inl ⟨by rfl, ?_⟩) (by assumption) ?_
 rotate_left
 · intro w hSw; (try dsimp only at hSw); first | (go_simp; done) | (go_simp; with_reducible rfl)
 try go_frame
 refine wpAnyH_take (i := 34) (oi := ⟨some 48, .fieldAddr 62 (.tmp 47) 2, 0, "ref.go:184", #[⟨33, .data⟩, ⟨23, .guard⟩], some (23, false)⟩) (v := ?_) rfl (by kernel_rfl) (by kernel_rfl) (by kernel_rfl) (fun _ _ _ h => h) (Or.inl ⟨by rfl, ?_⟩) (by assumption) ?_
 rotate_left
 · intro w hSw; (try dsimp only at hSw); first | (go_simp; done) | (go_simp; with_reducible rfl)
 try go_frame
 refine wpAnyH_take (i := 35) (oi := ⟨some 49, .load 9 (.tmp 48), 9, "ref.go:184", #[⟨34, .data⟩, ⟨23, .guard⟩], some (23, false)⟩) (v := ?_) rfl (by kernel_rfl) (by kernel_rfl) (by kernel_rfl) (fun _ _ _ h => h) (Or.inl ⟨by rfl, ?_⟩) (by assumption) ?_
 rotate_left
 · intro w hSw; (try dsimp only at hSw); first | (go_simp; done) | (go_simp; with_reducible rfl)
 try go_frame
 refine wpAnyH_take (i := 36) (oi := ⟨some 50, .binOp .neq 9 (.tmp 49) (.const (.string ⟨#[58]⟩)) 9, 4, "ref.go:184", #[⟨35, .data⟩, ⟨23, .guard⟩], some (23, false)⟩) (v := ?_) rfl (by kernel_rfl) (by kernel_rfl) (by kernel_rfl) (fun _ _ _ h => h) (Or.inl ⟨by rfl, ?_⟩) (by assumption) ?_
 rotate_left
 · intro w hSw; (try dsimp only at hSw); first | (go_simp; done) | (go_simp; with_reducible rfl)
 try go_frame
 refine wpAnyH_take (i := 37) (oi := ⟨some 51, .pick (.tmp 37) (.const (.bool true)) (.tmp 50), 4, "ref.go:184", #[⟨23, .data⟩, ⟨36, .data⟩], none⟩) (v := ?_) rfl (by kernel_rfl) (by kernel_rfl) (by kernel_rfl) (fun _ _ _ h => h) (Or.inl ⟨by rfl, ?_⟩) (by assumption) ?_
 rotate_left
 · intro w hSw; (try dsimp only at hSw); first | (go_simp; done) | (go_simp; with_reducible rfl)
 try go_frame
 refine wpAnyH_done (by kernel_rfl) ?_ _
 go_wp2_with fail
 refine (HX.out _ ts d pa 1 (HR.out.ext X9) HN.out.1 HN.out.2.1 (by omega) (by omega)).mono ?_
 intro e w4 h4
 obtain ⟨x, p, l, c, rfl, hY⟩ := h4.form
 have HY : Hid (RY w0 b W ts.length (d - 1) d (LvK (O n) 1 d ts) x (.slice p l c) (putX w4 W.heap.size x (.slice p l c))) := hY.put (Ext.toB X9 b) (by have := ((Ext.refl V3).drew.trans E9).size; omega) hgW HN.out.2.2 (Nat.le_refl _)
 have HB4 : Hid (BlkX w4 W.heap.size tz (.slice none 0 0)) := (HV.out.1.ext ((Ext.refl V3).drew.trans E9)).extB hY.1 hgW
 have HB0 := HB4.out
 obtain ⟨qa, ⟨la0, la1, la2, la3, la4, la5, la6, la7, la8, la9, la10, la11, la12⟩, ga0, ga1, ga2, ga3, ga4, ga5, ga6, ga7, ga8, ga9, ga10, ga11, ga12⟩ := HB0
 clear h4 hY
 unfold aggX
 go_wp2_with fail
 show bodyPost Try.prog _ _ _ _ (putX w4 W.heap.size x (.slice p l c))
 rw [HXX.out]
 exact endR (HB4.out.put x (.slice p l c)) rfl HY.out.back (fun h0 h1 h2 h3 h4 h5 h6 h7 h8 h9 h10 h11 h12 => by simp [results, Try.results75, go_sem, h0, h1, h2, h3, h4, h5, h6, h7, h8, h9, h10, h11, h12, aggX])
set_option maxRecDepth 100000 in
theorem argument_r (w0 : World) (b n : Nat) (hX : ExC w0 b n n) (W : World) (ts : List Tk) (d : Nat) (pa : Int) (h : Rp w0 b W ts d pa 0) (hts : ts.length ≤ n) (hd4 : d ≤ 40) (ho : okP (hd ts).2.2.1 = true) (hk : (hd ts).1 = 2) (hn3 : (hd ts.tail).1 = 3) (h58 : (hd ts.tail).2.2.1 = [58]) :
   Calls Try.prog 75 #[.pointer (some ⟨b, 0, none⟩)] W (RX w0 b W ts.length (d - 1) d (argm (frm (O n)) d ts)) := by
 have HR : Hid (Rp w0 b W ts d pa 0) := h
 have HN : Hid (ts.length ≤ n ∧ d ≤ 40 ∧ w0.heap.size ≤ W.heap.size) := ⟨hts, hd4, h.1.sz⟩
 have HX : Hid (ExC w0 b n n) := hX
 have hbW : b < W.heap.size := h.lt.1
 have hgW : W.heap.size ≠ b := by omega
 have c1 := fun V e => rt_any (h.ext (W' := V) e)
 unfold tkA at c1
 have kf0 := fun W => tkf0 (hd ts) W
 have kf2 := fun W => tkf2 (hd ts) W
 have cP := fun V => rparse_rf (hd ts).2.2.1 V (h.2.2.2.2.1 _ (hd_mem h.2.2.1.pos)).1
 have hdoc := argm_doc (n := n) hd4 h.2.2.1 hts
 have hc58 : (hd ts).1 = 2 ∧ okP (hd ts).2.2.1 = true ∧ isSg [58] ts.tail = true := ⟨hk, ho, by unfold isSg; rw [hn3, h58]; rfl⟩
 rw [if_pos hc58] at hdoc
 have hprf : prf (hd ts).2.2.1 = rfP (hd ts).2.2.1 := if_pos ho
 have hz1 := h.2.2.1.tail (by rw [hk]; decide)
 have hz2 := hz1.1.tail (by rw [hn3]; decide)
 have hnx : nx (nx ts) = ts.tail.tail := by rw [nx_tail h.2.2.1 (by rw [hk]; decide), nx_tail hz1.1 (by rw [hn3]; decide)]
 have HNX : Hid (nx (nx ts) = ts.tail.tail ∧ Nz ts.tail.tail ∧ ts.tail.tail.length ≤ ts.length) := ⟨hnx, hz2.1, by have := hz1.2; have := hz2.2; omega⟩
 have cQ := fun V => rparse_rf (hd ts.tail.tail).2.2.1 V (h.2.2.2.2.1 _ (List.mem_of_mem_tail (List.mem_of_mem_tail (hd_mem hz2.1.pos)))).1
 have HXE : Hid (¬ ((hd ts.tail.tail).1 = 2 ∧ okP (hd ts.tail.tail).2.2.1 = true) → ∃ f, argm (frm (O n)) d ts = .error f) := by
   intro hno
   rw [hdoc]
   unfold refr
   rw [if_neg hno]
   exact ⟨_, rfl⟩
 have HXG : Hid ((hd ts.tail.tail).1 = 2 → okP (hd ts.tail.tail).2.2.1 = true → argm (frm (O n)) d ts = .ok (tRange (rfP (hd ts).2.2.1) (rfP (hd ts.tail.tail).2.2.1), ts.tail.tail.tail) ∧ prf (hd ts).2.2.1 = rfP (hd ts).2.2.1 ∧ prf (hd ts.tail.tail).2.2.1 = rfP (hd ts.tail.tail).2.2.1 ∧ nx ts.tail.tail = ts.tail.tail.tail) := by
   intro hk2 ho2
   refine ⟨?_, hprf, if_pos ho2, nx_tail hz2.1 (by rw [hk2]; decide)⟩
   rw [hdoc]
   unfold refr
   rw [if_pos ⟨hk2, ho2⟩, tk1_ok hd4]
 have hl2 : 2 ≤ ts.length := by have h1 := h.2.2.1.tail (by rw [hk]; decide); have h2 := h1.1.pos; have h3 := h1.2; omega
 rw [ho] at cP
 have k2 : ((hd ts).1 != 2) = false := by rw [hk]; rfl
 have n3 : ((hd ts.tail).1 != 3) = false := by rw [hn3]; rfl
 have n58 : ((bs (hd ts.tail).2.2.1).toList != [58]) = false := by rw [bs_tl, h58]; rfl
 have n59 : ((bs (hd ts.tail).2.2.1).toList == [58]) = true := by rw [bs_tl, h58]; rfl
 clear ho hk hn3 h58 hc58 hprf hz1 hz2 hnx
 obtain ⟨r, hr⟩ : ∃ r, prf (hd ts).2.2.1 = r := ⟨_, rfl⟩
 rw [hr] at cP
 have HRF : Hid (prf (hd ts).2.2.1 = r) := hr
 obtain ⟨tb, off, cc, nn, ii, hB, hnn, hpk⟩ := h.peek
 have HPK : Hid (Blk5 W b (.slice (some ⟨tb, off, none⟩) nn cc) (.int .i64 (ii : Int)) (.int .i64 (d : Int)) (.int .i64 pa) (.int .i64 0)) := hB
 obtain ⟨u, hu⟩ : ∃ u, hd ts.tail = u := ⟨_, rfl⟩
 have HUU : Hid (hd ts.tail = u ∧ ii + 1 < nn ∧ tb < w0.heap.size ∧ tb ≠ b ∧ ∀ V, Ext W V → V.cell? ⟨tb, off + (ii + 1) * 5, none⟩ = some (.int .i64 u.1) ∧ V.cell? ⟨tb, off + (ii + 1) * 5 + 2, none⟩ = some (.string (bs u.2.2.1))) := by
   have := hpk hl2
   rw [hu] at this
   exact ⟨hu, this⟩
 have hii : (ii : Int) + 1 < (nn : Int) := by have := HUU.out.2.1; omega
 have hit : ((ii : Int) + 1).toNat = ii + 1 := by omega
 have hiw : IntKind.i64.wrap ((ii : Int) + 1) = (ii : Int) + 1 := by rw [IntKind.wrap_i64]; omega
 have hi0 : 0 ≤ (ii : Int) + 1 := by omega
 rw [hu] at n3 n58 n59
 clear hu
 clear hl2
 clear hB hpk hr hts hd4 hX h hdoc
 obtain ⟨t, ht⟩ : ∃ t, hd ts = t := ⟨_, rfl⟩
 have HTT : Hid (hd ts = t) := ht
 rw [ht] at c1 kf0 kf2 cP k2
 clear ht
 go_enter Try.func75, Try.ntmps75
 go_wp2_with fail
 refine (c1 _ ((Ext.refl _).alloc _)).mono ?_
 rintro e w1 ⟨rfl, E1⟩
 have hw1 : W.heap.size + 1 ≤ w1.heap.size := by have := E1.size; simp at this; omega
 have HB1 : Hid (BlkX w1 W.heap.size tz (.slice none 0 0) ∧ Ext W w1) := ⟨BlkX.top rfl E1, ((Ext.refl _).alloc _).trans E1⟩
 clear E1
 go_wp2_with fail
 refine (cP _).mono ?_
 rintro e w2 ⟨rfl, E2⟩
 have hw2 : W.heap.size + 1 ≤ w2.heap.size := by have := E2.size; omega
 have HB2 : Hid (BlkX w2 W.heap.size tz (.slice none 0 0) ∧ Ext W w2) := ⟨HB1.out.1.ext E2, HB1.out.2.trans E2⟩
 clear E2 HB1
 go_wp2_with fail
 have E3 : Ext w2 (w2.alloc (.cells #[.int .i64 r.1, .int .i64 r.2.1, .bool r.2.2.1, .bool r.2.2.2] 26)) := (Ext.refl _).alloc _
 have B3 := blk_top (b := w2.heap.size) rfl (Ext.refl (w2.alloc (.cells #[.int .i64 r.1, .int .i64 r.2.1, .bool r.2.2.1, .bool r.2.2.2] 26)))
 have hz3 : w2.heap.size < (w2.alloc (.cells #[.int .i64 r.1, .int .i64 r.2.1, .bool r.2.2.1, .bool r.2.2.2] 26)).heap.size := by simp
 generalize w2.alloc (.cells #[.int .i64 r.1, .int .i64 r.2.1, .bool r.2.2.1, .bool r.2.2.2] 26) = V3 at *
 have HV : Hid (BlkX V3 W.heap.size tz (.slice none 0 0) ∧ Ext W V3 ∧ Blk V3 w2.heap.size (.int .i64 r.1) (.int .i64 r.2.1) (.bool r.2.2.1) (.bool r.2.2.2)) := ⟨HB2.out.1.ext E3, HB2.out.2.trans E3, B3⟩
 clear E3 B3 HB2
 have mkS : Hid (∀ V, Ext W V → V.cell? ⟨b, 0, none⟩ = some (.slice (some ⟨tb, off, none⟩) nn cc) ∧ V.cell? ⟨b, 1, none⟩ = some (.int .i64 (ii : Int)) ∧ V.cell? ⟨tb, off + (ii + 1) * 5, none⟩ = some (.int .i64 u.1) ∧ V.cell? ⟨tb, off + (ii + 1) * 5 + 2, none⟩ = some (.string (bs u.2.2.1))) := fun V e => by
   obtain ⟨_, ⟨q0, q1, _⟩, _⟩ := HPK.out.ext e
   exact ⟨q0, q1, (HUU.out.2.2.2.2 V e).1, (HUU.out.2.2.2.2 V e).2⟩
 refine wp_region_held_drew (S := (fun V => V.cell? ⟨b, 0, none⟩ = some (.slice (some ⟨tb, off, none⟩) nn cc) ∧ V.cell? ⟨b, 1, none⟩ = some (.int .i64 (ii : Int)) ∧ V.cell? ⟨tb, off + (ii + 1) * 5, none⟩ = some (.int .i64 u.1) ∧ V.cell? ⟨tb, off + (ii + 1) * 5 + 2, none⟩ = some (.string (bs u.2.2.1)))) (by kernel_rfl) ?_ (fun hHeld0 => ?_)
 · (refine mkS.out _ ?_; ((with_reducible (repeat (first | assumption | exact HV.out.2.1 | exact Ext.refl _ | apply Ext.alloc | apply Ext.drew | apply Ext.drewN))); done))
 refine wpAnyH_take (i := 0) (oi := ⟨some 14, .move (.tmp 4), 4, "ref.go:184", #[], none⟩) (v := ?_) rfl (by kernel_rfl) (by kernel_rfl) (by kernel_rfl) (fun _ _ _ h => h) (Or.inl ⟨by rfl, ?_⟩) (by assumption) ?_
 rotate_left
 · intro w hSw; (try dsimp only at hSw); first | (go_simp; done) | (go_simp; with_reducible rfl)
 try go_frame
 refine wpAnyH_take (i := 1) (oi := ⟨some 15, .unOp .not 4 (.tmp 14), 4, "ref.go:184", #[⟨0, .data⟩], none⟩) (v := ?_) rfl (by kernel_rfl) (by kernel_rfl) (by kernel_rfl) (fun _ _ _ h => h) (Or.inl ⟨by rfl, ?_⟩) (by assumption) ?_
 rotate_left
 · intro w hSw; (try dsimp only at hSw); first | (go_simp; done) | (go_simp; with_reducible rfl)
 try go_frame
 refine wpAnyH_take (i := 2) (oi := ⟨some 16, .move (.tmp 15), 4, "ref.go:184", #[⟨1, .data⟩], none⟩) (v := ?_) rfl (by kernel_rfl) (by kernel_rfl) (by kernel_rfl) (fun _ _ _ h => h) (Or.inl ⟨by rfl, ?_⟩) (by assumption) ?_
 rotate_left
 · intro w hSw; (try dsimp only at hSw); first | (go_simp; done) | (go_simp; with_reducible rfl)
 try go_frame
 refine wpAnyH_take (i := 3) (oi := ⟨some 17, .move (.tmp 0), 57, "ref.go:184", #[⟨2, .guard⟩], some (2, false)⟩) (v := ?_) rfl (by kernel_rfl) (by kernel_rfl) (by kernel_rfl) (fun _ _ _ h => h) (Or.inl ⟨by rfl, ?_⟩) (by assumption) ?_
 rotate_left
 · intro w hSw; (try dsimp only at hSw); first | (go_simp; done) | (go_simp; with_reducible rfl)
 try go_frame
 refine wpAnyH_ready (rs := [4]) (by kernel_rfl) (by simp) ?_
 refine AllReadyH.cons (o := ⟨some 18, .call { callee := .value (.func 20), args := #[.tmp 17], argTypes := #[57] }, 62, "ref.go:184", #[⟨3, .data⟩, ⟨2, .chain⟩, ⟨2, .guard⟩], some (2, false)⟩) rfl (fun K hK => ?_) AllReadyH.nil
 go_simp
 (go_at_call 20; refine Calls.mono (c1 _ (by with_reducible (repeat (first | assumption | exact HV.out.2.1 | exact Ext.refl _ | apply Ext.alloc | apply Ext.drew | apply Ext.drewN)))) ?_; rintro e w9 ⟨rfl, E9⟩; have X9 : Ext W w9 := Ext.trans (by with_reducible (repeat (first | assumption | exact HV.out.2.1 | exact Ext.refl _ | apply Ext.alloc | apply Ext.drew | apply Ext.drewN))) E9)
 try go_wp2_with fail
 refine hK.out _ _ ?_ (fun hHeld1 => ?_)
 · (try dsimp only); (refine mkS.out _ ?_; ((with_reducible (repeat (first | assumption | exact HV.out.2.1 | exact Ext.refl _ | apply Ext.alloc | apply Ext.drew | apply Ext.drewN))); done))
 clear hK K hHeld0
 try go_frame
 refine wpAnyH_take (i := 5) (oi := ⟨some 19, .field 62 (.tmp 18) 0, 3, "ref.go:184", #[⟨4, .data⟩, ⟨2, .guard⟩], some (2, false)⟩) (v := ?_) rfl (by kernel_rfl) (by kernel_rfl) (by kernel_rfl) (fun _ _ _ h => h) (Or.inl ⟨by rfl, ?_⟩) (by assumption) ?_
 rotate_left
 · intro w hSw; (try dsimp only at hSw); first | (go_simp; done) | (go_simp; with_reducible rfl)
 try go_frame
 refine wpAnyH_take (i := 6) (oi := ⟨some 20, .binOp .neq 3 (.tmp 19) (.const (.int .i64 2)) 3, 4, "ref.go:184", #[⟨5, .data⟩, ⟨2, .guard⟩], some (2, false)⟩) (v := ?_) rfl (by kernel_rfl) (by kernel_rfl) (by kernel_rfl) (fun _ _ _ h => h) (Or.inl ⟨by rfl, ?_⟩) (by assumption) ?_
 rotate_left
 · intro w hSw; (try dsimp only at hSw); first | (go_simp; done) | (go_simp; with_reducible rfl)
 try go_frame
 refine wpAnyH_take (i := 7) (oi := ⟨some 21, .pick (.tmp 16) (.const (.bool true)) (.tmp 20), 4, "ref.go:184", #[⟨2, .data⟩, ⟨6, .data⟩], none⟩) (v := ?_) rfl (by kernel_rfl) (by kernel_rfl) (by kernel_rfl) (fun _ _ _ h => h) (Or.inl ⟨by rfl, ?_⟩) (by assumption) ?_
 rotate_left
 · intro w hSw; (try dsimp only at hSw); first | (go_simp; done) | (go_simp; with_reducible rfl)
 try go_frame
 refine wpAnyH_take (i := 8) (oi := ⟨some 22, .move (.tmp 21), 4, "ref.go:184", #[⟨7, .data⟩, ⟨4, .chain⟩], none⟩) (v := ?_) rfl (by kernel_rfl) (by kernel_rfl) (by kernel_rfl) (fun _ _ _ h => h) (Or.inl ⟨by rfl, ?_⟩) (by assumption) ?_
 rotate_left
 · intro w hSw; (try dsimp only at hSw); first | (go_simp; done) | (go_simp; with_reducible rfl)
 try go_frame
 refine wpAnyH_take (i := 9) (oi := ⟨some 23, .move (.tmp 0), 57, "ref.go:184", #[⟨8, .guard⟩], some (8, false)⟩) (v := ?_) rfl (by kernel_rfl) (by kernel_rfl) (by kernel_rfl) (fun _ _ _ h => h) (Or.inl ⟨by rfl, ?_⟩) (by assumption) ?_
 rotate_left
 · intro w hSw; (try dsimp only at hSw); first | (go_simp; done) | (go_simp; with_reducible rfl)
 try go_frame
 refine wpAnyH_take (i := 10) (oi := ⟨some 24, .nilCheck (.tmp 23), 0, "ref.go:184", #[⟨9, .data⟩, ⟨8, .guard⟩], some (8, false)⟩) (v := ?_) rfl (by kernel_rfl) (by kernel_rfl) (by kernel_rfl) (fun _ _ _ h => h) (Or.inl ⟨by rfl, ?_⟩) (by assumption) ?_
 rotate_left
 · intro w hSw; (try dsimp only at hSw); first | (go_simp; done) | (go_simp; with_reducible rfl)
 try go_frame
 refine wpAnyH_take (i := 11) (oi := ⟨some 25, .fieldAddr 59 (.tmp 24) 0, 0, "ref.go:184", #[⟨10, .data⟩, ⟨8, .guard⟩], some (8, false)⟩) (v := ?_) rfl (by kernel_rfl) (by kernel_rfl) (by kernel_rfl) (fun _ _ _ h => h) (Or.inl ⟨by rfl, ?_⟩) (by assumption) ?_
 rotate_left
 · intro w hSw; (try dsimp only at hSw); first | (go_simp; done) | (go_simp; with_reducible rfl)
 try go_frame
 refine wpAnyH_take (i := 12) (oi := ⟨some 26, .load 54 (.tmp 25), 54, "ref.go:184", #[⟨11, .data⟩, ⟨8, .guard⟩], some (8, false)⟩) (v := ?_) rfl (by kernel_rfl) (by kernel_rfl) (by kernel_rfl) (fun _ _ _ h => h) (Or.inl ⟨by rfl, ?_⟩) (by assumption) ?_
 rotate_left
 · intro w hSw; (try dsimp only at hSw); first | (go_simp; done) | (go_simp; with_reducible rfl)
 try go_frame
 refine wpAnyH_take (i := 13) (oi := ⟨some 27, .move (.tmp 0), 57, "ref.go:184", #[⟨8, .guard⟩], some (8, false)⟩) (v := ?_) rfl (by kernel_rfl) (by kernel_rfl) (by kernel_rfl) (fun _ _ _ h => h) (Or.inl ⟨by rfl, ?_⟩) (by assumption) ?_
 rotate_left
 · intro w hSw; (try dsimp only at hSw); first | (go_simp; done) | (go_simp; with_reducible rfl)
 try go_frame
 refine wpAnyH_take (i := 14) (oi := ⟨some 28, .nilCheck (.tmp 27), 0, "ref.go:184", #[⟨13, .data⟩, ⟨8, .guard⟩], some (8, false)⟩) (v := ?_) rfl (by kernel_rfl) (by kernel_rfl) (by kernel_rfl) (fun _ _ _ h => h) (Or.inl ⟨by rfl, ?_⟩) (by assumption) ?_
 rotate_left
 · intro w hSw; (try dsimp only at hSw); first | (go_simp; done) | (go_simp; with_reducible rfl)
 try go_frame
 refine wpAnyH_take (i := 15) (oi := ⟨some 29, .fieldAddr 59 (.tmp 28) 1, 0, "ref.go:184", #[⟨14, .data⟩, ⟨8, .guard⟩], some (8, false)⟩) (v := ?_) rfl (by kernel_rfl) (by kernel_rfl) (by kernel_rfl) (fun _ _ _ h => h) (Or.inl ⟨by rfl, ?_⟩) (by assumption) ?_
 rotate_left
 · intro w hSw; (try dsimp only at hSw); first | (go_simp; done) | (go_simp; with_reducible rfl)
 try go_frame
 refine wpAnyH_take (i := 16) (oi := ⟨some 30, .load 3 (.tmp 29), 3, "ref.go:184", #[⟨15, .data⟩, ⟨8, .guard⟩], some (8, false)⟩) (v := ?_) rfl (by kernel_rfl) (by kernel_rfl) (by kernel_rfl) (fun _ _ _ h => h) (Or.inl ⟨by rfl, ?_⟩) (by assumption) ?_
 rotate_left
 · intro w hSw; (try dsimp only at hSw); first | (go_simp; done) | (go_simp; with_reducible rfl)
 try go_frame
 refine wpAnyH_take (i := 17) (oi := ⟨some 31, .binOp .add 3 (.tmp 30) (.const (.int .i64 1)) 3, 3, "ref.go:184", #[⟨16, .data⟩, ⟨8, .guard⟩], some (8, false)⟩) (v := ?_) rfl (by kernel_rfl) (by kernel_rfl) (by kernel_rfl) (fun _ _ _ h => h) (Or.inl ⟨by rfl, ?_⟩) (by assumption) ?_
 rotate_left
 · intro w hSw; (try dsimp only at hSw); first | (go_simp; done) | (go_simp; with_reducible rfl)
 try go_frame
 refine wpAnyH_take (i := 18) (oi := ⟨some 32, .indexAddr 54 (.tmp 26) (.tmp 31), 0, "ref.go:184", #[⟨12, .data⟩, ⟨17, .data⟩, ⟨8, .guard⟩], some (8, false)⟩) (v := ?_) rfl (by kernel_rfl) (by kernel_rfl) (by kernel_rfl) (fun _ _ _ h => h) (Or.inl ⟨by rfl, ?_⟩) (by assumption) ?_
 rotate_left
 · intro w hSw; (try dsimp only at hSw); first | (go_simp; done) | (go_simp; with_reducible rfl)
 try go_frame
 refine wpAnyH_take (i := 19) (oi := ⟨some 33, .fieldAddr 62 (.tmp 32) 0, 0, "ref.go:184", #[⟨18, .data⟩, ⟨8, .guard⟩], some (8, false)⟩) (v := ?_) rfl (by kernel_rfl) (by kernel_rfl) (by kernel_rfl) (fun _ _ _ h => h) (Or.inl ⟨by rfl, ?_⟩) (by assumption) ?_
 rotate_left
 · intro w hSw; (try dsimp only at hSw); first | (go_simp; done) | (go_simp; with_reducible rfl)
 try go_frame
 refine wpAnyH_take (i := 20) (oi := ⟨some 34, .load 3 (.tmp 33), 3, "ref.go:184", #[⟨19, .data⟩, ⟨8, .guard⟩], some (8, false)⟩) (v := ?_) rfl (by kernel_rfl) (by kernel_rfl) (by kernel_rfl) (fun _ _ _ h => h) (Or.inl ⟨by rfl, ?_⟩) (by assumption) ?_
 rotate_left
 · intro w hSw; (try dsimp only at hSw); first | (go_simp; done) | (go_simp; with_reducible rfl)
 try go_frame
 refine wpAnyH_take (i := 21) (oi := ⟨some 35, .binOp .neq 3 (.tmp 34) (.const (.int .i64 3)) 3, 4, "ref.go:184", #[⟨20, .data⟩, ⟨8, .guard⟩], some (8, false)⟩) (v := ?_) rfl (by kernel_rfl) (by kernel_rfl) (by kernel_rfl) (fun _ _ _ h => h) (Or.inl ⟨by rfl, ?_⟩) (by assumption) ?_
 rotate_left
 · intro w hSw; (try dsimp only at hSw); first | (go_simp; done) | (go_simp; with_reducible rfl)
 try go_frame
 refine wpAnyH_take (i := 22) (oi := ⟨some 36, .pick (.tmp 22) (.const (.bool true)) (.tmp 35), 4, "ref.go:184", #[⟨8, .data⟩, ⟨21, .data⟩], none⟩) (v := ?_) rfl (by kernel_rfl) (by kernel_rfl) (by kernel_rfl) (fun _ _ _ h => h) (Or.inl ⟨by rfl, ?_⟩) (by assumption) ?_
 rotate_left
 · intro w hSw; (try dsimp only at hSw); first | (go_simp; done) | (go_simp; with_reducible rfl)
 try go_frame
 refine wpAnyH_take (i := 23) (oi := ⟨some 37, .move (.tmp 36), 4, "ref.go:184", #[⟨22, .data⟩, ⟨8, .chain⟩], none⟩) (v := ?_) rfl (by kernel_rfl) (by kernel_rfl) (by kernel_rfl) (fun _ _ _ h => h) (Or.inl ⟨by rfl, ?_⟩) (by assumption) ?_
 rotate_left
 · intro w hSw; (try dsimp only at hSw); first | (go_simp; done) | (go_simp; with_reducible rfl)
 try go_frame
 refine wpAnyH_take (i := 24) (oi := ⟨some 38, .move (.tmp 0), 57, "ref.go:184", #[⟨23, .guard⟩], some (23, false)⟩) (v := ?_) rfl (by kernel_rfl) (by kernel_rfl) (by kernel_rfl) (fun _ _ _ h => h) (Or.inl ⟨by rfl, ?_⟩) (by assumption) ?_
 rotate_left
 · intro w hSw; (try dsimp only at hSw); first | (go_simp; done) | (go_simp; with_reducible rfl)
 try go_frame
 refine wpAnyH_take (i := 25) (oi := ⟨some 39, .nilCheck (.tmp 38), 0, "ref.go:184", #[⟨24, .data⟩, ⟨23, .guard⟩], some (23, false)⟩) (v := ?_) rfl (by kernel_rfl) (by kernel_rfl) (by kernel_rfl) (fun _ _ _ h => h) (Or.inl ⟨by rfl, ?_⟩) (by assumption) ?_
 rotate_left
 · intro w hSw; (try dsimp only at hSw); first | (go_simp; done) | (go_simp; with_reducible rfl)
 try go_frame
 refine wpAnyH_take (i := 26) (oi := ⟨some 40, .fieldAddr 59 (.tmp 39) 0, 0, "ref.go:184", #[⟨25, .data⟩, ⟨23, .guard⟩], some (23, false)⟩) (v := ?_) rfl (by kernel_rfl) (by kernel_rfl) (by kernel_rfl) (fun _ _ _ h => h) (Or.inl ⟨by rfl, ?_⟩) (by assumption) ?_
 rotate_left
 · intro w hSw; (try dsimp only at hSw); first | (go_simp; done) | (go_simp; with_reducible rfl)
 try go_frame
 refine wpAnyH_take (i := 27) (oi := ⟨some 41, .load 54 (.tmp 40), 54, "ref.go:184", #[⟨26, .data⟩, ⟨23, .guard⟩], some (23, false)⟩) (v := ?_) rfl (by kernel_rfl) (by kernel_rfl) (by kernel_rfl) (fun _ _ _ h => h) (Or.inl ⟨by rfl, ?_⟩) (by assumption) ?_
 rotate_left
 · intro w hSw; (try dsimp only at hSw); first | (go_simp; done) | (go_simp; with_reducible rfl)
 try go_frame
 refine wpAnyH_take (i := 28) (oi := ⟨some 42, .move (.tmp 0), 57, "ref.go:184", #[⟨23, .guard⟩], some (23, false)⟩) (v := ?_) rfl (by kernel_rfl) (by kernel_rfl) (by kernel_rfl) (fun _ _ _ h => h) (Or.inl ⟨by rfl, ?_⟩) (by assumption) ?_
 rotate_left
 · intro w hSw; (try dsimp only at hSw); first | (go_simp; done) | (go_simp; with_reducible rfl)
 try go_frame
 refine wpAnyH_take (i := 29) (oi := ⟨some 43, .nilCheck (.tmp 42), 0, "ref.go:184", #[⟨28, .data⟩, ⟨23, .guard⟩], some (23, false)⟩) (v := ?_) rfl (by kernel_rfl) (by kernel_rfl) (by kernel_rfl) (fun _ _ _ h => h) (Or.inl ⟨by rfl, ?_⟩) (by assumption) ?_
 rotate_left
 · intro w hSw; (try dsimp only at hSw); first | (go_simp; done) | (go_simp; with_reducible rfl)
 try go_frame
 refine wpAnyH_take (i := 30) (oi := ⟨some 44, .fieldAddr 59 (.tmp 43) 1, 0, "ref.go:184", #[⟨29, .data⟩, ⟨23, .guard⟩], some (23, false)⟩) (v := ?_) rfl (by kernel_rfl) (by kernel_rfl) (by kernel_rfl) (fun _ _ _ h => h) (Or.inl ⟨by rfl, ?_⟩) (by assumption) ?_
 rotate_left
 · intro w hSw; (try dsimp only at hSw); first | (go_simp; done) | (go_simp; with_reducible rfl)
 try go_frame
 refine wpAnyH_take (i := 31) (oi := ⟨some 45, .load 3 (.tmp 44), 3, "ref.go:184", #[⟨30, .data⟩, ⟨23, .guard⟩], some (23, false)⟩) (v := ?_) rfl (by kernel_rfl) (by kernel_rfl) (by kernel_rfl) (fun _ _ _ h => h) (Or.inl ⟨by rfl, ?_⟩) (by assumption) ?_
 rotate_left
 · intro w hSw; (try dsimp only at hSw); first | (go_simp; done) | (go_simp; with_reducible rfl)
 try go_frame
 refine wpAnyH_take (i := 32) (oi := ⟨some 46, .binOp .add 3 (.tmp 45) (.const (.int .i64 1)) 3, 3, "ref.go:184", #[⟨31, .data⟩, ⟨23, .guard⟩], some (23, false)⟩) (v := ?_) rfl (by kernel_rfl) (by kernel_rfl) (by kernel_rfl) (fun _ _ _ h => h) (Or.inl ⟨by rfl, ?_⟩) (by assumption) ?_
 rotate_left
 · intro w hSw; (try dsimp only at hSw); first | (go_simp; done) | (go_simp; with_reducible rfl)
 try go_frame
 refine wpAnyH_take (i := 33) (oi := ⟨some 47, .indexAddr 54 (.tmp 41) (.tmp 46), 0, "ref.go:184", #[⟨27, .data⟩, ⟨32, .data⟩, ⟨23, .guard⟩], some (23, false)⟩) (v := ?_) rfl (by kernel_rfl) (by kernel_rfl) (by kernel_rfl) (fun _ _ _ h => h) (Or.inl ⟨by rfl, ?_⟩) (by assumption) ?_
 rotate_left
 · intro w hSw; (try dsimp only at hSw); first | (go_simp; done) | (go_simp; with_reducible rfl)
 try go_frame
 refine wpAnyH_take (i := 34) (oi := ⟨some 48, .fieldAddr 62 (.tmp 47) 2, 0, "ref.go:184", #[⟨33, .data⟩, ⟨23, .guard⟩], some (23, false)⟩) (v := ?_) rfl (by kernel_rfl) (by kernel_rfl) (by kernel_rfl) (fun _ _ _ h => h) (Or.inl ⟨by rfl, ?_⟩) (by assumption) ?_
 rotate_left
 · intro w hSw; (try dsimp only at hSw); first | (go_simp; done) | (go_simp; with_reducible rfl)
 try go_frame
 refine wpAnyH_take (i := 35) (oi := ⟨some 49, .load 9 (.tmp 48), 9, "ref.go:184", #[⟨34, .data⟩, ⟨23, .guard⟩], some (23, false)⟩) (v := ?_) rfl (by kernel_rfl) (by kernel_rfl) (by kernel_rfl) (fun _ _ _ h => h) (Or.inl ⟨by rfl, ?_⟩) (by assumption) ?_
 rotate_left
 · intro w hSw; (try dsimp only at hSw); first | (go_simp; done) | (go_simp; with_reducible rfl)
 try go_frame
 refine wpAnyH_take (i := 36) (oi := ⟨some 50, .binOp .neq 9 (.tmp 49) (.const (.string ⟨#[58]⟩)) 9, 4, "ref.go:184", #[⟨35, .data⟩, ⟨23, .guard⟩], some (23, false)⟩) (v := ?_) rfl (by kernel_rfl) (by kernel_rfl) (by kernel_rfl) (fun _ _ _ h => h) (Or.inl ⟨by rfl, ?_⟩) (by assumption) ?_
 rotate_left
 · intro w hSw; (try dsimp only at hSw); first | (go_simp; done) | (go_simp; with_reducible rfl)
 try go_frame
 refine wpAnyH_take (i := 37) (oi := ⟨some 51, .pick (.tmp 37) (.const (.bool true)) (.tmp 50), 4, "ref.go:184", #[⟨23, .data⟩, ⟨36, .data⟩], none⟩) (v := ?_) rfl (by kernel_rfl) (by kernel_rfl) (by kernel_rfl) (fun _ _ _ h => h) (Or.inl ⟨by rfl, ?_⟩) (by assumption) ?_
 rotate_left
 · intro w hSw; (try dsimp only at hSw); first | (go_simp; done) | (go_simp; with_reducible rfl)
 try go_frame
 refine wpAnyH_done (by kernel_rfl) ?_ _
 have HX9 : Hid (Ext W w9 ∧ BlkX w9 W.heap.size tz (.slice none 0 0) ∧ Blk w9 w2.heap.size (.int .i64 r.1) (.int .i64 r.2.1) (.bool r.2.2.1) (.bool r.2.2.2)) := ⟨X9, HV.out.1.ext ((Ext.refl V3).drew.trans E9), HV.out.2.2.ext ((Ext.refl V3).drew.trans E9)⟩
 have hg2 : w2.heap.size ≠ b := by omega
 have hw9 : w2.heap.size < w9.heap.size := HX9.out.2.2.1
 clear X9 E9 mkS HUU hii hit hiw hi0 n3 n58 n59 c1 cP kf0 kf2 HV
 go_wp2_with fail
 refine (rnext_any (HR.out.ext HX9.out.1)).mono ?_
 rintro e w4 ⟨rfl, R4, X4⟩
 have H4 : Hid (Rp w0 b w4 (nx ts) d pa 0 ∧ ExtB b W w4 ∧ BlkX w4 W.heap.size tz (.slice none 0 0) ∧ Blk w4 w2.heap.size (.int .i64 r.1) (.int .i64 r.2.1) (.bool r.2.2.1) (.bool r.2.2.2)) := ⟨R4, (HX9.out.1.toB b).trans X4, HX9.out.2.1.extB X4 hgW, HX9.out.2.2.extB X4 hg2⟩
 clear R4 X4 HX9
 go_wp2_with fail
 refine (rnext_any H4.out.1).mono ?_
 rintro e w5 ⟨rfl, R5, X5⟩
 rw [HNX.out.1] at R5
 have H5 : Hid (Rp w0 b w5 ts.tail.tail d pa 0 ∧ ExtB b W w5 ∧ BlkX w5 W.heap.size tz (.slice none 0 0) ∧ Blk w5 w2.heap.size (.int .i64 r.1) (.int .i64 r.2.1) (.bool r.2.2.1) (.bool r.2.2.2)) := ⟨R5, H4.out.2.1.trans X5, H4.out.2.2.1.extB X5 hgW, H4.out.2.2.2.extB X5 hg2⟩
 clear R5 X5 H4
 have c1 := fun V e => rt_any (H5.out.1.ext (W' := V) e)
 unfold tkA at c1
 have kf0 := fun W => tkf0 (hd ts.tail.tail) W
 have kf2 := fun W => tkf2 (hd ts.tail.tail) W
 obtain ⟨v, hv⟩ : ∃ v, hd ts.tail.tail = v := ⟨_, rfl⟩
 have HVV : Hid (hd ts.tail.tail = v) := hv
 rw [hv] at c1 kf0 kf2 cQ HXE HXG
 clear hv
 obtain ⟨r2, hr2⟩ : ∃ r2, prf v.2.2.1 = r2 := ⟨_, rfl⟩
 rw [hr2] at cQ
 have HR2 : Hid (prf v.2.2.1 = r2) := hr2
 clear hr2
 obtain ⟨ok2, hok2⟩ : ∃ ok2, okP v.2.2.1 = ok2 := ⟨_, rfl⟩
 rw [hok2] at cQ HXE HXG
 clear hok2
 go_wp2_with fail
 refine (c1 _ (Ext.refl _)).mono ?_
 rintro e w6 ⟨rfl, E6⟩
 have HE6 : Hid (Ext w5 w6) := E6
 clear E6
 go_wp2_with fail
 refine (cQ _).mono ?_
 rintro e w7 ⟨rfl, E7⟩
 have HE7 : Hid (Ext w5 w7) := HE6.out.trans E7
 clear E7 HE6
 have hw7 : w2.heap.size < w7.heap.size := (H5.out.2.2.2.ext HE7.out).1
 have E8 : Ext w7 (w7.alloc (.cells #[.int .i64 r2.1, .int .i64 r2.2.1, .bool r2.2.2.1, .bool r2.2.2.2] 26)) := (Ext.refl _).alloc _
 have B8 := blk_top (b := w7.heap.size) rfl (Ext.refl (w7.alloc (.cells #[.int .i64 r2.1, .int .i64 r2.2.1, .bool r2.2.2.1, .bool r2.2.2.2] 26)))
 have H8 : Hid (Ext w5 (w7.alloc (.cells #[.int .i64 r2.1, .int .i64 r2.2.1, .bool r2.2.2.1, .bool r2.2.2.2] 26)) ∧ Blk (w7.alloc (.cells #[.int .i64 r2.1, .int .i64 r2.2.1, .bool r2.2.2.1, .bool r2.2.2.2] 26)) w7.heap.size (.int .i64 r2.1) (.int .i64 r2.2.1) (.bool r2.2.2.1) (.bool r2.2.2.2)) := ⟨HE7.out.trans E8, B8⟩
 clear E8 B8 cQ
 cases ok2
 · have HXX : Hid (∃ f, argm (frm (O n)) d ts = .error f) := HXE.out (fun h => by cases h.2)
   clear HXE HXG
   go_wp2_with fail
   refine (rbad_any (H5.out.1.ext H8.out.1) 4).mono ?_
   rintro e w10 ⟨rfl, R10, X10⟩
   have H10 : Hid (ExtB b W w10 ∧ BlkX w10 W.heap.size tz (.slice none 0 0) ∧ ∃ pa' why', why' ≠ 0 ∧ Rp w0 b w10 ts.tail.tail d pa' why') := ⟨(H5.out.2.1.trans (Ext.toB H8.out.1 b)).trans X10, (H5.out.2.2.1.ext H8.out.1).extB X10 hgW, _, _, by decide, R10⟩
   clear R10 X10
   have HB0 := H10.out.2.1
   obtain ⟨qa, ⟨la0, la1, la2, la3, la4, la5, la6, la7, la8, la9, la10, la11, la12⟩, ga0, ga1, ga2, ga3, ga4, ga5, ga6, ga7, ga8, ga9, ga10, ga11, ga12⟩ := HB0
   go_wp2_with fail
   show bodyPost Try.prog _ _ _ _ (putX w10 W.heap.size tz (.slice none 0 0))
   obtain ⟨f, hf⟩ := HXX.out
   obtain ⟨pa', why', z1, z2⟩ := H10.out.2.2
   exact endR (H10.out.2.1.put tz (.slice none 0 0)) rfl (RY.back ⟨putX_B H10.out.1 (Nat.le_refl _) _ _, .inr ⟨f, ts.tail.tail, d, pa', why', hf, by omega, Int.le_refl _, z1, HNX.out.2.2, putX_R z2 hgW HN.out.2.2 _ _⟩⟩) (fun h0 h1 h2 h3 h4 h5 h6 h7 h8 h9 h10 h11 h12 => by simp [results, Try.results75, go_sem, h0, h1, h2, h3, h4, h5, h6, h7, h8, h9, h10, h11, h12, aggX])
 · by_cases hk2 : v.1 = 2
   · have m2 : (v.1 != 2) = false := by rw [hk2]; rfl
     have HXX := HXG.out hk2 rfl
     have HXX : Hid (argm (frm (O n)) d ts = .ok (tRange (rfP (hd ts).2.2.1) (rfP v.2.2.1), ts.tail.tail.tail) ∧ prf (hd ts).2.2.1 = rfP (hd ts).2.2.1 ∧ prf v.2.2.1 = rfP v.2.2.1 ∧ nx ts.tail.tail = ts.tail.tail.tail) := HXX
     clear HXE HXG hk2
     go_wp2_with fail
     refine (c1 _ H8.out.1).mono ?_
     rintro e w8 ⟨rfl, E8⟩
     have HE8 : Hid (Ext w5 w8 ∧ Blk w8 w7.heap.size (.int .i64 r2.1) (.int .i64 r2.2.1) (.bool r2.2.2.1) (.bool r2.2.2.2)) := ⟨H8.out.1.trans E8, H8.out.2.ext E8⟩
     clear E8
     go_wp2_with fail
     refine (rnext_any (H5.out.1.ext HE8.out.1)).mono ?_
     rintro e w10 ⟨rfl, R10, X10⟩
     have H10 : Hid (Rp w0 b w10 (nx ts.tail.tail) d pa 0 ∧ ExtB b W w10 ∧ BlkX w10 W.heap.size tz (.slice none 0 0)) := ⟨R10, (H5.out.2.1.trans (Ext.toB HE8.out.1 b)).trans X10, (H5.out.2.2.1.ext HE8.out.1).extB X10 hgW⟩
     obtain ⟨zr, ⟨p0, p1, p2, p3⟩, zrf⟩ := (H5.out.2.2.2.ext HE8.out.1).extB X10 hg2
     obtain ⟨zq, ⟨q0, q1, q2, q3⟩, zqf⟩ := HE8.out.2.extB X10 (by omega)
     clear R10 X10 zrf zqf
     have HB0 := H10.out.2.2
     obtain ⟨qa, ⟨la0, la1, la2, la3, la4, la5, la6, la7, la8, la9, la10, la11, la12⟩, ga0, ga1, ga2, ga3, ga4, ga5, ga6, ga7, ga8, ga9, ga10, ga11, ga12⟩ := HB0
     go_wp2_with fail
     show bodyPost Try.prog _ _ _ _ (putX w10 W.heap.size (tRange r r2) (.slice none 0 0))
     have e1 : r = rfP (hd ts).2.2.1 := by rw [← HXX.out.2.1, HRF.out]
     have e2 : r2 = rfP v.2.2.1 := by rw [← HXX.out.2.2.1, HR2.out]
     have R11 := H10.out.1
     rw [HXX.out.2.2.2] at R11
     rw [HXX.out.1, ← e1, ← e2]
     exact endR (H10.out.2.2.put (tRange r r2) (.slice none 0 0)) rfl (RY.back ⟨putX_B H10.out.2.1 (Nat.le_refl _) _ _, .inl ⟨ts.tail.tail.tail, pa, rfl, .nil, putX_R R11 hgW HN.out.2.2 _ _⟩⟩) (fun h0 h1 h2 h3 h4 h5 h6 h7 h8 h9 h10 h11 h12 => by simp [results, Try.results75, go_sem, h0, h1, h2, h3, h4, h5, h6, h7, h8, h9, h10, h11, h12, aggX])
   · have m2 : (v.1 != 2) = true := by simpa using hk2
     have HXX : Hid (∃ f, argm (frm (O n)) d ts = .error f) := HXE.out (fun h => hk2 h.1)
     clear HXE HXG hk2
     go_wp2_with fail
     refine (c1 _ H8.out.1).mono ?_
     rintro e w8 ⟨rfl, E8⟩
     have HE8 : Hid (Ext w5 w8) := H8.out.1.trans E8
     clear E8
     go_wp2_with fail
     refine (rbad_any (H5.out.1.ext HE8.out) 4).mono ?_
     rintro e w10 ⟨rfl, R10, X10⟩
     have H10 : Hid (ExtB b W w10 ∧ BlkX w10 W.heap.size tz (.slice none 0 0) ∧ ∃ pa' why', why' ≠ 0 ∧ Rp w0 b w10 ts.tail.tail d pa' why') := ⟨(H5.out.2.1.trans (Ext.toB HE8.out b)).trans X10, (H5.out.2.2.1.ext HE8.out).extB X10 hgW, _, _, by decide, R10⟩
     clear R10 X10
     have HB0 := H10.out.2.1
     obtain ⟨qa, ⟨la0, la1, la2, la3, la4, la5, la6, la7, la8, la9, la10, la11, la12⟩, ga0, ga1, ga2, ga3, ga4, ga5, ga6, ga7, ga8, ga9, ga10, ga11, ga12⟩ := HB0
     go_wp2_with fail
     show bodyPost Try.prog _ _ _ _ (putX w10 W.heap.size tz (.slice none 0 0))
     obtain ⟨f, hf⟩ := HXX.out
     obtain ⟨pa', why', z1, z2⟩ := H10.out.2.2
     exact endR (H10.out.2.1.put tz (.slice none 0 0)) rfl (RY.back ⟨putX_B H10.out.1 (Nat.le_refl _) _ _, .inr ⟨f, ts.tail.tail, d, pa', why', hf, by omega, Int.le_refl _, z1, HNX.out.2.2, putX_R z2 hgW HN.out.2.2 _ _⟩⟩) (fun h0 h1 h2 h3 h4 h5 h6 h7 h8 h9 h10 h11 h12 => by simp [results, Try.results75, go_sem, h0, h1, h2, h3, h4, h5, h6, h7, h8, h9, h10, h11, h12, aggX])
theorem rargument_any (w0 : World) (b n : Nat) (hX : ExC w0 b n n) (W : World) (ts : List Tk) (d : Nat) (pa : Int) (h : Rp w0 b W ts d pa 0) (hts : ts.length ≤ n) (hd4 : d ≤ 40) :
   Calls Try.prog 75 #[.pointer (some ⟨b, 0, none⟩)] W (RX w0 b W ts.length (d - 1) d (argm (frm (O n)) d ts)) := by
 cases ho : okP (hd ts).2.2.1 with
 | false => exact argument_a w0 b n hX W ts d pa h hts hd4 ho
 | true =>
   by_cases hk : (hd ts).1 = 2
   · by_cases hn3 : (hd ts.tail).1 = 3
     · by_cases h58 : (hd ts.tail).2.2.1 = [58]
       · exact argument_r w0 b n hX W ts d pa h hts hd4 ho hk hn3 h58
       · exact argument_d w0 b n hX W ts d pa h hts hd4 ho hk hn3 h58
     · exact argument_c w0 b n hX W ts d pa h hts hd4 ho hk hn3
   · exact argument_b w0 b n hX W ts d pa h hts hd4 ho hk
open Go.RowKit
def docL (F : Rd) (b d : Nat) : Nat → List T → List Tk → Except Ft (List T × List Tk)
 | 0, _, ts => .error (ft ts false)
 | f + 1, l, ts => match argm F d ts with
   | .error e => .error e
   | .ok (x, ts1) => if l.length + 1 < b ∧ isSg [44] ts1 = true then docL F b d f (l ++ [x]) ts1.tail else .ok (l ++ [x], ts1)
def chk (a : Nat) (r : Except Ft (List T × List Tk)) : Except Ft (List T × List Tk) := match r with
 | .error e => .error e
 | .ok (l, us) => if l.length < a then .error (ft us false) else .ok (l, us)
theorem chk_lt {a : Nat} {l : List T} {us : List Tk} (h : l.length < a) : chk a (.ok (l, us)) = .error (ft us false) := if_pos h
theorem chk_ge {a : Nat} {l : List T} {us : List Tk} (h : ¬ l.length < a) : chk a (.ok (l, us)) = .ok (l, us) := if_neg h
def docA (F : Rd) (a b d : Nat) (ts : List Tk) : Except Ft (List T × List Tk) := chk a (docL F b d ts.length [] ts)
def Eqv {α : Type} (r s : Except Ft α) : Prop := (∃ e f, r = .error e ∧ s = .error f) ∨ r = s
theorem Eqv.err {α : Type} {r s : Except Ft α} {e : Ft} (h : Eqv r s) (hs : s = .error e) : ∃ f, r = .error f := by
 rcases h with ⟨e, f, h1, _⟩ | h
 · exact ⟨_, h1⟩
 · exact ⟨_, h.trans hs⟩
theorem Eqv.ok {α : Type} {r s : Except Ft α} {x : α} (h : Eqv r s) (hs : s = .ok x) : r = .ok x := by
 rcases h with ⟨e, f, _, h1⟩ | h
 · rw [hs] at h1; cases h1
 · exact h.trans hs
theorem argl_doc {n : Nat} {F : Rd} (hF : ShF n F) {a b d : Nat} (hd4 : d ≤ 40) (hab : a ≤ b) : ∀ (f g : Nat) (l : List T) (ts : List Tk), Nz ts → ts.length ≤ n → ts.length ≤ f → ts.length ≤ g →
   Eqv (argl F a b d f l ts) (if l.length < b ∧ isSg [44] ts = true then chk a (docL F b d g l ts.tail) else if l.length < a then .error (ft ts false) else .ok (l, ts)) := by
 intro f
 induction f with
 | zero => intro g l ts h _ h1 _; have := h.pos; omega
 | succ f ih =>
   intro g l ts h hn h1 h2
   obtain ⟨g, rfl⟩ : ∃ k, g = k + 1 := ⟨g - 1, by have := h.pos; omega⟩
   by_cases hc : l.length < b ∧ isSg [44] ts = true
   · rw [if_pos hc, argl, if_pos (.inr hc)]
     have hp : pass1 [44] d ts = .ok ts.tail := by unfold pass1; rw [if_pos hc.2, tk1_ok hd4]
     rw [hp]
     have s2 := h.tail (by rw [(isSg_k hc.2).1]; decide)
     have a2 := s2.2
     unfold docL
     dsimp only
     cases hr : argm F d ts.tail with
     | error e => exact .inl ⟨_, _, rfl, rfl⟩
     | ok q =>
       obtain ⟨x, ts1⟩ := q
       have s1 := argm_sh hF d ts.tail s2.1 (by omega) x ts1 hr
       have a1 := s1.2
       have i := ih g (l ++ [x]) ts1 s1.1 (by omega) (by omega) (by omega)
       dsimp only
       have el : (l ++ [x]).length = l.length + 1 := by simp
       rw [el] at i
       by_cases hc2 : l.length + 1 < b ∧ isSg [44] ts1 = true
       · rw [if_pos hc2] at i ⊢
         exact i
       · rw [if_neg hc2] at i ⊢
         rw [← el] at i
         exact i
   · rw [if_neg hc, argl]
     by_cases ha : l.length < a
     · rw [if_pos (.inl ha), if_pos ha]
       have hs : isSg [44] ts = false := by
         cases hs : isSg [44] ts with
         | false => rfl
         | true => exact absurd ⟨by omega, hs⟩ hc
       have hp : pass1 [44] d ts = .error (ft ts false) := by unfold pass1; rw [hs]; rfl
       rw [hp]
       exact .inl ⟨_, _, rfl, rfl⟩
     · rw [if_neg (by rintro (h | h); exact ha h; exact hc h), if_neg ha]
       exact .inr rfl
theorem args_doc {n : Nat} {F : Rd} (hF : ShF n F) {a b d : Nat} (hd4 : d ≤ 40) (hab : a ≤ b) {ts : List Tk} (h : Nz ts) (hn : ts.length ≤ n) : Eqv (args F a b d ts) (docA F a b d ts) := by
 unfold args docA
 obtain ⟨g, hg⟩ : ∃ k, ts.length = k + 1 := ⟨ts.length - 1, by have := h.pos; omega⟩
 rw [hg]
 unfold docL
 cases hr : argm F d ts with
 | error e => exact .inl ⟨_, _, rfl, rfl⟩
 | ok q =>
   obtain ⟨x, ts1⟩ := q
   have s1 := argm_sh hF d ts h hn x ts1 hr
   have a1 := s1.2
   have i := argl_doc hF hd4 hab ts1.length g [x] ts1 s1.1 (by omega) (Nat.le_refl _) (by omega)
   dsimp only
   have el : ([] ++ [x] : List T) = [x] := rfl
   rw [el]
   have e2 : ([] : List T).length + 1 = [x].length := rfl
   rw [e2]
   by_cases hc2 : [x].length < b ∧ isSg [44] ts1 = true
   · rw [if_pos hc2] at i ⊢
     exact i
   · rw [if_neg hc2] at i ⊢
     exact i
theorem kno_bd {s : List UInt8} {q : Nat × Nat} (h : kno s = some q) : 1 ≤ q.1 ∧ q.1 ≤ q.2 ∧ q.2 ≤ 20 ∧ s ≠ wTrue ∧ s ≠ wFalse ∧ okP s = false := by
 have ho : okP s = false := by
   cases ho : okP s with
   | false => rfl
   | true => rw [(kno_ok ho).1] at h; cases h
 refine ⟨?_, ?_, ?_, ?_, ?_, ho⟩
 all_goals
   unfold kno at h
   repeat' split at h
 all_goals first
   | (cases h; decide)
   | (rename_i hs; cases h; intro e; subst e; exact absurd hs (by decide))
   | (intro e; subst e; rename_i hs _ _ _ _; first | exact absurd hs (by decide) | (cases h))
   | cases h
   | (intro e; subst e; cases h; contradiction)
end Go.Proofs.Ytjhmbkdkjgjoaaa

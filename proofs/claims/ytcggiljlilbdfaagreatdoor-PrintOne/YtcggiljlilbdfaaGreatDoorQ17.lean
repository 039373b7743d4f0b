/-
 A struct of 2 fields in a block of its own: laid, kept, stored; the end of a function whose result lies in one.
 The contracts of the reader's small steps: here, isSign, take, pass.
 The contracts of Known and binds (Power), of package parse and of the document.
 What is read of words hangs on no place; and of words that another closing bracket or comma ends, the same is read as at the end, or they lie too deep. Plain mathematics: no program in sight.
-/
import Derived.Test.YtcggiljlilbdfaaGreatDoorQ1
import Derived.Test.YtcggiljlilbdfaaGreatDoorQ11
import Derived.Test.YtcggiljlilbdfaaGreatDoorQ10
namespace Go.Proofs.YtcggiljlilbdfaaGreatDoor
open Go.RowKit
set_option maxHeartbeats 1000000

def Blk2 (W : World) (b : Nat) (x0 x1 : Value) : Prop := b < W.heap.size ∧
 (W.cell? ⟨b, 0, none⟩ = some x0 ∧ W.cell? ⟨b, 1, none⟩ = some x1) ∧
 (W.frozen? ⟨b, 0, none⟩ = false ∧ W.frozen? ⟨b, 1, none⟩ = false)
theorem blk2_top {w w1 : World} {x0 x1 : Value} {T : TypeId} {b : Nat} (hb : b = w.heap.size) (E : Ext (w.alloc (.cells #[x0, x1] T)) w1) : Blk2 w1 b x0 x1 := by
 subst hb
 have hs : w.heap.size < (w.alloc (.cells #[x0, x1] T)).heap.size := by simp
 have k := fun o => E.cell.1 w.heap.size o hs
 have f := fun o => E.cell.2 w.heap.size o hs
 refine ⟨Nat.lt_of_lt_of_le hs E.sz, ⟨(k 0).trans ?_, (k 1).trans ?_⟩, (f 0).trans ?_, (f 1).trans ?_⟩
 all_goals simp [go_sem]
theorem Blk2.ext {w w' : World} {b : Nat} {x0 x1 : Value} (h : Blk2 w b x0 x1) (e : Ext w w') : Blk2 w' b x0 x1 := by
 obtain ⟨z, ⟨k0, k1⟩, f0, f1⟩ := h
 have k := fun o => e.cell.1 b o z
 have f := fun o => e.cell.2 b o z
 exact ⟨Nat.lt_of_lt_of_le z e.sz, ⟨(k 0).trans k0, (k 1).trans k1⟩, (f 0).trans f0, (f 1).trans f1⟩
theorem Blk2.far1 {w : World} {b c : Nat} {x0 x1 : Value} (h : Blk2 w b x0 x1) (hc : c ≠ b) (o : Nat) (v : Value) : Blk2 (w.setCell ⟨c, o, none⟩ v) b x0 x1 := by
 obtain ⟨z, ⟨k0, k1⟩, f0, f1⟩ := h
 refine ⟨by simpa [World.setCell] using z, ⟨?_, ?_⟩, ?_, ?_⟩
 · rw [World.cell?_setCell_far _ _ _ _ hc]; exact k0
 · rw [World.cell?_setCell_far _ _ _ _ hc]; exact k1
 · rw [World.frozen?_setCell]; exact f0
 · rw [World.frozen?_setCell]; exact f1
theorem Blk2.far {w : World} {b c : Nat} {x0 x1 : Value} (h : Blk2 w b x0 x1) (hc : c ≠ b) (y0 y1 : Value) :
   Blk2 ((w.setCell ⟨c, 0, none⟩ y0).setCell ⟨c, 1, none⟩ y1) b x0 x1 := ((h.far1 hc _ _).far1 hc _ _)
theorem Blk2.put0 {w : World} {b : Nat} {x0 x1 : Value} (h : Blk2 w b x0 x1) (v : Value) : Blk2 (w.setCell ⟨b, 0, none⟩ v) b v x1 := by
 obtain ⟨z, ⟨k0, k1⟩, f0, f1⟩ := h
 have e := World.cell?_setCell_same w ⟨b, 0, none⟩ v (by rw [k0])
 refine ⟨by simpa [World.setCell] using z, ⟨e, ?_⟩, ?_, ?_⟩
 · rw [World.cell?_setCell_other _ _ _ _ (by simp)]; exact k1
 · rw [World.frozen?_setCell]; exact f0
 · rw [World.frozen?_setCell]; exact f1
theorem Blk2.put1 {w : World} {b : Nat} {x0 x1 : Value} (h : Blk2 w b x0 x1) (v : Value) : Blk2 (w.setCell ⟨b, 1, none⟩ v) b x0 v := by
 obtain ⟨z, ⟨k0, k1⟩, f0, f1⟩ := h
 have e := World.cell?_setCell_same w ⟨b, 1, none⟩ v (by rw [k1])
 refine ⟨by simpa [World.setCell] using z, ⟨?_, e⟩, ?_, ?_⟩
 · rw [World.cell?_setCell_other _ _ _ _ (by simp)]; exact k0
 · rw [World.frozen?_setCell]; exact f0
 · rw [World.frozen?_setCell]; exact f1
theorem Blk2.set {w : World} {b : Nat} {o0 o1 : Value} (h : Blk2 w b o0 o1) (x0 x1 : Value) :
   Blk2 ((w.setCell ⟨b, 0, none⟩ x0).setCell ⟨b, 1, none⟩ x1) b x0 x1 := ((h.put0 _).put1 _)
theorem Blk2.dr {w : World} {b : Nat} {x0 x1 : Value} (h : Blk2 w b x0 x1) : Blk2 w.drew b x0 x1 := h.ext (Ext.drew (Ext.refl _))
theorem Blk2.al {w : World} {b : Nat} {x0 x1 : Value} (o : Obj) (h : Blk2 w b x0 x1) : Blk2 (w.alloc o) b x0 x1 := h.ext (Ext.alloc (Ext.refl _) _)
/-- The end of a function whose result, and others beside it, lies in a block of its own. -/
theorem fin2 (v : Value) {fn : Func} {Q : Ending → World → Prop} {a : Act} {w W : World} {b : Nat} {x0 x1 : Value}
   (B : Blk2 W b x0 x1) (hd : a.defers = []) (E : Ext w W)
   (hr : W.cell? ⟨b, 0, none⟩ = some x0 → W.cell? ⟨b, 1, none⟩ = some x1 → (results fn a.tmps).run Tryz.prog W = .ok v W)
   (hQ : Ext w W → Q (.returned v) W) : bodyPost Tryz.prog fn Q .ret a W :=
 bodyPost_ret (hr B.2.1.1 B.2.1.2) hd (hQ E)

open Go.RowKit
set_option maxHeartbeats 1000000

theorem ret5 (v : Value) {fn : Func} {Q : Ending → World → Prop} {a : Act} {W : World} {b : Nat} {x0 x1 x2 x3 x4 : Value} (B : Blk5 W b x0 x1 x2 x3 x4) (hd : a.defers = [])
   (hr : W.cell? ⟨b, 0, none⟩ = some x0 → W.cell? ⟨b, 1, none⟩ = some x1 → W.cell? ⟨b, 2, none⟩ = some x2 → W.cell? ⟨b, 3, none⟩ = some x3 → W.cell? ⟨b, 4, none⟩ = some x4 → (results fn a.tmps).run Tryz.prog W = .ok v W)
   (hQ : Q (.returned v) W) : bodyPost Tryz.prog fn Q .ret a W := bodyPost_ret (hr B.2.1.1 B.2.1.2.1 B.2.1.2.2.1 B.2.1.2.2.2.1 B.2.1.2.2.2.2) hd hQ
theorem here_any (w0 : World) (b d : Nat) (ts : List Tk) (c : Int) (w : World) (h : Stt w0 b w ts d) :
   Calls Tryz.prog 28 #[.pointer (some ⟨b, 0, none⟩), .int .i64 c] w fun e w' => e = .returned (.agg #[.int .i64 (hd ts).2.1, .int .i64 c]) ∧ Ext w w' := by
 have h3 := h.2.2.1
 obtain ⟨tb, off, cc, b0, z0, b1, z1, t0, t1, t2, t3, t4, hne, hc, hp, hs⟩ := h.get
 generalize hd ts = t at *
 generalize ts.length = n at *
 clear h b1 z1 t0 t2 t3 t4
 go_enter Tryz.func28, Tryz.ntmps28
 go_wp2_with fail
 refine fin2 _ (blk2_top rfl (Ext.refl _)) rfl ((Ext.refl w).alloc _) (fun g0 g1 => by simp [results, Tryz.results28, go_sem, g0, g1]) (fun h => ⟨rfl, h⟩)
theorem isSign_any (w0 : World) (b d : Nat) (ts : List Tk) (q : ByteArray) (w : World) (h : Stt w0 b w ts d) :
   Calls Tryz.prog 111 #[.pointer (some ⟨b, 0, none⟩), .string q] w fun e w' => e = .returned (.bool (isSg q.data.toList ts)) ∧ Ext w w' := by
 have h3 := h.2.2.1
 obtain ⟨tb, off, cc, b0, z0, b1, z1, t0, t1, t2, t3, t4, hne, hc, hp, hs⟩ := h.get
 unfold isSg
 generalize hd ts = t at *
 generalize ts.length = n at *
 clear h b1 z1 t1 t3 t4
 go_enter Tryz.func111, Tryz.ntmps111
 go_wp2_with fail
 · rename_i hk
   go_ret
   refine ⟨ret_bool ?_, Ext.refl _⟩
   rw [ByteArray.toList_eq, ByteArray.toList_eq, bs_list, hk]; rfl
 · rename_i hk
   go_ret
   refine ⟨ret_bool ?_, Ext.refl _⟩
   have : (t.1 == 3) = false := by simpa using hk
   rw [this]; rfl
theorem take_any (w0 : World) (b d : Nat) (ts : List Tk) (w : World) (h : Stt w0 b w ts d) (h5 : (hd ts).1 ≠ 5) :
   Calls Tryz.prog 86 #[.pointer (some ⟨b, 0, none⟩)] w (PW w0 b w d (aggT (hd ts)) (tk1 d ts)) := by
 have h3 := h.2.2.1
 have HS : Hid (Stt w0 b w ts d) := h
 have H5 : Hid ((hd ts).1 ≠ 5) := h5
 have ch := fun W hW => here_any w0 b d ts 2 W hW
 obtain ⟨tb, off, cc, b0, z0, b1, z1, t0, t1, t2, t3, t4, hne, hc, hp, hs⟩ := h.get
 have HB : Hid (w.cell? ⟨b, 0, none⟩ = some (.slice (some ⟨tb, off, none⟩) ts.length cc)) := b0
 by_cases hd40 : 40 < d
 · have hI : (40 : Int) < (d : Int) := by omega
   have HX : Hid (tk1 d ts = .error (ft ts true)) := by show _ = _; unfold tk1; rw [if_pos hd40]
   have c1 := ch (w.alloc (.cells #[.int .i64 0, .int .i64 0, .string ⟨#[]⟩, .int .i64 0, .int .i64 0] 45)) (HS.out.ext ((Ext.refl _).alloc _))
   clear h ch h5 t0 t1 t2 t3 t4 b0 z0
   go_enter Tryz.func86, Tryz.ntmps86
   go_wp2_with fail
   refine c1.mono ?_
   rintro e w1 ⟨rfl, E1⟩
   go_wp2_with fail
   rw [HX.out]
   exact ⟨rfl, rfl, ((((Ext.refl w).alloc _).trans E1).toB b)⟩
 · have hI : ¬ (40 : Int) < (d : Int) := by omega
   have HX : Hid (tk1 d ts = .ok ts.tail) := by show _ = _; unfold tk1; rw [if_neg hd40]
   have h2 : ¬ cc = 1 := by have := (HS.out.2.2.2.1.tail H5.out).1.pos; have := (HS.out.2.2.2.1.tail H5.out).2; omega
   clear h ch h5
   go_enter Tryz.func86, Tryz.ntmps86
   go_wp2_with fail
   have hz : w.heap.size = (w.setCell ⟨b, 0, none⟩ (Value.slice (some ⟨tb, off + 5, none⟩) (ts.length - 1) (cc - 1))).heap.size := by simp [World.setCell]
   rw [HX.out]
   refine ret5 (aggT (hd ts)) (blk5_top hz ((Ext.refl _).alloc _)) rfl (fun g0 g1 g2 g3 g4 => by simp [results, Tryz.results86, go_sem, g0, g1, g2, g3, g4, aggT]) ⟨rfl, (HS.out.take H5.out HB.out).ext (((Ext.refl _).alloc _).alloc _), (((ExtB.refl b w).set (.inl rfl) _).alloc _).alloc _⟩
theorem pass_any (w0 : World) (b d : Nat) (ts : List Tk) (q : ByteArray) (w : World) (h : Stt w0 b w ts d) :
   Calls Tryz.prog 155 #[.pointer (some ⟨b, 0, none⟩), .string q] w (PW w0 b w d (.tuple #[]) (pass1 q.data.toList d ts)) := by
 have HS : Hid (Stt w0 b w ts d) := h
 have c1 := isSign_any w0 b d ts q w h
 cases hq : isSg q.data.toList ts
 · rw [hq] at c1
   have HX : Hid (pass1 q.data.toList d ts = .error (ft ts false)) := by show _ = _; unfold pass1; rw [hq]; rfl
   clear hq h
   go_enter Tryz.func155, Tryz.ntmps155
   go_wp2_with fail
   refine c1.mono ?_
   rintro e w1 ⟨rfl, E1⟩
   have c2 := here_any w0 b d ts 4 w1 (HS.out.ext E1)
   clear c1
   go_wp2_with fail
   refine c2.mono ?_
   rintro e w2 ⟨rfl, E2⟩
   clear c2
   go_wp2_with fail
   rw [HX.out]
   exact ⟨rfl, rfl, ((E1.trans E2).toB b)⟩
 · rw [hq] at c1
   have h5 : (hd ts).1 ≠ 5 := by rw [(isSg_k hq).1]; decide
   have HX : Hid (pass1 q.data.toList d ts = tk1 d ts) := by show _ = _; unfold pass1; rw [hq]; rfl
   have H5 : Hid ((hd ts).1 ≠ 5) := h5
   clear hq h h5
   go_enter Tryz.func155, Tryz.ntmps155
   go_wp2_with fail
   refine c1.mono ?_
   rintro e w1 ⟨rfl, E1⟩
   have c2 := take_any w0 b d ts w1 (HS.out.ext E1) H5.out
   clear c1
   cases ht : tk1 d ts with
   | error f =>
     rw [ht] at c2 HX
     go_wp2_with fail
     refine c2.mono ?_
     rintro e w2 ⟨rfl, E2⟩
     rw [HX.out]
     exact ⟨rfl, rfl, (E1.toB b).trans E2⟩
   | ok ts1 =>
     rw [ht] at c2 HX
     go_wp2_with fail
     refine c2.mono ?_
     rintro e w2 ⟨rfl, S2, E2⟩
     clear c2
     have HS2 : Hid (Stt w0 b w2 ts1 d ∧ ExtB b w1 w2) := ⟨S2, E2⟩
     clear S2 E2
     go_wp2_with fail
     refine ⟨rfl, .tuple #[], results_none rfl _ _ _, ?_⟩
     rw [HX.out]
     exact ⟨rfl, HS2.out.1, (E1.toB b).trans HS2.out.2⟩

open Go.RowKit
set_option maxHeartbeats 1000000

theorem known_any (s : ByteArray) (w : World) :
   Calls Tryz.prog 32 #[.string s] w fun e w' => e = .returned (.tuple #[.int .i64 (knA s.data.toList), .int .i64 (knB s.data.toList), .bool (kno s.data.toList).isSome]) ∧ w' = w := by
 have hs := ByteArray.toList_eq s
 obtain ⟨l, hl⟩ : ∃ l, s.data.toList = l := ⟨_, rfl⟩
 rw [hl] at hs ⊢
 clear hl
 by_cases h0 : l = [83, 85, 77]
 · subst h0
   have e0 : (s.toList == [83, 85, 77]) = true := by rw [hs]; decide
   clear hs 
   go_enter Tryz.func32, Tryz.ntmps32
   go_wp2_with fail
   go_ret3
   exact ⟨rfl, rfl⟩
 have e0 : (s.toList == [83, 85, 77]) = false := by rw [hs]; simpa using h0
 by_cases h1 : l = [67, 79, 85, 78, 84]
 · subst h1
   have e1 : (s.toList == [67, 79, 85, 78, 84]) = true := by rw [hs]; decide
   clear hs h0
   go_enter Tryz.func32, Tryz.ntmps32
   go_wp2_with fail
   go_ret3
   exact ⟨rfl, rfl⟩
 have e1 : (s.toList == [67, 79, 85, 78, 84]) = false := by rw [hs]; simpa using h1
 by_cases h2 : l = [77, 73, 78]
 · subst h2
   have e2 : (s.toList == [77, 73, 78]) = true := by rw [hs]; decide
   clear hs h0 h1
   go_enter Tryz.func32, Tryz.ntmps32
   go_wp2_with fail
   go_ret3
   exact ⟨rfl, rfl⟩
 have e2 : (s.toList == [77, 73, 78]) = false := by rw [hs]; simpa using h2
 by_cases h3 : l = [77, 65, 88]
 · subst h3
   have e3 : (s.toList == [77, 65, 88]) = true := by rw [hs]; decide
   clear hs h0 h1 h2
   go_enter Tryz.func32, Tryz.ntmps32
   go_wp2_with fail
   go_ret3
   exact ⟨rfl, rfl⟩
 have e3 : (s.toList == [77, 65, 88]) = false := by rw [hs]; simpa using h3
 by_cases h4 : l = [65, 86, 69, 82, 65, 71, 69]
 · subst h4
   have e4 : (s.toList == [65, 86, 69, 82, 65, 71, 69]) = true := by rw [hs]; decide
   clear hs h0 h1 h2 h3
   go_enter Tryz.func32, Tryz.ntmps32
   go_wp2_with fail
   go_ret3
   exact ⟨rfl, rfl⟩
 have e4 : (s.toList == [65, 86, 69, 82, 65, 71, 69]) = false := by rw [hs]; simpa using h4
 by_cases h5 : l = [65, 78, 68]
 · subst h5
   have e5 : (s.toList == [65, 78, 68]) = true := by rw [hs]; decide
   clear hs h0 h1 h2 h3 h4
   go_enter Tryz.func32, Tryz.ntmps32
   go_wp2_with fail
   go_ret3
   exact ⟨rfl, rfl⟩
 have e5 : (s.toList == [65, 78, 68]) = false := by rw [hs]; simpa using h5
 by_cases h6 : l = [79, 82]
 · subst h6
   have e6 : (s.toList == [79, 82]) = true := by rw [hs]; decide
   clear hs h0 h1 h2 h3 h4 h5
   go_enter Tryz.func32, Tryz.ntmps32
   go_wp2_with fail
   go_ret3
   exact ⟨rfl, rfl⟩
 have e6 : (s.toList == [79, 82]) = false := by rw [hs]; simpa using h6
 by_cases h7 : l = [67, 79, 78, 67, 65, 84]
 · subst h7
   have e7 : (s.toList == [67, 79, 78, 67, 65, 84]) = true := by rw [hs]; decide
   clear hs h0 h1 h2 h3 h4 h5 h6
   go_enter Tryz.func32, Tryz.ntmps32
   go_wp2_with fail
   go_ret3
   exact ⟨rfl, rfl⟩
 have e7 : (s.toList == [67, 79, 78, 67, 65, 84]) = false := by rw [hs]; simpa using h7
 by_cases h8 : l = [73, 70]
 · subst h8
   have e8 : (s.toList == [73, 70]) = true := by rw [hs]; decide
   clear hs h0 h1 h2 h3 h4 h5 h6 h7
   go_enter Tryz.func32, Tryz.ntmps32
   go_wp2_with fail
   go_ret3
   exact ⟨rfl, rfl⟩
 have e8 : (s.toList == [73, 70]) = false := by rw [hs]; simpa using h8
 by_cases h9 : l = [73, 78, 68, 69, 88]
 · subst h9
   have e9 : (s.toList == [73, 78, 68, 69, 88]) = true := by rw [hs]; decide
   clear hs h0 h1 h2 h3 h4 h5 h6 h7 h8
   go_enter Tryz.func32, Tryz.ntmps32
   go_wp2_with fail
   go_ret3
   exact ⟨rfl, rfl⟩
 have e9 : (s.toList == [73, 78, 68, 69, 88]) = false := by rw [hs]; simpa using h9
 by_cases h10 : l = [82, 79, 85, 78, 68]
 · subst h10
   have e10 : (s.toList == [82, 79, 85, 78, 68]) = true := by rw [hs]; decide
   clear hs h0 h1 h2 h3 h4 h5 h6 h7 h8 h9
   go_enter Tryz.func32, Tryz.ntmps32
   go_wp2_with fail
   go_ret3
   exact ⟨rfl, rfl⟩
 have e10 : (s.toList == [82, 79, 85, 78, 68]) = false := by rw [hs]; simpa using h10
 by_cases h11 : l = [77, 79, 68]
 · subst h11
   have e11 : (s.toList == [77, 79, 68]) = true := by rw [hs]; decide
   clear hs h0 h1 h2 h3 h4 h5 h6 h7 h8 h9 h10
   go_enter Tryz.func32, Tryz.ntmps32
   go_wp2_with fail
   go_ret3
   exact ⟨rfl, rfl⟩
 have e11 : (s.toList == [77, 79, 68]) = false := by rw [hs]; simpa using h11
 by_cases h12 : l = [73, 70, 69, 82, 82, 79, 82]
 · subst h12
   have e12 : (s.toList == [73, 70, 69, 82, 82, 79, 82]) = true := by rw [hs]; decide
   clear hs h0 h1 h2 h3 h4 h5 h6 h7 h8 h9 h10 h11
   go_enter Tryz.func32, Tryz.ntmps32
   go_wp2_with fail
   go_ret3
   exact ⟨rfl, rfl⟩
 have e12 : (s.toList == [73, 70, 69, 82, 82, 79, 82]) = false := by rw [hs]; simpa using h12
 by_cases h13 : l = [76, 69, 70, 84]
 · subst h13
   have e13 : (s.toList == [76, 69, 70, 84]) = true := by rw [hs]; decide
   clear hs h0 h1 h2 h3 h4 h5 h6 h7 h8 h9 h10 h11 h12
   go_enter Tryz.func32, Tryz.ntmps32
   go_wp2_with fail
   go_ret3
   exact ⟨rfl, rfl⟩
 have e13 : (s.toList == [76, 69, 70, 84]) = false := by rw [hs]; simpa using h13
 by_cases h14 : l = [78, 79, 84]
 · subst h14
   have e14 : (s.toList == [78, 79, 84]) = true := by rw [hs]; decide
   clear hs h0 h1 h2 h3 h4 h5 h6 h7 h8 h9 h10 h11 h12 h13
   go_enter Tryz.func32, Tryz.ntmps32
   go_wp2_with fail
   go_ret3
   exact ⟨rfl, rfl⟩
 have e14 : (s.toList == [78, 79, 84]) = false := by rw [hs]; simpa using h14
 by_cases h15 : l = [65, 66, 83]
 · subst h15
   have e15 : (s.toList == [65, 66, 83]) = true := by rw [hs]; decide
   clear hs h0 h1 h2 h3 h4 h5 h6 h7 h8 h9 h10 h11 h12 h13 h14
   go_enter Tryz.func32, Tryz.ntmps32
   go_wp2_with fail
   go_ret3
   exact ⟨rfl, rfl⟩
 have e15 : (s.toList == [65, 66, 83]) = false := by rw [hs]; simpa using h15
 by_cases h16 : l = [70, 76, 79, 79, 82]
 · subst h16
   have e16 : (s.toList == [70, 76, 79, 79, 82]) = true := by rw [hs]; decide
   clear hs h0 h1 h2 h3 h4 h5 h6 h7 h8 h9 h10 h11 h12 h13 h14 h15
   go_enter Tryz.func32, Tryz.ntmps32
   go_wp2_with fail
   go_ret3
   exact ⟨rfl, rfl⟩
 have e16 : (s.toList == [70, 76, 79, 79, 82]) = false := by rw [hs]; simpa using h16
 by_cases h17 : l = [83, 81, 82, 84]
 · subst h17
   have e17 : (s.toList == [83, 81, 82, 84]) = true := by rw [hs]; decide
   clear hs h0 h1 h2 h3 h4 h5 h6 h7 h8 h9 h10 h11 h12 h13 h14 h15 h16
   go_enter Tryz.func32, Tryz.ntmps32
   go_wp2_with fail
   go_ret3
   exact ⟨rfl, rfl⟩
 have e17 : (s.toList == [83, 81, 82, 84]) = false := by rw [hs]; simpa using h17
 by_cases h18 : l = [76, 69, 78]
 · subst h18
   have e18 : (s.toList == [76, 69, 78]) = true := by rw [hs]; decide
   clear hs h0 h1 h2 h3 h4 h5 h6 h7 h8 h9 h10 h11 h12 h13 h14 h15 h16 h17
   go_enter Tryz.func32, Tryz.ntmps32
   go_wp2_with fail
   go_ret3
   exact ⟨rfl, rfl⟩
 have e18 : (s.toList == [76, 69, 78]) = false := by rw [hs]; simpa using h18
 by_cases h19 : l = [73, 83, 69, 82, 82, 79, 82]
 · subst h19
   have e19 : (s.toList == [73, 83, 69, 82, 82, 79, 82]) = true := by rw [hs]; decide
   clear hs h0 h1 h2 h3 h4 h5 h6 h7 h8 h9 h10 h11 h12 h13 h14 h15 h16 h17 h18
   go_enter Tryz.func32, Tryz.ntmps32
   go_wp2_with fail
   go_ret3
   exact ⟨rfl, rfl⟩
 have e19 : (s.toList == [73, 83, 69, 82, 82, 79, 82]) = false := by rw [hs]; simpa using h19
 have HK : Hid (kno l = none) := by show _ = _; simp [kno, kn1, kn2, kn3, kn4, kn5, h0, h1, h2, h3, h4, h5, h6, h7, h8, h9, h10, h11, h12, h13, h14, h15, h16, h17, h18, h19]
 clear hs h0 h1 h2 h3 h4 h5 h6 h7 h8 h9 h10 h11 h12 h13 h14 h15 h16 h17 h18 h19
 go_enter Tryz.func32, Tryz.ntmps32
 go_wp2_with fail
 go_ret3
 unfold knA knB
 rw [HK.out]
 exact ⟨rfl, rfl⟩
theorem binds_any (s : ByteArray) (w : World) :
   Calls Tryz.prog 31 #[.string s] w fun e w' => e = .returned (.int .i64 ((bnd s.data.toList : Nat) : Int)) ∧ w' = w := by
 have hs := ByteArray.toList_eq s
 obtain ⟨l, hl⟩ : ∃ l, s.data.toList = l := ⟨_, rfl⟩
 rw [hl] at hs ⊢
 clear hl
 by_cases h0 : l = [61]
 · subst h0
   have e0 : (s.toList == [61]) = true := by rw [hs]; decide
   clear hs 
   go_enter Tryz.func31, Tryz.ntmps31
   go_wp2_with fail
   go_ret
   exact ⟨rfl, rfl⟩
 have e0 : (s.toList == [61]) = false := by rw [hs]; simpa using h0
 by_cases h1 : l = [60, 62]
 · subst h1
   have e1 : (s.toList == [60, 62]) = true := by rw [hs]; decide
   clear hs h0
   go_enter Tryz.func31, Tryz.ntmps31
   go_wp2_with fail
   go_ret
   exact ⟨rfl, rfl⟩
 have e1 : (s.toList == [60, 62]) = false := by rw [hs]; simpa using h1
 by_cases h2 : l = [60]
 · subst h2
   have e2 : (s.toList == [60]) = true := by rw [hs]; decide
   clear hs h0 h1
   go_enter Tryz.func31, Tryz.ntmps31
   go_wp2_with fail
   go_ret
   exact ⟨rfl, rfl⟩
 have e2 : (s.toList == [60]) = false := by rw [hs]; simpa using h2
 by_cases h3 : l = [60, 61]
 · subst h3
   have e3 : (s.toList == [60, 61]) = true := by rw [hs]; decide
   clear hs h0 h1 h2
   go_enter Tryz.func31, Tryz.ntmps31
   go_wp2_with fail
   go_ret
   exact ⟨rfl, rfl⟩
 have e3 : (s.toList == [60, 61]) = false := by rw [hs]; simpa using h3
 by_cases h4 : l = [62]
 · subst h4
   have e4 : (s.toList == [62]) = true := by rw [hs]; decide
   clear hs h0 h1 h2 h3
   go_enter Tryz.func31, Tryz.ntmps31
   go_wp2_with fail
   go_ret
   exact ⟨rfl, rfl⟩
 have e4 : (s.toList == [62]) = false := by rw [hs]; simpa using h4
 by_cases h5 : l = [62, 61]
 · subst h5
   have e5 : (s.toList == [62, 61]) = true := by rw [hs]; decide
   clear hs h0 h1 h2 h3 h4
   go_enter Tryz.func31, Tryz.ntmps31
   go_wp2_with fail
   go_ret
   exact ⟨rfl, rfl⟩
 have e5 : (s.toList == [62, 61]) = false := by rw [hs]; simpa using h5
 by_cases h6 : l = [38]
 · subst h6
   have e6 : (s.toList == [38]) = true := by rw [hs]; decide
   clear hs h0 h1 h2 h3 h4 h5
   go_enter Tryz.func31, Tryz.ntmps31
   go_wp2_with fail
   go_ret
   exact ⟨rfl, rfl⟩
 have e6 : (s.toList == [38]) = false := by rw [hs]; simpa using h6
 by_cases h7 : l = [43]
 · subst h7
   have e7 : (s.toList == [43]) = true := by rw [hs]; decide
   clear hs h0 h1 h2 h3 h4 h5 h6
   go_enter Tryz.func31, Tryz.ntmps31
   go_wp2_with fail
   go_ret
   exact ⟨rfl, rfl⟩
 have e7 : (s.toList == [43]) = false := by rw [hs]; simpa using h7
 by_cases h8 : l = [45]
 · subst h8
   have e8 : (s.toList == [45]) = true := by rw [hs]; decide
   clear hs h0 h1 h2 h3 h4 h5 h6 h7
   go_enter Tryz.func31, Tryz.ntmps31
   go_wp2_with fail
   go_ret
   exact ⟨rfl, rfl⟩
 have e8 : (s.toList == [45]) = false := by rw [hs]; simpa using h8
 by_cases h9 : l = [42]
 · subst h9
   have e9 : (s.toList == [42]) = true := by rw [hs]; decide
   clear hs h0 h1 h2 h3 h4 h5 h6 h7 h8
   go_enter Tryz.func31, Tryz.ntmps31
   go_wp2_with fail
   go_ret
   exact ⟨rfl, rfl⟩
 have e9 : (s.toList == [42]) = false := by rw [hs]; simpa using h9
 by_cases h10 : l = [47]
 · subst h10
   have e10 : (s.toList == [47]) = true := by rw [hs]; decide
   clear hs h0 h1 h2 h3 h4 h5 h6 h7 h8 h9
   go_enter Tryz.func31, Tryz.ntmps31
   go_wp2_with fail
   go_ret
   exact ⟨rfl, rfl⟩
 have e10 : (s.toList == [47]) = false := by rw [hs]; simpa using h10
 have HK : Hid (bnd l = 0) := by show _ = _; simp [bnd, bd1, h0, h1, h2, h3, h4, h5, h6, h7, h8, h9, h10]
 clear hs h0 h1 h2 h3 h4 h5 h6 h7 h8 h9 h10
 go_enter Tryz.func31, Tryz.ntmps31
 go_wp2_with fail
 go_ret
 exact ⟨ret_int (by rw [HK.out]; rfl), rfl⟩
theorem rknown_any (s : ByteArray) (w : World) :
   Calls Tryz.prog 74 #[.string s] w fun e w' => e = .returned (.tuple #[.int .i64 (knA s.data.toList), .int .i64 (knB s.data.toList), .bool (kno s.data.toList).isSome]) ∧ w' = w := by
 have hs := ByteArray.toList_eq s
 obtain ⟨l, hl⟩ : ∃ l, s.data.toList = l := ⟨_, rfl⟩
 rw [hl] at hs ⊢
 clear hl
 by_cases h0 : l = [83, 85, 77]
 · subst h0
   have e0 : (s.toList == [83, 85, 77]) = true := by rw [hs]; decide
   clear hs 
   go_enter Tryz.func74, Tryz.ntmps74
   go_wp2_with fail
   go_ret3
   exact ⟨rfl, rfl⟩
 have e0 : (s.toList == [83, 85, 77]) = false := by rw [hs]; simpa using h0
 by_cases h1 : l = [67, 79, 85, 78, 84]
 · subst h1
   have e1 : (s.toList == [67, 79, 85, 78, 84]) = true := by rw [hs]; decide
   clear hs h0
   go_enter Tryz.func74, Tryz.ntmps74
   go_wp2_with fail
   go_ret3
   exact ⟨rfl, rfl⟩
 have e1 : (s.toList == [67, 79, 85, 78, 84]) = false := by rw [hs]; simpa using h1
 by_cases h2 : l = [77, 73, 78]
 · subst h2
   have e2 : (s.toList == [77, 73, 78]) = true := by rw [hs]; decide
   clear hs h0 h1
   go_enter Tryz.func74, Tryz.ntmps74
   go_wp2_with fail
   go_ret3
   exact ⟨rfl, rfl⟩
 have e2 : (s.toList == [77, 73, 78]) = false := by rw [hs]; simpa using h2
 by_cases h3 : l = [77, 65, 88]
 · subst h3
   have e3 : (s.toList == [77, 65, 88]) = true := by rw [hs]; decide
   clear hs h0 h1 h2
   go_enter Tryz.func74, Tryz.ntmps74
   go_wp2_with fail
   go_ret3
   exact ⟨rfl, rfl⟩
 have e3 : (s.toList == [77, 65, 88]) = false := by rw [hs]; simpa using h3
 by_cases h4 : l = [65, 86, 69, 82, 65, 71, 69]
 · subst h4
   have e4 : (s.toList == [65, 86, 69, 82, 65, 71, 69]) = true := by rw [hs]; decide
   clear hs h0 h1 h2 h3
   go_enter Tryz.func74, Tryz.ntmps74
   go_wp2_with fail
   go_ret3
   exact ⟨rfl, rfl⟩
 have e4 : (s.toList == [65, 86, 69, 82, 65, 71, 69]) = false := by rw [hs]; simpa using h4
 by_cases h5 : l = [65, 78, 68]
 · subst h5
   have e5 : (s.toList == [65, 78, 68]) = true := by rw [hs]; decide
   clear hs h0 h1 h2 h3 h4
   go_enter Tryz.func74, Tryz.ntmps74
   go_wp2_with fail
   go_ret3
   exact ⟨rfl, rfl⟩
 have e5 : (s.toList == [65, 78, 68]) = false := by rw [hs]; simpa using h5
 by_cases h6 : l = [79, 82]
 · subst h6
   have e6 : (s.toList == [79, 82]) = true := by rw [hs]; decide
   clear hs h0 h1 h2 h3 h4 h5
   go_enter Tryz.func74, Tryz.ntmps74
   go_wp2_with fail
   go_ret3
   exact ⟨rfl, rfl⟩
 have e6 : (s.toList == [79, 82]) = false := by rw [hs]; simpa using h6
 by_cases h7 : l = [67, 79, 78, 67, 65, 84]
 · subst h7
   have e7 : (s.toList == [67, 79, 78, 67, 65, 84]) = true := by rw [hs]; decide
   clear hs h0 h1 h2 h3 h4 h5 h6
   go_enter Tryz.func74, Tryz.ntmps74
   go_wp2_with fail
   go_ret3
   exact ⟨rfl, rfl⟩
 have e7 : (s.toList == [67, 79, 78, 67, 65, 84]) = false := by rw [hs]; simpa using h7
 by_cases h8 : l = [73, 70]
 · subst h8
   have e8 : (s.toList == [73, 70]) = true := by rw [hs]; decide
   clear hs h0 h1 h2 h3 h4 h5 h6 h7
   go_enter Tryz.func74, Tryz.ntmps74
   go_wp2_with fail
   go_ret3
   exact ⟨rfl, rfl⟩
 have e8 : (s.toList == [73, 70]) = false := by rw [hs]; simpa using h8
 by_cases h9 : l = [73, 78, 68, 69, 88]
 · subst h9
   have e9 : (s.toList == [73, 78, 68, 69, 88]) = true := by rw [hs]; decide
   clear hs h0 h1 h2 h3 h4 h5 h6 h7 h8
   go_enter Tryz.func74, Tryz.ntmps74
   go_wp2_with fail
   go_ret3
   exact ⟨rfl, rfl⟩
 have e9 : (s.toList == [73, 78, 68, 69, 88]) = false := by rw [hs]; simpa using h9
 by_cases h10 : l = [82, 79, 85, 78, 68]
 · subst h10
   have e10 : (s.toList == [82, 79, 85, 78, 68]) = true := by rw [hs]; decide
   clear hs h0 h1 h2 h3 h4 h5 h6 h7 h8 h9
   go_enter Tryz.func74, Tryz.ntmps74
   go_wp2_with fail
   go_ret3
   exact ⟨rfl, rfl⟩
 have e10 : (s.toList == [82, 79, 85, 78, 68]) = false := by rw [hs]; simpa using h10
 by_cases h11 : l = [77, 79, 68]
 · subst h11
   have e11 : (s.toList == [77, 79, 68]) = true := by rw [hs]; decide
   clear hs h0 h1 h2 h3 h4 h5 h6 h7 h8 h9 h10
   go_enter Tryz.func74, Tryz.ntmps74
   go_wp2_with fail
   go_ret3
   exact ⟨rfl, rfl⟩
 have e11 : (s.toList == [77, 79, 68]) = false := by rw [hs]; simpa using h11
 by_cases h12 : l = [73, 70, 69, 82, 82, 79, 82]
 · subst h12
   have e12 : (s.toList == [73, 70, 69, 82, 82, 79, 82]) = true := by rw [hs]; decide
   clear hs h0 h1 h2 h3 h4 h5 h6 h7 h8 h9 h10 h11
   go_enter Tryz.func74, Tryz.ntmps74
   go_wp2_with fail
   go_ret3
   exact ⟨rfl, rfl⟩
 have e12 : (s.toList == [73, 70, 69, 82, 82, 79, 82]) = false := by rw [hs]; simpa using h12
 by_cases h13 : l = [76, 69, 70, 84]
 · subst h13
   have e13 : (s.toList == [76, 69, 70, 84]) = true := by rw [hs]; decide
   clear hs h0 h1 h2 h3 h4 h5 h6 h7 h8 h9 h10 h11 h12
   go_enter Tryz.func74, Tryz.ntmps74
   go_wp2_with fail
   go_ret3
   exact ⟨rfl, rfl⟩
 have e13 : (s.toList == [76, 69, 70, 84]) = false := by rw [hs]; simpa using h13
 by_cases h14 : l = [78, 79, 84]
 · subst h14
   have e14 : (s.toList == [78, 79, 84]) = true := by rw [hs]; decide
   clear hs h0 h1 h2 h3 h4 h5 h6 h7 h8 h9 h10 h11 h12 h13
   go_enter Tryz.func74, Tryz.ntmps74
   go_wp2_with fail
   go_ret3
   exact ⟨rfl, rfl⟩
 have e14 : (s.toList == [78, 79, 84]) = false := by rw [hs]; simpa using h14
 by_cases h15 : l = [65, 66, 83]
 · subst h15
   have e15 : (s.toList == [65, 66, 83]) = true := by rw [hs]; decide
   clear hs h0 h1 h2 h3 h4 h5 h6 h7 h8 h9 h10 h11 h12 h13 h14
   go_enter Tryz.func74, Tryz.ntmps74
   go_wp2_with fail
   go_ret3
   exact ⟨rfl, rfl⟩
 have e15 : (s.toList == [65, 66, 83]) = false := by rw [hs]; simpa using h15
 by_cases h16 : l = [70, 76, 79, 79, 82]
 · subst h16
   have e16 : (s.toList == [70, 76, 79, 79, 82]) = true := by rw [hs]; decide
   clear hs h0 h1 h2 h3 h4 h5 h6 h7 h8 h9 h10 h11 h12 h13 h14 h15
   go_enter Tryz.func74, Tryz.ntmps74
   go_wp2_with fail
   go_ret3
   exact ⟨rfl, rfl⟩
 have e16 : (s.toList == [70, 76, 79, 79, 82]) = false := by rw [hs]; simpa using h16
 by_cases h17 : l = [83, 81, 82, 84]
 · subst h17
   have e17 : (s.toList == [83, 81, 82, 84]) = true := by rw [hs]; decide
   clear hs h0 h1 h2 h3 h4 h5 h6 h7 h8 h9 h10 h11 h12 h13 h14 h15 h16
   go_enter Tryz.func74, Tryz.ntmps74
   go_wp2_with fail
   go_ret3
   exact ⟨rfl, rfl⟩
 have e17 : (s.toList == [83, 81, 82, 84]) = false := by rw [hs]; simpa using h17
 by_cases h18 : l = [76, 69, 78]
 · subst h18
   have e18 : (s.toList == [76, 69, 78]) = true := by rw [hs]; decide
   clear hs h0 h1 h2 h3 h4 h5 h6 h7 h8 h9 h10 h11 h12 h13 h14 h15 h16 h17
   go_enter Tryz.func74, Tryz.ntmps74
   go_wp2_with fail
   go_ret3
   exact ⟨rfl, rfl⟩
 have e18 : (s.toList == [76, 69, 78]) = false := by rw [hs]; simpa using h18
 by_cases h19 : l = [73, 83, 69, 82, 82, 79, 82]
 · subst h19
   have e19 : (s.toList == [73, 83, 69, 82, 82, 79, 82]) = true := by rw [hs]; decide
   clear hs h0 h1 h2 h3 h4 h5 h6 h7 h8 h9 h10 h11 h12 h13 h14 h15 h16 h17 h18
   go_enter Tryz.func74, Tryz.ntmps74
   go_wp2_with fail
   go_ret3
   exact ⟨rfl, rfl⟩
 have e19 : (s.toList == [73, 83, 69, 82, 82, 79, 82]) = false := by rw [hs]; simpa using h19
 have HK : Hid (kno l = none) := by show _ = _; simp [kno, kn1, kn2, kn3, kn4, kn5, h0, h1, h2, h3, h4, h5, h6, h7, h8, h9, h10, h11, h12, h13, h14, h15, h16, h17, h18, h19]
 clear hs h0 h1 h2 h3 h4 h5 h6 h7 h8 h9 h10 h11 h12 h13 h14 h15 h16 h17 h18 h19
 go_enter Tryz.func74, Tryz.ntmps74
 go_wp2_with fail
 go_ret3
 unfold knA knB
 rw [HK.out]
 exact ⟨rfl, rfl⟩
theorem rpower_any (s : ByteArray) (w : World) :
   Calls Tryz.prog 22 #[.string s] w fun e w' => e = .returned (.int .i64 ((bnd s.data.toList : Nat) : Int)) ∧ w' = w := by
 have hs := ByteArray.toList_eq s
 obtain ⟨l, hl⟩ : ∃ l, s.data.toList = l := ⟨_, rfl⟩
 rw [hl] at hs ⊢
 clear hl
 by_cases h0 : l = [61]
 · subst h0
   have e0 : (s.toList == [61]) = true := by rw [hs]; decide
   clear hs 
   go_enter Tryz.func22, Tryz.ntmps22
   go_wp2_with fail
   go_ret
   exact ⟨rfl, rfl⟩
 have e0 : (s.toList == [61]) = false := by rw [hs]; simpa using h0
 by_cases h1 : l = [60, 62]
 · subst h1
   have e1 : (s.toList == [60, 62]) = true := by rw [hs]; decide
   clear hs h0
   go_enter Tryz.func22, Tryz.ntmps22
   go_wp2_with fail
   go_ret
   exact ⟨rfl, rfl⟩
 have e1 : (s.toList == [60, 62]) = false := by rw [hs]; simpa using h1
 by_cases h2 : l = [60]
 · subst h2
   have e2 : (s.toList == [60]) = true := by rw [hs]; decide
   clear hs h0 h1
   go_enter Tryz.func22, Tryz.ntmps22
   go_wp2_with fail
   go_ret
   exact ⟨rfl, rfl⟩
 have e2 : (s.toList == [60]) = false := by rw [hs]; simpa using h2
 by_cases h3 : l = [60, 61]
 · subst h3
   have e3 : (s.toList == [60, 61]) = true := by rw [hs]; decide
   clear hs h0 h1 h2
   go_enter Tryz.func22, Tryz.ntmps22
   go_wp2_with fail
   go_ret
   exact ⟨rfl, rfl⟩
 have e3 : (s.toList == [60, 61]) = false := by rw [hs]; simpa using h3
 by_cases h4 : l = [62]
 · subst h4
   have e4 : (s.toList == [62]) = true := by rw [hs]; decide
   clear hs h0 h1 h2 h3
   go_enter Tryz.func22, Tryz.ntmps22
   go_wp2_with fail
   go_ret
   exact ⟨rfl, rfl⟩
 have e4 : (s.toList == [62]) = false := by rw [hs]; simpa using h4
 by_cases h5 : l = [62, 61]
 · subst h5
   have e5 : (s.toList == [62, 61]) = true := by rw [hs]; decide
   clear hs h0 h1 h2 h3 h4
   go_enter Tryz.func22, Tryz.ntmps22
   go_wp2_with fail
   go_ret
   exact ⟨rfl, rfl⟩
 have e5 : (s.toList == [62, 61]) = false := by rw [hs]; simpa using h5
 by_cases h6 : l = [38]
 · subst h6
   have e6 : (s.toList == [38]) = true := by rw [hs]; decide
   clear hs h0 h1 h2 h3 h4 h5
   go_enter Tryz.func22, Tryz.ntmps22
   go_wp2_with fail
   go_ret
   exact ⟨rfl, rfl⟩
 have e6 : (s.toList == [38]) = false := by rw [hs]; simpa using h6
 by_cases h7 : l = [43]
 · subst h7
   have e7 : (s.toList == [43]) = true := by rw [hs]; decide
   clear hs h0 h1 h2 h3 h4 h5 h6
   go_enter Tryz.func22, Tryz.ntmps22
   go_wp2_with fail
   go_ret
   exact ⟨rfl, rfl⟩
 have e7 : (s.toList == [43]) = false := by rw [hs]; simpa using h7
 by_cases h8 : l = [45]
 · subst h8
   have e8 : (s.toList == [45]) = true := by rw [hs]; decide
   clear hs h0 h1 h2 h3 h4 h5 h6 h7
   go_enter Tryz.func22, Tryz.ntmps22
   go_wp2_with fail
   go_ret
   exact ⟨rfl, rfl⟩
 have e8 : (s.toList == [45]) = false := by rw [hs]; simpa using h8
 by_cases h9 : l = [42]
 · subst h9
   have e9 : (s.toList == [42]) = true := by rw [hs]; decide
   clear hs h0 h1 h2 h3 h4 h5 h6 h7 h8
   go_enter Tryz.func22, Tryz.ntmps22
   go_wp2_with fail
   go_ret
   exact ⟨rfl, rfl⟩
 have e9 : (s.toList == [42]) = false := by rw [hs]; simpa using h9
 by_cases h10 : l = [47]
 · subst h10
   have e10 : (s.toList == [47]) = true := by rw [hs]; decide
   clear hs h0 h1 h2 h3 h4 h5 h6 h7 h8 h9
   go_enter Tryz.func22, Tryz.ntmps22
   go_wp2_with fail
   go_ret
   exact ⟨rfl, rfl⟩
 have e10 : (s.toList == [47]) = false := by rw [hs]; simpa using h10
 have HK : Hid (bnd l = 0) := by show _ = _; simp [bnd, bd1, h0, h1, h2, h3, h4, h5, h6, h7, h8, h9, h10]
 clear hs h0 h1 h2 h3 h4 h5 h6 h7 h8 h9 h10
 go_enter Tryz.func22, Tryz.ntmps22
 go_wp2_with fail
 go_ret
 exact ⟨ret_int (by rw [HK.out]; rfl), rfl⟩

open Go.RowKit

/-- The same words up to the end, whatever their places; in place of the end tl. -/
inductive Rt (tl : List Tk) : List Tk → List Tk → Prop
 | nil (e : Tk) : e.1 = 5 → Rt tl [e] tl
 | cons (t t' : Tk) (ts ts' : List Tk) : t.1 ≠ 5 → t'.1 = t.1 → t'.2.2 = t.2.2 → Rt tl ts ts' → Rt tl (t :: ts) (t' :: ts')
/-- What may stand in place of the end: the end; or a closing bracket, a comma. -/
def Stp (z : Bool) (tl : List Tk) : Prop := if z then ∃ e, tl = [e] ∧ e.1 = 5 else ∃ t r, tl = t :: r ∧ t.1 = 3 ∧ (t.2.2.1 = [41] ∨ t.2.2.1 = [44])
def DD (z : Bool) (d d' : Nat) : Prop := d ≤ d' ∧ (z = true → d' = d)
def RG {α β : Type} (z : Bool) (N : α → Prop) (P : α → β → Prop) (r : Except Ft α) (r' : Except Ft β) : Prop := match r with
 | .ok x => N x ∨ (∃ x', r' = .ok x' ∧ P x x') ∨ (z = false ∧ ∃ p, r' = .error (p, true))
 | .error e => z = true → ∃ p, r' = .error (p, e.2)
def no {α : Type} : α → Prop := fun _ => False
theorem RG.long {α β : Type} {z : Bool} {N : α → Prop} {P : α → β → Prop} {r : Except Ft α} (hz : z = false) (p : Int) : RG z N P r (.error (p, true)) := by
 cases r with
 | ok x => exact .inr (.inr ⟨hz, p, rfl⟩)
 | error e => intro h; rw [hz] at h; cases h
theorem RG.ok {α β : Type} {z : Bool} {N : α → Prop} {P : α → β → Prop} {x : α} {x' : β} (h : P x x') : RG z N P (.ok x) (.ok x') := .inr (.inl ⟨x', rfl, h⟩)
theorem RG.err {α β : Type} {z : Bool} {N : α → Prop} {P : α → β → Prop} {e e' : Ft} (h : e'.2 = e.2) : RG z N P (.error e) (.error e') := fun _ => ⟨e'.1, by rw [← h]⟩
theorem RG.off {α β : Type} {z : Bool} {N : α → Prop} {P : α → β → Prop} {e : Ft} {r' : Except Ft β} (h : z = false) : RG z N P (.error e) r' := by intro h1; rw [h] at h1; cases h1
/-- One reading behind another. -/
theorem RG.then {α β γ δ : Type} {z : Bool} {N : α → Prop} {P : α → β → Prop} {N2 : γ → Prop} {P2 : γ → δ → Prop} {r : Except Ft α} {r' : Except Ft β} {f : α → Except Ft γ} {f' : β → Except Ft δ}
   (h : RG z N P r r') (hN : ∀ x, r = .ok x → N x → ∀ y', RG z N2 P2 (f x) y') (hf : ∀ x x', r = .ok x → P x x' → RG z N2 P2 (f x) (f' x')) : RG z N2 P2 (r.bind f) (r'.bind f') := by
 cases r with
 | error e =>
   intro hz
   obtain ⟨p, rfl⟩ := h hz
   exact ⟨p, rfl⟩
 | ok x =>
   rcases h with h | ⟨x', rfl, h⟩ | ⟨hz, p, rfl⟩
   · exact hN x rfl h _
   · exact hf x x' rfl h
   · exact RG.long hz p
/-! ### The readings as one behind another -/
theorem one_eq (d : Nat) (ts : List Tk) (x : T) : one d ts x = (tk1 d ts).bind fun ts1 => .ok (x, ts1) := by
 unfold one; cases tk1 d ts <;> rfl
theorem refr_eq (d : Nat) (ts : List Tk) (h : (hd ts).1 = 2 ∧ okP (hd ts).2.2.1 = true) : refr d ts = (tk1 d ts).bind fun ts1 => .ok (rfP (hd ts).2.2.1, ts1) := by
 unfold refr; rw [if_pos h]; cases tk1 d ts <;> rfl
theorem argm_eq (F : Rd) (d : Nat) (ts : List Tk) : argm F d ts = (F d ts).bind fun a => if a.1.k = 4 ∧ ts.length = a.2.length + 1 ∧ isSg [58] a.2 = true then ((tk1 d a.2).bind fun ts2 => (refr d ts2).bind fun b => .ok (tRange a.1.r b.1, b.2)) else .ok a := by
 unfold argm
 cases F d ts with
 | error e => rfl
 | ok a =>
   obtain ⟨x, ts1⟩ := a
   simp only [Except.bind]
   split
   · cases tk1 d ts1 with
     | error e => rfl
     | ok ts2 => simp only []; cases refr d ts2 <;> rfl
   · rfl
theorem argl_eq (F : Rd) (a b d f : Nat) (l : List T) (ts : List Tk) (h : l.length < a ∨ l.length < b ∧ isSg [44] ts = true) : argl F a b d (f + 1) l ts = (pass1 [44] d ts).bind fun ts1 => (argm F d ts1).bind fun x => argl F a b d f (l ++ [x.1]) x.2 := by
 rw [argl, if_pos h]
 cases pass1 [44] d ts with
 | error e => rfl
 | ok ts1 => simp only [Except.bind]; cases argm F d ts1 <;> rfl
theorem args_eq (F : Rd) (a b d : Nat) (ts : List Tk) : args F a b d ts = (argm F d ts).bind fun x => argl F a b d x.2.length [x.1] x.2 := by
 unfold args; cases argm F d ts <;> rfl
theorem call_eq (F : Rd) (s : List UInt8) (a b d : Nat) (ts : List Tk) : call F s a b d ts = (args F a b d ts).bind fun x => .ok (tCall s x.1, x.2) := by
 unfold call; cases args F a b d ts <;> rfl
theorem brk_eq (F : Rd) (d : Nat) (ts : List Tk) : brk F d ts = (pass1 [40] d ts).bind fun ts1 => (F (d + 1) ts1).bind fun x => (pass1 [41] d x.2).bind fun ts3 => .ok (x.1, ts3) := by
 unfold brk
 cases pass1 [40] d ts with
 | error e => rfl
 | ok ts1 =>
   simp only [Except.bind]
   cases F (d + 1) ts1 with
   | error e => rfl
   | ok x => simp only []; cases pass1 [41] d x.2 <;> rfl
theorem lp_eq (F : Rd) (k d f : Nat) (x : T) (ts : List Tk) (h : (hd ts).1 = 3 ∧ bnd (hd ts).2.2.1 = k) : lp F k d (f + 1) x ts = (tk1 d ts).bind fun ts1 => (F d ts1).bind fun y => lp F k d f (tBin (hd ts).2.2.1 x y.1) y.2 := by
 rw [lp, if_pos h]
 cases tk1 d ts with
 | error e => rfl
 | ok ts1 => simp only [Except.bind]; cases F d ts1 <;> rfl
theorem lv_eq (F : Rd) (k d : Nat) (ts : List Tk) : lv F k d ts = (F d ts).bind fun x => lp F k d x.2.length x.1 x.2 := by
 unfold lv; cases F d ts <;> rfl
theorem opn_eq (F G : Rd) (d : Nat) (ts : List Tk) (h : isSg [45] ts = true) : opn F G d ts = (tk1 d ts).bind fun ts1 => (G (d + 1) ts1).bind fun x => .ok (tNeg x.1, x.2) := by
 unfold opn; rw [if_pos h]
 cases tk1 d ts with
 | error e => rfl
 | ok ts1 => simp only [Except.bind]; cases G (d + 1) ts1 <;> rfl

theorem wrd_call (F : Rd) (d : Nat) (ts : List Tk) (a b : Nat) (h1 : ¬ (hd ts).2.2.1 = wTrue) (h2 : ¬ (hd ts).2.2.1 = wFalse) (h : kno (hd ts).2.2.1 = some (a, b)) : wrd F d ts = (tk1 d ts).bind fun ts1 => brk (call F (hd ts).2.2.1 a b) d ts1 := by
 unfold wrd; rw [if_neg h1, if_neg h2, h]; cases tk1 d ts <;> rfl
theorem wrd_ref (F : Rd) (d : Nat) (ts : List Tk) (h1 : ¬ (hd ts).2.2.1 = wTrue) (h2 : ¬ (hd ts).2.2.1 = wFalse) (h : kno (hd ts).2.2.1 = none) : wrd F d ts = (refr d ts).bind fun x => .ok (tRef x.1, x.2) := by
 unfold wrd; rw [if_neg h1, if_neg h2, h]; cases refr d ts <;> rfl

/-! ### Heads -/
theorem Rt.len {tl ts ts' : List Tk} (h : Rt tl ts ts') : ts'.length + 1 = ts.length + tl.length := by
 induction h with
 | nil e h => simp; omega
 | cons t t' ts ts' h1 h2 h3 h4 ih => simp; omega
theorem Rt.nz {tl ts ts' : List Tk} (h : Rt tl ts ts') : Nz ts := by
 induction h with
 | nil e h => exact ⟨[], e, rfl, h⟩
 | cons t t' ts ts' h1 h2 h3 h4 ih =>
   obtain ⟨pre, x, rfl, hx⟩ := ih
   exact ⟨t :: pre, x, rfl, hx⟩
theorem Rt.ends {z : Bool} {tl ts ts' : List Tk} (h : Rt tl ts ts') (hS : Stp z tl) (h5 : (hd ts).1 = 5) : ts' = tl ∧ (z = true → (hd ts').1 = 5) ∧ (z = false → (hd ts').1 = 3 ∧ ((hd ts').2.2.1 = [41] ∨ (hd ts').2.2.1 = [44])) := by
 cases h with
 | nil e h =>
   refine ⟨rfl, ?_, ?_⟩
   · intro hz; subst hz
     obtain ⟨x, rfl, hx⟩ := hS
     exact hx
   · intro hz; subst hz
     obtain ⟨t, r, rfl, h1, h2⟩ := hS
     exact ⟨h1, h2⟩
 | cons t t' ts ts' h1 h2 h3 h4 => exact absurd h5 h1
def Pt {α : Type} (tl : List Tk) (a b : α × List Tk) : Prop := b.1 = a.1 ∧ Rt tl a.2 b.2
def RF (z : Bool) (tl : List Tk) (n m : Nat) (F F' : Rd) : Prop := ∀ d d' ts ts', DD z d d' → Rt tl ts ts' → ts.length ≤ n → ts'.length ≤ m → RG z no (Pt tl) (F d ts) (F' d' ts')
/-- .. where nothing is said of what is read up to the end. -/
def RW (z : Bool) (tl : List Tk) (n m : Nat) (F F' : Rd) : Prop := ∀ d d' ts ts', DD z d d' → Rt tl ts ts' → ts.length ≤ n → ts'.length ≤ m → RG z (fun x => z = false ∧ (hd x.2).1 = 5) (Pt tl) (F d ts) (F' d' ts')
theorem RF.weak {z : Bool} {tl : List Tk} {n m : Nat} {F F' : Rd} (h : RF z tl n m F F') : RW z tl n m F F' := by
 intro d d' ts ts' h1 h2 h3 h4
 have k := h d d' ts ts' h1 h2 h3 h4
 unfold RG at k ⊢
 split
 · rename_i x hx
   rw [hx] at k
   exact .inr (k.resolve_left (fun h => h.elim))
 · rename_i x hx
   rw [hx] at k
   exact k
theorem DD.up {z : Bool} {d d' : Nat} (h : DD z d d') : DD z (d + 1) (d' + 1) := ⟨Nat.succ_le_succ h.1, fun e => by rw [h.2 e]⟩
end Go.Proofs.YtcggiljlilbdfaaGreatDoor

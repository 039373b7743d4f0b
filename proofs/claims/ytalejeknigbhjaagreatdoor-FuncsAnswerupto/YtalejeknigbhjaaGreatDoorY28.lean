/-
 The document's answer for layer 14: Call, whatever it is called with.
 The laws of layer 13: the small living call; values held against each other.
 The laws of layer 14: of, arguments made; lives.
 The law of layer 14: own: arguments in memory of their own.
-/
import Derived.Test.YtalejeknigbhjaaGreatDoorY27
import Derived.Test.YtalejeknigbhjaaGreatDoorY17
import Derived.Laws.StructEq
import Derived.Test.YtalejeknigbhjaaGreatDoorY19
import Derived.Test.YtalejeknigbhjaaGreatDoorY20
import Derived.Test.YtalejeknigbhjaaGreatDoorY21
namespace Go.Proofs.YtalejeknigbhjaaGreatDoor
open Go.RowKit
set_option maxHeartbeats 1000000

theorem rdisp (s : ByteArray) (q : List UInt8) (hq : s.data.toList = q) (l : List Bg) (hk : okN q l.length = true) (p : Option Addr) (n c : Nat) (W : World) (hF : FitB W (.slice p n c) l) :
   Calls Tryz.prog 12 #[.string s, .slice p n c] W fun e w' => e = .returned (.agg #[.int .i64 (fnV q l).k, .int .i64 (fnV q l).n, .string (fnV q l).s, .int .i64 (fnV q l).e]) ∧ Ext W w' := by
 rw [fnV_ok hk]
 have k1 := (okN_is hk).1
 by_cases e0 : q = [83, 85, 77]
 · subst e0
   exact rc_SUM s hq l hk p n c W hF
 by_cases e1 : q = [67, 79, 85, 78, 84]
 · subst e1
   exact rc_COUNT s hq l hk p n c W hF
 by_cases e2 : q = [77, 73, 78]
 · subst e2
   exact rc_MIN s hq l hk p n c W hF
 by_cases e3 : q = [77, 65, 88]
 · subst e3
   exact rc_MAX s hq l hk p n c W hF
 by_cases e4 : q = [65, 86, 69, 82, 65, 71, 69]
 · subst e4
   exact rc_AVERAGE s hq l hk p n c W hF
 by_cases e5 : q = [65, 78, 68]
 · subst e5
   exact rc_AND s hq l hk p n c W hF
 by_cases e6 : q = [79, 82]
 · subst e6
   exact rc_OR s hq l hk p n c W hF
 by_cases e7 : q = [67, 79, 78, 67, 65, 84]
 · subst e7
   exact rc_CONCAT s hq l hk p n c W hF
 by_cases e8 : q = [73, 70]
 · subst e8
   exact rc_IF s hq l hk p n c W hF
 by_cases e9 : q = [78, 79, 84]
 · subst e9
   exact rc_NOT s hq l hk p n c W hF
 by_cases e10 : q = [65, 66, 83]
 · subst e10
   exact rc_ABS s hq l hk p n c W hF
 by_cases e11 : q = [82, 79, 85, 78, 68]
 · subst e11
   exact rc_ROUND s hq l hk p n c W hF
 by_cases e12 : q = [77, 79, 68]
 · subst e12
   exact rc_MOD s hq l hk p n c W hF
 by_cases e13 : q = [70, 76, 79, 79, 82]
 · subst e13
   exact rc_FLOOR s hq l hk p n c W hF
 by_cases e14 : q = [83, 81, 82, 84]
 · subst e14
   exact rc_SQRT s hq l hk p n c W hF
 by_cases e15 : q = [76, 69, 78]
 · subst e15
   exact rc_LEN s hq l hk p n c W hF
 by_cases e16 : q = [76, 69, 70, 84]
 · subst e16
   exact rc_LEFT s hq l hk p n c W hF
 by_cases e17 : q = [73, 78, 68, 69, 88]
 · subst e17
   exact rc_INDEX s hq l hk p n c W hF
 by_cases e18 : q = [73, 83, 69, 82, 82, 79, 82]
 · subst e18
   exact rc_ISERROR s hq l hk p n c W hF
 by_cases e19 : q = [73, 70, 69, 82, 82, 79, 82]
 · subst e19
   exact rc_IFERROR s hq l hk p n c W hF
 exact absurd k1 (by simp [kno, kn1, kn2, kn3, kn4, kn5, e0, e1, e2, e3, e4, e5, e6, e7, e8, e9, e10, e11, e12, e13, e14, e15, e16, e17, e18, e19])
set_option maxRecDepth 100000 in
theorem rcall14_any (s : ByteArray) (l : List Bg) (p : Option Addr) (n c : Nat) (W : World) (hF : FitB W (.slice p n c) l) :
   Calls Tryz.prog 12 #[.string s, .slice p n c] W fun e w' => e = .returned (.agg #[.int .i64 (fnV s.data.toList l).k, .int .i64 (fnV s.data.toList l).n, .string (fnV s.data.toList l).s, .int .i64 (fnV s.data.toList l).e]) ∧ Ext W w' := by
 obtain ⟨q, hq⟩ : ∃ q, s.data.toList = q := ⟨_, rfl⟩
 rw [hq]
 cases hok : okN q l.length with
 | true => exact rdisp s q hq l hok p n c W hF
 | false =>
   have c0 := fun W => rknown_any s W
   rw [hq] at c0
   have cE := fun W => rerr_at 2 (by decide) W
   have hn := hF.rd.len
   have hz := hF.z
   have nI : (n : Int) ≤ 1500000 := by omega
   rw [fnV_no hok]
   have hbad : (kno q).isSome = false ∨ ((kno q).isSome = true ∧ (n : Int) < knA q) ∨ ((kno q).isSome = true ∧ ¬ (n : Int) < knA q ∧ (n : Int) > knB q) := by
     cases h1 : (kno q).isSome
     · exact .inl rfl
     · unfold okN at hok
       rw [h1] at hok
       simp at hok
       by_cases h2 : (n : Int) < knA q
       · exact .inr (.inl ⟨rfl, h2⟩)
       · have := hok (by omega)
         exact .inr (.inr ⟨rfl, h2, by omega⟩)
   generalize knA q = ka at *
   generalize knB q = kb at *
   generalize (kno q).isSome = kb0 at *
   clear hF hok hq hn hz
   rcases hbad with rfl | ⟨rfl, d2⟩ | ⟨rfl, d2, d3⟩
   all_goals
     go_enter Tryz.func12, Tryz.ntmps12
     go_wp2_with fail
     refine (c0 _).mono ?_
     rintro e w1 ⟨rfl, rfl⟩
     go_wp2_with fail
     refine (cE _).mono ?_
     rintro e w2 ⟨rfl, E2⟩
     have B2 : Hid (Blk w2 W.heap.size (.int .i64 0) (.int .i64 0) (.string ⟨#[]⟩) (.int .i64 0) ∧ Ext W w2) := ⟨blk_top (by simp) E2, ((Ext.refl _).alloc _).trans E2⟩
     clear E2
     obtain ⟨z, ⟨b0, b1, b2, b3⟩, f0, f1, f2, f3⟩ := B2.out.1
     go_wp2_with fail
     exact fin4 b0 b1 b2 b3 rfl (by simp) B2.out.2 (fun W g0 g1 g2 g3 => by simp [results, Tryz.results12, go_sem, g0, g1, g2, g3]) (fun W h => ⟨rfl, h⟩)

open Go.RowKit
set_option maxHeartbeats 1000000

theorem eq_val (k n : Int) (s : ByteArray) (e : Int) (w : World) : Sem.run Tryz.prog (Op.equalIn 10000 25 (.agg #[.int .i64 k, .int .i64 n, .string s, .int .i64 e]) (.agg #[.int .i64 k, .int .i64 n, .string s, .int .i64 e])) w = .ok true w := by
 have u3 := Tryz.underlying3
 have a3 := Tryz.isAgg3
 have z3 := Tryz.sizeOf3
 have u9 := Tryz.underlying9
 have u2 := Tryz.underlying2
 have hS : Tryz.prog.underlying 25 = some (.struct (Tryz.prog.fieldsOf 25)) := by kernel_rfl
 have hp : Tryz.prog.stoodInHeld 25 = false := by kernel_rfl
 rw [show (10000 : Nat) = 9999 + 1 from rfl, run_equalIn_agg w 9999 25 _ _ hS hp]
 simp only [Program.fieldsOf, Tryz.underlying25]
 go_simp
theorem gd_val (x y : Array Value) (op : BinOp) (a b : Operand) (w : World) : (eqGuard op 25 a b (.agg x) (.agg y)).run Tryz.prog w = .ok () w := run_eqGuard_agg w op 25 a b x y (by kernel_rfl)

open Go.RowKit
set_option maxHeartbeats 1000000

/-- A value as an argument. -/
def bgR (r : Rw) : Bg := ⟨⟨false, [r]⟩, 0, 0⟩
def cB (q : Bg × Value) : List Value := [.bool q.1.g.area, .int .i64 q.1.rows, .int .i64 q.1.cols, q.2]
theorem args_new {W w' : World} {b m : Nat} {cs : Array Value} {T : TypeId} (qs : List (Bg × Value)) (hb : b = W.heap.size) (hcs : cs.toList = qs.flatMap cB) (hm : qs.length = m) (E : Ext (W.alloc (.cells cs T)) w') (h : ∀ q ∈ qs, RdV W.heap.size W q.2 q.1.g.l) :
   RdB w'.heap.size w' (.slice (some ⟨b, 0, none⟩) m m) (qs.map Prod.fst) := by
 subst hb hm
 have hs : W.heap.size < (W.alloc (.cells cs T)).heap.size := by simp
 have k := fun o => E.cell.1 W.heap.size o hs
 refine ⟨_, qs.length, by simp, by simp, .inr ⟨W.heap.size, 0, rfl, Nat.lt_of_lt_of_le hs E.sz, Nat.lt_of_lt_of_le hs E.sz, fun i a ha => ?_⟩⟩
 rw [List.getElem?_map] at ha
 cases hx : qs[i]? with
 | none => rw [hx] at ha; cases ha
 | some q =>
   rw [hx] at ha
   simp at ha
   subst ha
   have g : ∀ j, j < 4 → w'.cell? ⟨W.heap.size, 0 + i * 4 + j, none⟩ = (cB q)[j]? := fun j hj => by
     rw [k, World.cell?_alloc_at cs T _ _ rfl, ← Array.getElem?_toList, hcs, Nat.zero_add, fm_at cB 4 (fun _ => rfl) qs i q j hx hj]
   have hV := h q (List.mem_of_getElem? hx)
   have X : Ext W w' := ((Ext.refl _).alloc _).trans E
   exact ⟨q.2, g 0 (by decide), g 1 (by decide), g 2 (by decide), g 3 (by decide), (hV.low X).up X.size⟩
theorem blk_rd {W : World} {g : Nat} {r : Rw} (B : Blk W g (.int .i64 r.k) (.int .i64 r.n) (.string r.s) (.int .i64 r.e)) : RdV W.heap.size W (.slice (some ⟨g, 0, none⟩) 1 1) [r] := by
 obtain ⟨z, ⟨k0, k1, k2, k3⟩, _⟩ := B
 refine ⟨_, _, rfl, Nat.le_refl _, .inr ⟨g, 0, rfl, z, z, fun i a hr => ?_⟩⟩
 match i, hr with
 | 0, hr => simp at hr; subst hr; exact ⟨k0, k1, k2, k3⟩
theorem args_2 {W w' : World} {b g0 g1 : Nat} {T : TypeId} {r0 r1 : Rw} (hb : b = W.heap.size) (E : Ext (W.alloc (.cells #[.bool false, .int .i64 0, .int .i64 0, .slice (some ⟨g0, 0, none⟩) 1 1, .bool false, .int .i64 0, .int .i64 0, .slice (some ⟨g1, 0, none⟩) 1 1] T)) w')
   (B0 : Blk W g0 (.int .i64 r0.k) (.int .i64 r0.n) (.string r0.s) (.int .i64 r0.e)) (B1 : Blk W g1 (.int .i64 r1.k) (.int .i64 r1.n) (.string r1.s) (.int .i64 r1.e)) : RdB w'.heap.size w' (.slice (some ⟨b, 0, none⟩) 2 2) [bgR r0, bgR r1] :=
 args_new [(bgR r0, .slice (some ⟨g0, 0, none⟩) 1 1), (bgR r1, .slice (some ⟨g1, 0, none⟩) 1 1)] hb rfl rfl E (fun q hq => by
   simp at hq
   rcases hq with rfl | rfl
   · exact blk_rd B0
   · exact blk_rd B1)
/-- Arguments that are one value each fit. -/
theorem fit_ones {W : World} {v : Value} {rs : List Rw} (h : RdB W.heap.size W v (rs.map bgR)) (hi : ∀ r ∈ rs, I64 r.n) (hl : rs.length ≤ 1000) : FitB W v (rs.map bgR) := by
 refine ⟨h, ?_, ?_, by simp; omega, ?_⟩
 · intro a ha r hr
   simp [gsOf, bgR] at ha
   obtain ⟨x, hx, rfl⟩ := ha
   simp at hr
   subst hr
   exact hi _ hx
 · have : (seen (gsOf (rs.map bgR))).length = rs.length := by
     clear h hi hl
     induction rs with
     | nil => rfl
     | cons r rs ih =>
       show (seen1 ⟨false, [r]⟩ ++ seen (gsOf (rs.map bgR))).length = _
       rw [List.length_append, ih]
       show 1 + _ = _
       simp; omega
   omega
 · intro a ha
   simp at ha
   obtain ⟨x, hx, rfl⟩ := ha
   refine ⟨⟨?_, ?_⟩, ⟨?_, ?_⟩⟩ <;> simp [bgR]
theorem of_any (k n : Int) (s : ByteArray) (e : Int) (W : World) :
   Calls Tryz.prog 13 #[.agg #[.int .i64 k, .int .i64 n, .string s, .int .i64 e]] W fun r w' => ∃ g, r = .returned (.agg #[.bool false, .int .i64 0, .int .i64 0, .slice (some ⟨g, 0, none⟩) 1 1]) ∧ Blk w' g (.int .i64 k) (.int .i64 n) (.string s) (.int .i64 e) ∧ Ext W w' := by
 go_enter Tryz.func13, Tryz.ntmps13
 go_wp2_with fail
 simp [bodyPost, results, Tryz.results13, go_sem]
 exact ⟨blk_top (by simp) (Ext.refl _), (((Ext.refl _).alloc _).alloc _).alloc _⟩
theorem live_mod : fnV [77, 79, 68] [bgR (V.num (-10000)).rw, bgR (V.num 30000).rw] = .num 20000 := by rfl
theorem live_left : fnV [76, 69, 70, 84] [bgR (V.text ⟨#[97, 98, 99]⟩).rw, bgR (V.num 29000).rw] = .text ⟨#[97, 98]⟩ := by rfl
theorem call_2 (s : ByteArray) (r0 r1 : Rw) (hi : ∀ r ∈ [r0, r1], I64 r.n) {w0 : World} (hN : Nm w0) (hT : Tab w0) {W : World} {g0 g1 : Nat} (B0 : Blk W g0 (.int .i64 r0.k) (.int .i64 r0.n) (.string r0.s) (.int .i64 r0.e)) (B1 : Blk W g1 (.int .i64 r1.k) (.int .i64 r1.n) (.string r1.s) (.int .i64 r1.e)) (E : Ext w0 W) :
   Calls Tryz.prog 10 #[.string s, .slice (some ⟨W.heap.size, 0, none⟩) 2 2] (W.alloc (.cells #[.bool false, .int .i64 0, .int .i64 0, .slice (some ⟨g0, 0, none⟩) 1 1, .bool false, .int .i64 0, .int .i64 0, .slice (some ⟨g1, 0, none⟩) 1 1] 31)) fun e w' => e = .returned (.agg #[.int .i64 (fnV s.data.toList [bgR r0, bgR r1]).k, .int .i64 (fnV s.data.toList [bgR r0, bgR r1]).n, .string (fnV s.data.toList [bgR r0, bgR r1]).s, .int .i64 (fnV s.data.toList [bgR r0, bgR r1]).e]) ∧ Ext W w' := by
 have h := xcall_any s [bgR r0, bgR r1] _ 2 2 _ ⟨fit_ones (rs := [r0, r1]) (args_2 (T := 31) rfl (Ext.refl _) B0 B1) hi (by simp), hN.ext (E.alloc _), hT.ext (E.alloc _)⟩
 rw [dat_eq] at h
 exact h.mono (fun e w' k => ⟨k.1, ((Ext.refl _).alloc _).trans k.2⟩)
set_option maxRecDepth 100000 in
theorem lives14_any (w : World) (hN : Nm w) (hT : Tab w) : Calls Tryz.prog 9 #[] w fun r w' => r = .returned (.bool true) ∧ Ext w w' := by
 have qE := eq_val
 have qG := gd_val
 have cN : ∀ n W, canB n = true → Calls Tryz.prog 17 #[.int .i64 n] W fun r w' => r = .returned (.agg #[.int .i64 2, .int .i64 n, .string ⟨#[]⟩, .int .i64 0]) ∧ Ext W w' := fun n W h => by
   have := rnum_any n W
   rwa [mkNum_is h] at this
 have cT : ∀ s W, s.size ≤ 300 → Calls Tryz.prog 16 #[.string s] W fun r w' => r = .returned (.agg #[.int .i64 3, .int .i64 0, .string s, .int .i64 0]) ∧ Ext W w' := fun s W h => by
   have := rtext_any s W
   rwa [mkText_is h] at this
 have cM := fun (W : World) (g0 g1 : Nat) B0 B1 E => call_2 ⟨#[77, 79, 68]⟩ (V.num (-10000)).rw (V.num 30000).rw (by intro r hr; simp at hr; rcases hr with rfl | rfl <;> exact ⟨by decide, by decide⟩) hN hT (W := W) (g0 := g0) (g1 := g1) B0 B1 E
 have cL := fun (W : World) (g0 g1 : Nat) B0 B1 E => call_2 ⟨#[76, 69, 70, 84]⟩ (V.text ⟨#[97, 98, 99]⟩).rw (V.num 29000).rw (by intro r hr; simp at hr; rcases hr with rfl | rfl <;> exact ⟨by decide, by decide⟩) hN hT (W := W) (g0 := g0) (g1 := g1) B0 B1 E
 rw [show (⟨#[77, 79, 68]⟩ : ByteArray).data.toList = [77, 79, 68] from rfl, live_mod] at cM
 rw [show (⟨#[76, 69, 70, 84]⟩ : ByteArray).data.toList = [76, 69, 70, 84] from rfl, live_left] at cL
 simp only [V.rw, V.k, V.n, V.s, V.e] at cM cL
 go_enter Tryz.func9, Tryz.ntmps9
 go_wp2_with fail
 refine (cN _ _ (by decide)).mono ?_
 rintro e w1 ⟨rfl, Ew1⟩
 have Hw1 : Hid (Ext w w1) := (Ext.refl _).trans Ew1
 clear Ew1
 go_wp2_with fail
 refine (of_any 2 (-10000) ⟨#[]⟩ 0 _).mono ?_
 rintro e w2 ⟨g2, rfl, Bw2, Ew2⟩
 have Hw2 : Hid (Ext w w2 ∧ Blk w2 g2 (.int .i64 2) (.int .i64 (-10000)) (.string ⟨#[]⟩) (.int .i64 0)) := ⟨(Hw1.out).trans Ew2, Bw2⟩
 clear Ew2 Bw2
 go_wp2_with fail
 refine (cN _ _ (by decide)).mono ?_
 rintro e w3 ⟨rfl, Ew3⟩
 have Hw3 : Hid (Ext w w3 ∧ Blk w3 g2 (.int .i64 2) (.int .i64 (-10000)) (.string ⟨#[]⟩) (.int .i64 0)) := ⟨(Hw2.out.1).trans Ew3, (Hw2.out.2).ext Ew3⟩
 clear Ew3
 go_wp2_with fail
 refine (of_any 2 30000 ⟨#[]⟩ 0 _).mono ?_
 rintro e w4 ⟨g4, rfl, Bw4, Ew4⟩
 have Hw4 : Hid (Ext w w4 ∧ Blk w4 g2 (.int .i64 2) (.int .i64 (-10000)) (.string ⟨#[]⟩) (.int .i64 0) ∧ Blk w4 g4 (.int .i64 2) (.int .i64 30000) (.string ⟨#[]⟩) (.int .i64 0)) := ⟨(Hw3.out.1).trans Ew4, (Hw3.out.2).ext Ew4, Bw4⟩
 clear Ew4 Bw4
 go_wp2_with fail
 refine (cM _ _ _ (Hw4.out.2.1) (Hw4.out.2.2) (Hw4.out.1)).mono ?_
 rintro e w5 ⟨rfl, Ew5⟩
 have Hw5 : Hid (Ext w w5 ∧ Blk w5 g2 (.int .i64 2) (.int .i64 (-10000)) (.string ⟨#[]⟩) (.int .i64 0) ∧ Blk w5 g4 (.int .i64 2) (.int .i64 30000) (.string ⟨#[]⟩) (.int .i64 0)) := ⟨(Hw4.out.1).trans Ew5, (Hw4.out.2.1).ext Ew5, (Hw4.out.2.2).ext Ew5⟩
 clear Ew5
 have KHw5 : Hid (Ext w w5) := Hw5.out.1
 clear Hw5
 go_wp2_with fail
 refine (cN _ _ (by decide)).mono ?_
 rintro e w6 ⟨rfl, Ew6⟩
 have Hw6 : Hid (Ext w w6) := (KHw5.out).trans Ew6
 clear Ew6
 go_wp2_with fail
 refine (cT _ _ (by decide)).mono ?_
 rintro e w7 ⟨rfl, Ew7⟩
 have Hw7 : Hid (Ext w w7) := (Hw6.out).trans Ew7
 clear Ew7
 go_wp2_with fail
 refine (of_any 3 0 (⟨#[97, 98, 99]⟩) 0 _).mono ?_
 rintro e w8 ⟨g8, rfl, Bw8, Ew8⟩
 have Hw8 : Hid (Ext w w8 ∧ Blk w8 g8 (.int .i64 3) (.int .i64 0) (.string (⟨#[97, 98, 99]⟩)) (.int .i64 0)) := ⟨(Hw7.out).trans Ew8, Bw8⟩
 clear Ew8 Bw8
 go_wp2_with fail
 refine (cN _ _ (by decide)).mono ?_
 rintro e w9 ⟨rfl, Ew9⟩
 have Hw9 : Hid (Ext w w9 ∧ Blk w9 g8 (.int .i64 3) (.int .i64 0) (.string (⟨#[97, 98, 99]⟩)) (.int .i64 0)) := ⟨(Hw8.out.1).trans Ew9, (Hw8.out.2).ext Ew9⟩
 clear Ew9
 go_wp2_with fail
 refine (of_any 2 29000 ⟨#[]⟩ 0 _).mono ?_
 rintro e w10 ⟨g10, rfl, Bw10, Ew10⟩
 have Hw10 : Hid (Ext w w10 ∧ Blk w10 g8 (.int .i64 3) (.int .i64 0) (.string (⟨#[97, 98, 99]⟩)) (.int .i64 0) ∧ Blk w10 g10 (.int .i64 2) (.int .i64 29000) (.string ⟨#[]⟩) (.int .i64 0)) := ⟨(Hw9.out.1).trans Ew10, (Hw9.out.2).ext Ew10, Bw10⟩
 clear Ew10 Bw10
 go_wp2_with fail
 refine (cL _ _ _ (Hw10.out.2.1) (Hw10.out.2.2) (Hw10.out.1)).mono ?_
 rintro e w11 ⟨rfl, Ew11⟩
 have Hw11 : Hid (Ext w w11 ∧ Blk w11 g8 (.int .i64 3) (.int .i64 0) (.string (⟨#[97, 98, 99]⟩)) (.int .i64 0) ∧ Blk w11 g10 (.int .i64 2) (.int .i64 29000) (.string ⟨#[]⟩) (.int .i64 0)) := ⟨(Hw10.out.1).trans Ew11, (Hw10.out.2.1).ext Ew11, (Hw10.out.2.2).ext Ew11⟩
 clear Ew11
 have KHw11 : Hid (Ext w w11) := Hw11.out.1
 clear Hw11
 go_wp2_with fail
 refine (cT _ _ (by decide)).mono ?_
 rintro e w12 ⟨rfl, Ew12⟩
 have Hw12 : Hid (Ext w w12) := (KHw11.out).trans Ew12
 clear Ew12
 go_wp2_with fail
 go_ret
 exact ⟨rfl, Hw12.out⟩

open Go.RowKit
set_option maxHeartbeats 1000000

/-! ### Arguments in memory of their own -/
theorem cB_one (q : Bg × Value) (h : q.2.oneCell' = true) : ∀ u ∈ [q].flatMap cB, u.oneCell' = true := by
 intro u hu
 simp [cB] at hu
 rcases hu with rfl | rfl | rfl | rfl
 · rfl
 · rfl
 · rfl
 · exact h
theorem own_rdB {W : World} {base : Nat} {v : Value} {l : List (Bg × Value)} (h : W.ownsRow base 31 4 v l.length (l.flatMap cB)) (hv : ∀ q ∈ l, RdV W.heap.size W q.2 q.1.g.l) : RdB W.heap.size W v (l.map Prod.fst) := by
 rcases h.2 with ⟨rfl, h0⟩ | ⟨g, cap, cur, rfl, _, h3, h4, _, h5, h6⟩
 · have : l = [] := List.eq_nil_of_length_eq_zero h0
   subst this
   exact ⟨none, 0, rfl, Nat.le_refl _, .inl rfl⟩
 · have hg : g < W.heap.size := (Array.getElem?_eq_some_iff.1 h3).1
   refine ⟨_, cap, by simp, by simpa using h4, .inr ⟨g, 0, rfl, hg, hg, fun i a ha => ?_⟩⟩
   rw [List.getElem?_map] at ha
   cases hx : l[i]? with
   | none => rw [hx] at ha; cases ha
   | some q =>
     rw [hx] at ha
     simp at ha
     subst ha
     have k : ∀ j, j < 4 → W.cell? ⟨g, 0 + i * 4 + j, none⟩ = (cB q)[j]? := fun j hj => by
       rw [Nat.zero_add, ← fm_at cB 4 (fun _ => rfl) l i q j hx hj]
       obtain ⟨u, hu⟩ : ∃ u, (l.flatMap cB)[i * 4 + j]? = some u := by rw [fm_at cB 4 (fun _ => rfl) l i q j hx hj]; exact ⟨_, List.getElem?_eq_getElem (by simpa [cB] using hj)⟩
       rw [hu]
       have := h.cells (g := g) rfl _ _ hu
       rwa [Addr.add_lit, Nat.zero_add] at this
     exact ⟨q.2, k 0 (by decide), k 1 (by decide), k 2 (by decide), k 3 (by decide), hv q (List.mem_of_getElem? hx)⟩
/-- The state of own when gs was copied. -/
structure OwnsB (W : World) (gs : List Bg) (ov : Value) (V : World) : Prop where
 e : Ext W V
 q : ∃ qs : List (Bg × Value), qs.map Prod.fst = gs ∧ V.ownsRow W.heap.size 31 4 ov qs.length (qs.flatMap cB) ∧ ∀ q ∈ qs, V.ownsRow W.heap.size 25 4 q.2 q.1.g.l.length (q.1.g.l.flatMap cV)
theorem OwnsB.ext {W : World} {gs : List Bg} {ov : Value} {V V' : World} (h : OwnsB W gs ov V) (e : Ext V V') : OwnsB W gs ov V' := by
 obtain ⟨h1, qs, h2, h3, h4⟩ := h
 exact ⟨h1.trans e, qs, h2, ownsRow_ext h3 e, fun q hq => ownsRow_ext (h4 q hq) e⟩
theorem OwnsB.rd {W : World} {gs : List Bg} {ov : Value} {V : World} (h : OwnsB W gs ov V) : RdB V.heap.size V ov gs := by
 obtain ⟨h1, qs, h2, h3, h4⟩ := h
 rw [← h2]
 exact own_rdB h3 (fun q hq => own_rdV (h4 q hq))
/-- A row of values is no row of arguments. -/
theorem apartB {V : World} {base : Nat} {v ov : Value} {n m : Nat} {xs ys : List Value} (h : V.ownsRow base 25 4 v n xs) (g : V.ownsRow base 31 4 ov m ys) : v.ownBlock = none ∨ v.ownBlock ≠ ov.ownBlock := by
 rcases h.2 with ⟨rfl, _⟩ | ⟨b, _, cur, rfl, _, h3, _⟩
 · exact .inl rfl
 · right
   rcases g.2 with ⟨rfl, _⟩ | ⟨b', _, cur', rfl, _, g3, _⟩
   · simp [Value.ownBlock]
   · intro e
     simp [Value.ownBlock] at e
     subst e
     rw [h3] at g3
     cases g3
theorem owns_appB {ops : Array Oper} {rest : List Oper} {o : Oper} {act : Act} {Q : Exit → Act → World → Prop} (W V WA : World) (s x : Operand) (ov : Value) (gs : List Bg) (a : Bg) (lv : Value) (g : Nat) (hgd : o.guard = none)
   (ho : o.op = .call { callee := .builtin .append, args := #[s, x], argTypes := #[22, 22] }) (hs : act.eval s = ov) (hx : act.eval x = .slice (some ⟨g, 0, none⟩) 1 1)
   (hc : WA.cell? ⟨g, 0, none⟩ = some (.bool a.g.area) ∧ WA.cell? ⟨g, 1, none⟩ = some (.int .i64 a.rows) ∧ WA.cell? ⟨g, 2, none⟩ = some (.int .i64 a.cols) ∧ WA.cell? ⟨g, 3, none⟩ = some lv)
   (h : OwnsB W gs ov V) (e : Ext V WA) (hlv : WA.ownsRow W.heap.size 25 4 lv a.g.l.length (a.g.l.flatMap cV)) (h1 : lv.oneCell' = true) (hl : gs.length ≤ 1000)
   (K : ∀ p c W', OwnsB W (gs ++ [a]) (.slice p (gs.length + 1) c) W' → wpList Tryz.prog ops Q rest (act.put o.dst (.slice p (gs.length + 1) c)) W') :
   wpList Tryz.prog ops Q (o :: rest) act WA := by
 obtain ⟨h0, qs, h2, h3, h4⟩ := h.ext e
 have hq : qs.length = gs.length := by rw [← h2]; simp
 refine own_app2 eltA WA W s x ov _ qs.length 1 (qs.flatMap cB) (cB (a, lv)) W.heap.size hgd ho hs hx h3 ⟨rfl, _, _, rfl, .inr ⟨_, rfl, ?_⟩⟩ ?_ (by unfold maxLen; omega) (by omega) h0 (Nat.le_refl _) h0.size ?_
 · intro j u hj
   rw [Addr.add_lit, Nat.zero_add]
   match j, hj with
   | 0, hj => simp [cB] at hj; subst hj; exact hc.1
   | 1, hj => simp [cB] at hj; subst hj; exact hc.2.1
   | 2, hj => simp [cB] at hj; subst hj; exact hc.2.2.1
   | 3, hj => simp [cB] at hj; subst hj; exact hc.2.2.2
   | j + 4, hj => simp [cB] at hj
 · intro u hu
   exact cB_one (a, lv) h1 u (by simpa using hu)
 · intro v' W' k1 k2 k3 _
   obtain ⟨p, c, rfl, _⟩ := own_form k1
   rw [hq] at k1 ⊢
   refine K p c W' ⟨k2, qs ++ [(a, lv)], by simp [h2], by simpa [hq] using k1, ?_⟩
   intro q hqq
   rcases List.mem_append.1 hqq with hqq | hqq
   · exact (h4 q hqq).kept k3 (apartB (h4 q hqq) h3)
   · simp at hqq
     subst hqq
     exact hlv.kept k3 (apartB hlv h3)
theorem own_newAtB {T : TypeId} {k b : Nat} (w W : World) (hb : b = W.heap.size) (h : w.heap.size ≤ W.heap.size) : (W.alloc (.cells #[] T)).ownsRow w.heap.size T k (.slice (some ⟨b, 0, none⟩) 0 0) 0 [] := by subst hb; exact own_new w W h
set_option maxRecDepth 100000 in
theorem own14_any (gs : List Bg) (p : Option Addr) (n c : Nat) (W : World) (h : RdB W.heap.size W (.slice p n c) gs) (hf : gs.length ≤ 25 ∧ ∀ a ∈ gs, a.g.l.length ≤ 1500000) :
   Calls Tryz.prog 11 #[.slice p n c] W fun e w' => ∃ p' c', e = .returned (.slice p' n c') ∧ RdB w'.heap.size w' (.slice p' n c') gs ∧ Ext W w' := by
 have HR : Hid (RdB W.heap.size W (.slice p n c) gs) := h
 have HN : Hid (n = gs.length ∧ gs.length ≤ 25 ∧ ∀ a ∈ gs, a.g.l.length ≤ 1500000) := by
   obtain ⟨p', c', h1, _⟩ := h
   cases h1
   exact ⟨rfl, hf⟩
 clear h hf
 go_enter Tryz.func11, Tryz.ntmps11
 go_wp2_with fail
 go_loopw [4, 3] (fun iv ov wr => ∃ (j : Nat) (pv : Option Addr) (cv : Nat), iv = .int .i64 (j : Int) ∧ ov = .slice pv j cv ∧ j ≤ n ∧ OwnsB W (gs.take j) (.slice pv j cv) wr) (fun iv _ _ => n - (intOf iv).toNat)
 case atStart => exact ⟨0, _, _, rfl, rfl, Nat.zero_le _, (Ext.refl _).alloc _, [], by simp, own_new W W (Nat.le_refl _), by intro q hq; cases hq⟩
 case round =>
   obtain ⟨j, pv, cv, rfl, rfl, hj, hS⟩ := hrel
   have HS : Hid (OwnsB W (gs.take j) (.slice pv j cv) wr) := hS
   clear hS
   by_cases hlt : j < n
   · have hltI : (j : Int) < (n : Int) := by omega
     obtain ⟨a, ha⟩ : ∃ a, gs[j]? = some a := ⟨gs[j]'(by have := HN.out.1; omega), List.getElem?_eq_getElem _⟩
     obtain ⟨b, off, lv, rfl, hb, hbW, ⟨k0, k1, k2, k3⟩, hV⟩ := (HR.out.low HS.out.e).at ha
     obtain ⟨p', n', c', rfl, hn', hc'⟩ := hV.form
     have hal : a.g.l.length ≤ 1500000 := HN.out.2.2 a (List.mem_of_getElem? ha)
     have hnl : gs.length ≤ 25 := HN.out.2.1
     have HV : Hid (RdV W.heap.size wr (.slice p' n' c') a.g.l ∧ gs[j]? = some a ∧ n' = a.g.l.length ∧ a.g.l.length ≤ 1500000 ∧ n ≤ 25) := ⟨hV, ha, hn', hal, by have := HN.out.1; omega⟩
     have WK : Hid (wrap64 ((j : Int) + 1) = ((j + 1 : Nat) : Int)) := wrap_1 j (by have := HN.out.1; have := HN.out.2.1; omega)
     have hj1 : j + 1 ≤ n := by omega
     have HE : Hid (Ext W wr) := HS.out.e
     clear hV ha hn' hc' hb hal hnl
     have hal2 : a.g.l.length * 40 ≤ 60000000 := by have := HV.out.2.2.2.1; omega
     have HA2 : Hid (a.g.l.length * 40 ≤ 60000000) := hal2
     have hjt : (gs.take j).length = j := by rw [List.length_take]; have := HN.out.1; omega
     have HJT : Hid ((gs.take j).length = j) := hjt
     clear hal2 hjt
     go_wp2_with (at_builtin; first | (have hM := HM.out; refine owns_appB W wr _ _ _ _ (gs.take j) a _ _ rfl rfl (by rfl) (by rfl) (by simp [go_sem]) HS.out (Ext.alloc (Ext.setCell hM.2.1 (Nat.le_refl _) _) _) (World.ownsRow.alloc (ownsRow_mono (own_far hM.1 hM.2.2) HE.out.size) _) rfl (by rw [HJT.out]; have := HV.out.2.2.2.2; omega) ?_; intro p6 c6 W6 N6; rw [HJT.out] at N6 ⊢; have HN6 : Hid (OwnsB W (gs.take j ++ [a]) (.slice p6 (j + 1) c6) W6) := N6; clear N6 hM; have wk := WK.out) | (refine own_app2 eltV _ wr _ _ _ _ 0 a.g.l.length [] (a.g.l.flatMap cV) wr.heap.size rfl rfl (by rfl) (by rfl) (own_newAtB (b := wr.heap.size + 1) wr _ (by simp) (Ext.sz (Ext.alloc (Ext.refl wr) _))) (HV.out.1.low (Below.mono (Ext.alloc (Ext.alloc (Ext.refl wr) _) _) HE.out.size)).row (cV_one a.g.l) (by unfold maxLen; have := HA2.out; omega) (by have := HA2.out; omega) (Ext.alloc (Ext.alloc (Ext.refl wr) _) _) (Nat.le_refl _) (Ext.sz (Ext.alloc (Ext.alloc (Ext.refl wr) _) _)) ?_; intro v' W' m1 m2 m3 m4; rw [Nat.zero_add, List.nil_append] at m1; obtain ⟨p5, c5, rfl, _⟩ := own_form m1; have BA : Blk W' wr.heap.size (.bool a.g.area) (.int .i64 a.rows) (.int .i64 a.cols) (.slice p' n' c') := Blk.grown (blk_top (by simp) ((Ext.refl _).alloc _)) m3 (by simp [Value.ownBlock]); have HM : Hid (W'.ownsRow wr.heap.size 25 4 (.slice p5 a.g.l.length c5) a.g.l.length (a.g.l.flatMap cV) ∧ Ext wr W' ∧ (Value.slice p5 a.g.l.length c5).ownBlock ≠ some wr.heap.size) := ⟨m1, m2, (by rcases m4 with m | m <;> (rw [m]; simp [Value.ownBlock] <;> omega))⟩; obtain ⟨d0z, ⟨d0_0, d0_1, d0_2, d0_3⟩, d0f0, d0f1, d0f2, d0f3⟩ := BA; clear m1 m2 m3 m4))
     go_roundw
     case rel => exact ⟨j + 1, _, _, by go_num, rfl, hj1, by rw [List.take_add_one, HV.out.2.1]; exact HN6.out⟩
     case measure => exact meas n j hj1 wk
   · have hltI : ¬ (j : Int) < (n : Int) := by omega
     have hjn : j = n := by omega
     subst hjn
     have H2 : Hid (OwnsB W gs (.slice pv j cv) wr) := by
       have h1 := HS.out
       rw [show gs.take j = gs from List.take_of_length_le (by have := HN.out.1; omega)] at h1
       exact h1
     clear hlt hj
     go_wp2_with fail
     go_ret
     exact ⟨_, _, rfl, H2.out.rd, H2.out.e⟩
end Go.Proofs.YtalejeknigbhjaaGreatDoor

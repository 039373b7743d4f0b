/-
 The contracts of level and formula; so all readings, of lists of whatever length.
 The contract of package lex's number.
 The contract of package lex's next: the word that begins at a place, or a panic that tells why there is none.
 The contract of package lex's read, whose deferred closure recovers the panic that tells the first fault.
-/
import Derived.Test.YtcggiljlilbdfaaGreatDoorQ26
import Derived.Laws.EntriesVeiled
import Derived.Test.YtcggiljlilbdfaaGreatDoorQ10
import Derived.Test.YtcggiljlilbdfaaGreatDoorQ4
import Derived.Test.YtcggiljlilbdfaaGreatDoorQ14
import Derived.Test.YtcggiljlilbdfaaGreatDoorQ11
import Derived.Defers
import Derived.Recover
namespace Go.Proofs.YtcggiljlilbdfaaGreatDoor
open Go.RowKit
set_option maxHeartbeats 6000000

/-- A function value that reads as F does is answered. -/
def LevQ (w0 : World) (b n : Nat) (F : Rd) (w : World) (e : Ending) (w' : World) : Prop := ∃ (K : FuncId) (fs cs : Array Value), e = .returned (.func (.func K) fs cs) ∧ Ext w w' ∧ (∀ W, (callFunc K (fs ++ cs)).run Tryz.prog W = .ok (.enter K (fs ++ cs)) W) ∧ RdK w0 b n F K (fs ++ cs) w'
theorem lev5_any (w0 : World) (b n : Nat) (o : Rd) (w : World) (hO : RdF w0 b n o 84) : Calls Tryz.prog 57 #[.pointer (some ⟨b, 0, none⟩), .int .i64 5] w (LevQ w0 b n o w) := by
 have HO : Hid (RdF w0 b n o 84) := hO
 have hmf : ∀ (fn : Fn) (first cap : Array Value) (w : World), (Instr.makeFunc fn first cap).run Tryz.prog w = .ok (.func fn first cap) w := fun _ _ _ _ => rfl
 clear hO
 go_enter Tryz.func57, Tryz.ntmps57
 go_wp2_with fail
 go_ret
 exact ⟨84, #[.pointer (some ⟨b, 0, none⟩)], #[], rfl, ((Ext.refl _).alloc _).alloc _, fun W => enters_of Tryz.func84 (by kernel_rfl) rfl _ W, fun w' ts d _ hS hn => HO.out w' ts d hS hn⟩
theorem lev_any (w0 : World) (b n k : Nat) (side : Rd) (w : World) (hk : k ≤ 4) (hb : b < w.heap.size) (hsh : ShF n side) (hN : ∀ W, b < W.heap.size → Calls Tryz.prog 57 #[.pointer (some ⟨b, 0, none⟩), .int .i64 ((k : Int) + 1)] W (LevQ w0 b n side W)) :
   Calls Tryz.prog 57 #[.pointer (some ⟨b, 0, none⟩), .int .i64 (k : Int)] w (LevQ w0 b n (lv side k) w) := by
 have HB : Hid (b < w.heap.size) := hb
 have HSH : Hid (ShF n side) := hsh
 have hkI : ¬ (4 : Int) < (k : Int) := by omega
 have hmf : ∀ (fn : Fn) (first cap : Array Value) (w : World), (Instr.makeFunc fn first cap).run Tryz.prog w = .ok (.func fn first cap) w := fun _ _ _ _ => rfl
 have HNN : Hid (∀ W, b < W.heap.size → Calls Tryz.prog 57 #[.pointer (some ⟨b, 0, none⟩), .int .i64 ((k : Int) + 1)] W (LevQ w0 b n side W)) := hN
 clear hb hsh hN
 go_enter Tryz.func57, Tryz.ntmps57
 go_wp2_with fail
 refine (HNN.out _ (by have := HB.out; simp; omega)).mono ?_
 rintro e w1 ⟨K, fs, cs, rfl, E1, hent, hK⟩
 have HK : Hid ((∀ W, (callFunc K (fs ++ cs)).run Tryz.prog W = .ok (.enter K (fs ++ cs)) W) ∧ RdK w0 b n side K (fs ++ cs) w1) := ⟨hent, hK⟩
 have q1 : w1.cell? ⟨w.heap.size, 0, none⟩ = some (.pointer (some ⟨b, 0, none⟩)) := (E1.cell.1 w.heap.size 0 (by simp; omega)).trans (by rw [World.cell?_alloc_lt _ _ _ (by simp)]; simp [go_sem])
 have q2 : w1.cell? ⟨w.heap.size + 1, 0, none⟩ = some (.int .i64 (k : Int)) := (E1.cell.1 (w.heap.size + 1) 0 (by simp)).trans (by simp [go_sem])
 have hz : w.heap.size + 1 + 1 ≤ w1.heap.size := by have := E1.sz; simp at this; omega
 have HQ : Hid (w1.cell? ⟨w.heap.size, 0, none⟩ = some (.pointer (some ⟨b, 0, none⟩)) ∧ w1.cell? ⟨w.heap.size + 1, 0, none⟩ = some (.int .i64 (k : Int)) ∧ w.heap.size + 1 + 1 ≤ w1.heap.size) := ⟨q1, q2, hz⟩
 have HE : Hid (Ext w w1) := (((Ext.refl w).alloc _).alloc _).trans E1
 clear E1 hent hK
 go_wp2_with fail
 go_ret
 refine ⟨85, #[], _, rfl, HE.out.alloc _, fun W => enters_of Tryz.func85 (by kernel_rfl) rfl _ W, ?_⟩
 intro w' ts d e hS hn
 have z := HB.out
 have y := HQ.out
 have es := e.size
 simp at es
 have a1 : ∀ j, j < w1.heap.size → j ≠ b → ∀ v, w1.cell? ⟨j, 0, none⟩ = some v → w'.cell? ⟨j, 0, none⟩ = some v := fun j hj hb v hv => ((e.cell (by simp; omega) hb 0).1).trans ((World.cell?_alloc_lt _ _ _ (by simpa using hj)).trans hv)
 have a2 : w'.cell? ⟨w1.heap.size, 0, none⟩ = some (.func (.func K) fs cs) := ((e.cell (by simp) (by omega) 0).1).trans (by simp [go_sem])
 exact level1_any w0 b d n k side K fs cs w1.heap.size w.heap.size (w.heap.size + 1) ts w' HK.out.1 (HK.out.2.ext ((((Ext.refl _).alloc _).toB b).trans e)) HSH.out a2 (a1 _ (by omega) (by omega) _ y.1) (a1 _ (by omega) (by omega) _ y.2.1) ⟨⟨by omega, by omega, by omega⟩, by omega, by omega, by omega⟩ hS hn
theorem lev1_any (w0 : World) (b n : Nat) (o : Rd) (hsh : ShF n o) (hO : RdF w0 b n o 84) (w : World) (hb : b < w.heap.size) : Calls Tryz.prog 57 #[.pointer (some ⟨b, 0, none⟩), .int .i64 1] w (LevQ w0 b n (frm o) w) := by
 have h5 : ∀ W, b < W.heap.size → Calls Tryz.prog 57 #[.pointer (some ⟨b, 0, none⟩), .int .i64 5] W (LevQ w0 b n o W) := fun W _ => lev5_any w0 b n o W hO
 have h4 : ∀ W, b < W.heap.size → Calls Tryz.prog 57 #[.pointer (some ⟨b, 0, none⟩), .int .i64 4] W (LevQ w0 b n (lv o 4) W) := fun W hW => lev_any w0 b n 4 o W (by decide) hW hsh h5
 have h3 : ∀ W, b < W.heap.size → Calls Tryz.prog 57 #[.pointer (some ⟨b, 0, none⟩), .int .i64 3] W (LevQ w0 b n (lv (lv o 4) 3) W) := fun W hW => lev_any w0 b n 3 _ W (by decide) hW (lv_sh hsh 4) h4
 have h2 : ∀ W, b < W.heap.size → Calls Tryz.prog 57 #[.pointer (some ⟨b, 0, none⟩), .int .i64 2] W (LevQ w0 b n (lv (lv (lv o 4) 3) 2) W) := fun W hW => lev_any w0 b n 2 _ W (by decide) hW (lv_sh (lv_sh hsh 4) 3) h3
 exact lev_any w0 b n 1 _ w (by decide) hb (lv_sh (lv_sh (lv_sh hsh 4) 3) 2) h2
set_option maxRecDepth 100000 in
theorem formula_any (w0 : World) (b n : Nat) (o : Rd) (hsh : ShF n o) (hO : RdF w0 b n o 84) : RdF w0 b n (frm o) 27 := by
 intro w ts d h hn
 have h3 := h.2.2.1
 have HS : Hid (Stt w0 b w ts d) := h
 have HZ : Hid (w0.heap.size ≤ w.heap.size) := h.1.sz
 have hg0 : w.heap.size ≠ b := by omega
 have HN : Hid (ts.length ≤ n) := hn
 have HH : Hid (b < w.heap.size) := h3
 have HL : Hid (∀ W, b < W.heap.size → Calls Tryz.prog 57 #[.pointer (some ⟨b, 0, none⟩), .int .i64 1] W (LevQ w0 b n (frm o) W)) := fun W hW => lev1_any w0 b n o hsh hO W hW
 clear h hsh hO hn
 go_enter Tryz.func27, Tryz.ntmps27
 go_wp2_with fail
 refine (HL.out _ (by have := HH.out; simp; omega)).mono ?_
 rintro e w1 ⟨K, fs, cs, rfl, E1, hent, hK⟩
 have HE1 : Hid (Ext (w.alloc (.cells #[.int .i64 0, .int .i64 0, .string ⟨#[]⟩, .int .i64 0, .int .i64 0, .int .i64 0, .bool false, .bool false, .int .i64 0, .int .i64 0, .bool false, .bool false, .slice none 0 0] 29)) w1) := E1
 have HK : Hid (RdK w0 b n (frm o) K (fs ++ cs) w1) := hK
 clear E1 hK
 go_wp2_with fail
 refine (HK.out w1 ts d (ExtB.refl b w1) ((HS.out.ext ((Ext.refl _).alloc _)).ext HE1.out) HN.out).mono ?_
 intro e w2 h2
 have Y1 : ExtB b w w1 := ((((Ext.refl w).alloc _).trans HE1.out).toB b)
 rcases h2.cases with ⟨f, hr, rfl, E2⟩ | ⟨x, us, pp, ln, cl, hr, rfl, hL, S2, E2⟩
 · exact ⟨rfl, (by rw [hr]; exact ⟨rfl, Y1.trans E2⟩ : PR w0 b w d (frm o d ts) (pft f) w2)⟩
 · have HX2 : Hid (frm o d ts = .ok (x, us)) := hr
   have HB : Hid (BlkX w2 w.heap.size tz (.slice none 0 0) ∧ ExtB b w w2) := ⟨(BlkX.top rfl HE1.out).extB E2 hg0, Y1.trans E2⟩
   have HL2 : Hid (IsL w2 (w.heap.size + 1 ≤ ·) (.slice pp ln cl) x.l) := hL.mono (fun k hk _ => by have := HE1.out.sz; simp at this; omega)
   have HS2 : Hid (Stt w0 b w2 us d) := S2
   obtain ⟨qf, ⟨lf0, lf1, lf2, lf3, lf4, lf5, lf6, lf7, lf8, lf9, lf10, lf11, lf12⟩, gf0, gf1, gf2, gf3, gf4, gf5, gf6, gf7, gf8, gf9, gf10, gf11, gf12⟩ := HB.out.1
   clear h2 hr S2 E2 hL Y1
   unfold aggX
   go_wp2_with fail
   rw [HX2.out]
   exact endP (W := w2) (g := w.heap.size) (t := x) (ts := us) (w.heap.size + 1 ≤ ·) HB.out.1 rfl HL2.out (fun k hk => ⟨by omega, by omega⟩) HS2.out hg0 (Nat.le_refl _) HZ.out HB.out.2 (Ext.refl _) (fun h0 h1 h2 h3 h4 h5 h6 h7 h8 h9 h10 h11 h12 => by simp [results, Tryz.results27, go_sem, h0, h1, h2, h3, h4, h5, h6, h7, h8, h9, h10, h11, h12, aggX])
theorem read_all (w0 : World) (b : Nat) (hT : Tab w0) (n : Nat) : RdF w0 b n (O n) 84 ∧ RdF w0 b n (frm (O n)) 27 := by
 induction n with
 | zero => exact ⟨fun w ts d h hn => absurd h.2.2.2.1.pos (by omega), fun w ts d h hn => absurd h.2.2.2.1.pos (by omega)⟩
 | succ n ih =>
   have h1 : RdF w0 b (n + 1) (O (n + 1)) 84 := fun w ts d h hn => operand_any w0 b d n (frm (O n)) (O n) ts w ih.2 ih.1 (frm_sh (O_sh n)) hT h hn
   exact ⟨h1, formula_any w0 b (n + 1) (O (n + 1)) (O_sh (n + 1)) h1⟩

open Go.RowKit
set_option maxHeartbeats 1000000

theorem rdK_three (l : List UInt8) : rdK l = 0 ∨ rdK l = 1 ∨ rdK l = 2 := by
 unfold rdK; split
 · split <;> simp
 · simp
/-- Where a number ends, as the program asks it. -/
theorem numE_end (l : List UInt8) (h : ¬ run dgB l + 1 < l.length) : numE l = run dgB l := by
 unfold numE; rw [if_neg]; rintro ⟨_, h2⟩
 rw [List.drop_eq_nil_of_le (by omega)] at h2; simp [run] at h2
theorem numE_no (l : List UInt8) (c : UInt8) (h : l[run dgB l]? = some c) (hc : c ≠ 46) : numE l = run dgB l := by
 unfold numE; rw [if_neg]; rintro ⟨h1, _⟩; rw [h] at h1; exact hc (Option.some.inj h1)
theorem numE_nod (l : List UInt8) (c : UInt8) (h : l[run dgB l + 1]? = some c) (hc : dgB c = false) : numE l = run dgB l := by
 unfold numE; rw [if_neg]; rintro ⟨_, h2⟩
 have hj : run dgB l + 1 < l.length := (List.getElem?_eq_some_iff.mp h).1
 rw [List.drop_eq_getElem_cons hj, run_cons] at h2
 rw [List.getElem?_eq_getElem hj] at h; cases h
 rw [hc] at h2; simp at h2
theorem numE_dot (l : List UInt8) (c : UInt8) (h0 : l[run dgB l]? = some 46) (h : l[run dgB l + 1]? = some c) (hc : dgB c = true) : numE l = run dgB l + 1 + run dgB (l.drop (run dgB l + 1)) := by
 unfold numE; rw [if_pos]; refine ⟨h0, ?_⟩
 have hj : run dgB l + 1 < l.length := (List.getElem?_eq_some_iff.mp h).1
 rw [List.drop_eq_getElem_cons hj, run_cons]
 rw [List.getElem?_eq_getElem hj] at h; cases h
 rw [hc]; simp
theorem numR_0 {l : List UInt8} (h : rdK (l.take (numE l)) = 0) : numR l = .error 4 := by unfold numR; rw [if_pos h]
theorem numR_2 {l : List UInt8} (h : rdK (l.take (numE l)) = 2) : numR l = .error 2 := by unfold numR; rw [if_neg (by omega), if_pos h]
theorem numR_1 {l : List UInt8} (h : rdK (l.take (numE l)) = 1) : numR l = .ok (0, [], rdV (l.take (numE l)), 0, numE l) := by unfold numR; rw [if_neg (by omega), if_neg (by omega)]

theorem number_any (s : ByteArray) (k : Nat) (w : World) (hk : k ≤ s.size) (hs : s.size ≤ 300) :
   Calls Tryz.prog 78 #[.string s, .int .i64 (k : Int)] w fun e w' => NxR (numR (s.data.toList.drop k)) k e ∧ Ext w w' := by
 have hl := size_list s
 obtain ⟨l, hll⟩ : ∃ l, s.data.toList.drop k = l := ⟨_, rfl⟩
 have hlen : l.length = s.size - k := by rw [← hll]; simp [hl]
 have c1 := fun W => past_digit s k W hk hs
 have hr := runL_le dgB l
 have hat : ∀ i (h : k + i < s.size), l[i]? = some s[k + i] := by
   intro i h; rw [← hll, List.getElem?_drop, List.getElem?_eq_getElem (by rw [hl]; exact h)]; rfl
 rw [hll] at c1 ⊢
 have hn := numE_le l
 have hng := numE_ge l
 -- what is read, wherever it ends
 obtain ⟨m, hm⟩ : ∃ m, k + numE l = m := ⟨_, rfl⟩
 have m1 : k ≤ m := by omega
 have m2 : m ≤ s.size := by omega
 obtain ⟨q, hq⟩ : ∃ q, s.extract k m = q := ⟨_, rfl⟩
 have hqs : q.size ≤ 300 := by rw [← hq, ByteArray.size_extract]; omega
 have hqq : q.data.toList = l.take (numE l) := by rw [← hq, ← hm, sub_bs, hll]; rfl
 have c3 := fun W => parse_any q W (by unfold maxLen; omega)
 rw [hqq] at c3
 have H0 : Hid (rdK (l.take (numE l)) = 0 → numR l = .error 4) := numR_0
 have H2 : Hid (rdK (l.take (numE l)) = 2 → numR l = .error 2) := numR_2
 have H1 : Hid (rdK (l.take (numE l)) = 1 → numR l = .ok (0, [], rdV (l.take (numE l)), 0, numE l)) := numR_1
 have HM : Hid (k + numE l = m) := hm
 have HD : Hid (s.data.toList.drop k = l) := hll
 have HK : Hid (rdK (l.take (numE l)) = 0 ∨ rdK (l.take (numE l)) = 1 ∨ rdK (l.take (numE l)) = 2) := rdK_three _
 obtain ⟨K, hK⟩ : ∃ K, rdK (l.take (numE l)) = K := ⟨_, rfl⟩
 obtain ⟨V, hV⟩ : ∃ V, rdV (l.take (numE l)) = V := ⟨_, rfl⟩
 rw [hK] at c3 H0 H1 H2 HK
 rw [hV] at c3 H1
 obtain ⟨n1, hn1⟩ : ∃ n1, run dgB l = n1 := ⟨_, rfl⟩
 obtain ⟨e1, he1⟩ : ∃ e1, k + n1 = e1 := ⟨_, rfl⟩
 have n2 := numE_end l
 have n3 := numE_no l
 have n4 := numE_nod l
 have n5 := numE_dot l
 rw [hn1] at c1 n2 n3 n4 n5 hr hng
 rw [he1] at c1
 have e1a : k ≤ e1 := by omega
 have e1b : e1 ≤ s.size := by omega
 by_cases h1 : e1 + 1 < s.size
 · have hl1 : (e1 : Int) + 1 < (s.size : Int) := by omega
   have hx0 := hat n1 (by omega)
   have hx1 := hat (n1 + 1) (by omega)
   have g1 : e1 < s.size := by omega
   have ea : s[k + n1] = s[e1] := by congr 1
   have eb : s[k + (n1 + 1)] = s[e1 + 1] := by congr 1; omega
   rw [ea] at hx0
   rw [eb] at hx1
   have hb := byte_ne (c := s[e1]) 46 (by omega)
   by_cases h2 : s[e1] = 46
   · have tb : (((s[e1]).toNat : Int) == 46) = true := by rw [show (46 : Int) = ((46 : Nat) : Int) from rfl, hb, h2]; rfl
     have c2 := fun W => isDigit_any s[e1 + 1] W
     cases h3 : dgB s[e1 + 1]
     · rw [h3] at c2
       have hme : m = e1 := by have := n4 _ hx1 h3; omega
       subst hme
       clear ea eb hx0 hx1 hb h2 h3
       clear hr hat hn hng hm hqq hK hV hn1 he1 n2 n3 n4 n5 hlen hl hll hk
       go_enter Tryz.func78, Tryz.ntmps78
       rcases HK.out with k0 | k0 | k0
       · subst k0
         have R0 : Hid (numR l = .error 4) := H0.out rfl
         clear H0 H1 H2 HK
         go_wp2_with fail
         refine (c1 _).mono ?_
         rintro e w1 ⟨rfl, rfl⟩
         go_wp2_with fail
         refine (c2 _).mono ?_
         rintro e w2 ⟨rfl, rfl⟩
         go_wp2_with fail
         refine (c3 _).mono ?_
         rintro e w3 ⟨rfl, E3⟩
         have X3 := ((Ext.refl w).alloc _).trans E3
         go_wp2_with fail
         exact ⟨rfl, by rw [R0.out]; rfl, X3⟩
       · subst k0
         have R0 : Hid (numR l = .ok (0, [], V, 0, numE l)) := H1.out rfl
         clear H0 H1 H2 HK
         go_wp2_with fail
         refine (c1 _).mono ?_
         rintro e w1 ⟨rfl, rfl⟩
         go_wp2_with fail
         refine (c2 _).mono ?_
         rintro e w2 ⟨rfl, rfl⟩
         go_wp2_with fail
         refine (c3 _).mono ?_
         rintro e w3 ⟨rfl, E3⟩
         have B3 := blk5_top rfl E3
         have X3 := ((Ext.refl w).alloc _).trans E3
         have D3 := B3
         obtain ⟨_, ⟨b0, b1, b2, b3, b4⟩, f0, f1, f2, f3, f4⟩ := D3
         clear E3
         go_wp2_with fail
         refine fin5 _ (B3.set _ _ _ _ _) rfl (by with_reducible repeat (first | assumption | exact Ext.refl _ | apply Ext.alloc | apply Ext.drewN | (refine Ext.setCell ?_ (by simp) _))) (fun g0 g1 g2 g3 g4 => by simp [results, Tryz.results78, go_sem, g0, g1, g2, g3, g4]; rfl) (fun h => ⟨?_, h⟩)
         rw [R0.out]
         exact nx_fin (0, [], V, 0, numE l) k _ (by rw [HM.out])
       · subst k0
         have R0 : Hid (numR l = .error 2) := H2.out rfl
         clear H0 H1 H2 HK
         go_wp2_with fail
         refine (c1 _).mono ?_
         rintro e w1 ⟨rfl, rfl⟩
         go_wp2_with fail
         refine (c2 _).mono ?_
         rintro e w2 ⟨rfl, rfl⟩
         go_wp2_with fail
         refine (c3 _).mono ?_
         rintro e w3 ⟨rfl, E3⟩
         have X3 := ((Ext.refl w).alloc _).trans E3
         go_wp2_with fail
         exact ⟨rfl, by rw [R0.out]; rfl, X3⟩
     · rw [h3] at c2
       have c4 := fun W => past_digit s (e1 + 1) W (by omega) hs
       have hdd : s.data.toList.drop (e1 + 1) = l.drop (n1 + 1) := by rw [← hll, List.drop_drop]; congr 1; omega
       have hme : e1 + 1 + run dgB (s.data.toList.drop (e1 + 1)) = m := by rw [hdd]; have := n5 _ (by rw [hx0, h2]) hx1 h3; omega
       rw [hme] at c4
       clear ea eb hx0 hx1 hb h2 h3 hdd hme
       clear hr hat hn hng hm hqq hK hV hn1 he1 n2 n3 n4 n5 hlen hl hll hk
       go_enter Tryz.func78, Tryz.ntmps78
       rcases HK.out with k0 | k0 | k0
       · subst k0
         have R0 : Hid (numR l = .error 4) := H0.out rfl
         clear H0 H1 H2 HK
         go_wp2_with fail
         refine (c1 _).mono ?_
         rintro e w1 ⟨rfl, rfl⟩
         go_wp2_with fail
         refine (c2 _).mono ?_
         rintro e w2 ⟨rfl, rfl⟩
         go_wp2_with fail
         refine (c4 _).mono ?_
         rintro e w4 ⟨rfl, rfl⟩
         go_wp2_with fail
         refine (c3 _).mono ?_
         rintro e w3 ⟨rfl, E3⟩
         have X3 := ((Ext.refl w).alloc _).trans E3
         go_wp2_with fail
         exact ⟨rfl, by rw [R0.out]; rfl, X3⟩
       · subst k0
         have R0 : Hid (numR l = .ok (0, [], V, 0, numE l)) := H1.out rfl
         clear H0 H1 H2 HK
         go_wp2_with fail
         refine (c1 _).mono ?_
         rintro e w1 ⟨rfl, rfl⟩
         go_wp2_with fail
         refine (c2 _).mono ?_
         rintro e w2 ⟨rfl, rfl⟩
         go_wp2_with fail
         refine (c4 _).mono ?_
         rintro e w4 ⟨rfl, rfl⟩
         go_wp2_with fail
         refine (c3 _).mono ?_
         rintro e w3 ⟨rfl, E3⟩
         have B3 := blk5_top rfl E3
         have X3 := ((Ext.refl w).alloc _).trans E3
         have D3 := B3
         obtain ⟨_, ⟨b0, b1, b2, b3, b4⟩, f0, f1, f2, f3, f4⟩ := D3
         clear E3
         go_wp2_with fail
         refine fin5 _ (B3.set _ _ _ _ _) rfl (by with_reducible repeat (first | assumption | exact Ext.refl _ | apply Ext.alloc | apply Ext.drewN | (refine Ext.setCell ?_ (by simp) _))) (fun g0 g1 g2 g3 g4 => by simp [results, Tryz.results78, go_sem, g0, g1, g2, g3, g4]; rfl) (fun h => ⟨?_, h⟩)
         rw [R0.out]
         exact nx_fin (0, [], V, 0, numE l) k _ (by rw [HM.out])
       · subst k0
         have R0 : Hid (numR l = .error 2) := H2.out rfl
         clear H0 H1 H2 HK
         go_wp2_with fail
         refine (c1 _).mono ?_
         rintro e w1 ⟨rfl, rfl⟩
         go_wp2_with fail
         refine (c2 _).mono ?_
         rintro e w2 ⟨rfl, rfl⟩
         go_wp2_with fail
         refine (c4 _).mono ?_
         rintro e w4 ⟨rfl, rfl⟩
         go_wp2_with fail
         refine (c3 _).mono ?_
         rintro e w3 ⟨rfl, E3⟩
         have X3 := ((Ext.refl w).alloc _).trans E3
         go_wp2_with fail
         exact ⟨rfl, by rw [R0.out]; rfl, X3⟩
   · have tb : (((s[e1]).toNat : Int) == 46) = false := by rw [show (46 : Int) = ((46 : Nat) : Int) from rfl, hb]; simpa using h2
     have hme : m = e1 := by have := n3 _ hx0 h2; omega
     subst hme
     clear ea eb hx0 hx1 hb h2
     clear hr hat hn hng hm hqq hK hV hn1 he1 n2 n3 n4 n5 hlen hl hll hk
     go_enter Tryz.func78, Tryz.ntmps78
     rcases HK.out with k0 | k0 | k0
     · subst k0
       have R0 : Hid (numR l = .error 4) := H0.out rfl
       clear H0 H1 H2 HK
       go_wp2_with fail
       refine (c1 _).mono ?_
       rintro e w1 ⟨rfl, rfl⟩
       go_wp2_with fail
       refine (c3 _).mono ?_
       rintro e w3 ⟨rfl, E3⟩
       have X3 := ((Ext.refl w).alloc _).trans E3
       go_wp2_with fail
       exact ⟨rfl, by rw [R0.out]; rfl, X3⟩
     · subst k0
       have R0 : Hid (numR l = .ok (0, [], V, 0, numE l)) := H1.out rfl
       clear H0 H1 H2 HK
       go_wp2_with fail
       refine (c1 _).mono ?_
       rintro e w1 ⟨rfl, rfl⟩
       go_wp2_with fail
       refine (c3 _).mono ?_
       rintro e w3 ⟨rfl, E3⟩
       have B3 := blk5_top rfl E3
       have X3 := ((Ext.refl w).alloc _).trans E3
       have D3 := B3
       obtain ⟨_, ⟨b0, b1, b2, b3, b4⟩, f0, f1, f2, f3, f4⟩ := D3
       clear E3
       go_wp2_with fail
       refine fin5 _ (B3.set _ _ _ _ _) rfl (by with_reducible repeat (first | assumption | exact Ext.refl _ | apply Ext.alloc | apply Ext.drewN | (refine Ext.setCell ?_ (by simp) _))) (fun g0 g1 g2 g3 g4 => by simp [results, Tryz.results78, go_sem, g0, g1, g2, g3, g4]; rfl) (fun h => ⟨?_, h⟩)
       rw [R0.out]
       exact nx_fin (0, [], V, 0, numE l) k _ (by rw [HM.out])
     · subst k0
       have R0 : Hid (numR l = .error 2) := H2.out rfl
       clear H0 H1 H2 HK
       go_wp2_with fail
       refine (c1 _).mono ?_
       rintro e w1 ⟨rfl, rfl⟩
       go_wp2_with fail
       refine (c3 _).mono ?_
       rintro e w3 ⟨rfl, E3⟩
       have X3 := ((Ext.refl w).alloc _).trans E3
       go_wp2_with fail
       exact ⟨rfl, by rw [R0.out]; rfl, X3⟩
 · have hl1 : ¬ (e1 : Int) + 1 < (s.size : Int) := by omega
   have hme : m = e1 := by have := n2 (by omega); omega
   subst hme
   clear hr hat hn hng hm hqq hK hV hn1 he1 n2 n3 n4 n5 hlen hl hll hk
   go_enter Tryz.func78, Tryz.ntmps78
   rcases HK.out with k0 | k0 | k0
   · subst k0
     have R0 : Hid (numR l = .error 4) := H0.out rfl
     clear H0 H1 H2 HK
     go_wp2_with fail
     refine (c1 _).mono ?_
     rintro e w1 ⟨rfl, rfl⟩
     go_wp2_with fail
     refine (c3 _).mono ?_
     rintro e w3 ⟨rfl, E3⟩
     have X3 := ((Ext.refl w).alloc _).trans E3
     go_wp2_with fail
     exact ⟨rfl, by rw [R0.out]; rfl, X3⟩
   · subst k0
     have R0 : Hid (numR l = .ok (0, [], V, 0, numE l)) := H1.out rfl
     clear H0 H1 H2 HK
     go_wp2_with fail
     refine (c1 _).mono ?_
     rintro e w1 ⟨rfl, rfl⟩
     go_wp2_with fail
     refine (c3 _).mono ?_
     rintro e w3 ⟨rfl, E3⟩
     have B3 := blk5_top rfl E3
     have X3 := ((Ext.refl w).alloc _).trans E3
     have D3 := B3
     obtain ⟨_, ⟨b0, b1, b2, b3, b4⟩, f0, f1, f2, f3, f4⟩ := D3
     clear E3
     go_wp2_with fail
     refine fin5 _ (B3.set _ _ _ _ _) rfl (by with_reducible repeat (first | assumption | exact Ext.refl _ | apply Ext.alloc | apply Ext.drewN | (refine Ext.setCell ?_ (by simp) _))) (fun g0 g1 g2 g3 g4 => by simp [results, Tryz.results78, go_sem, g0, g1, g2, g3, g4]; rfl) (fun h => ⟨?_, h⟩)
     rw [R0.out]
     exact nx_fin (0, [], V, 0, numE l) k _ (by rw [HM.out])
   · subst k0
     have R0 : Hid (numR l = .error 2) := H2.out rfl
     clear H0 H1 H2 HK
     go_wp2_with fail
     refine (c1 _).mono ?_
     rintro e w1 ⟨rfl, rfl⟩
     go_wp2_with fail
     refine (c3 _).mono ?_
     rintro e w3 ⟨rfl, E3⟩
     have X3 := ((Ext.refl w).alloc _).trans E3
     go_wp2_with fail
     exact ⟨rfl, by rw [R0.out]; rfl, X3⟩

open Go.RowKit
set_option maxHeartbeats 1000000

theorem next_any (s : ByteArray) (k : Nat) (w : World) (hk : k < s.size) (hs : s.size ≤ 300) (hT : Tab7 w) :
   Calls Tryz.prog 56 #[.string s, .int .i64 (k : Int)] w fun e w' => NxR (nxt (s.data.toList.drop k)) k e ∧ Ext w w' := by
 have hl := size_list s
 obtain ⟨l, hll⟩ : ∃ l, s.data.toList.drop k = l := ⟨_, rfl⟩
 have hc : l = s[k] :: s.data.toList.drop (k + 1) := by rw [← hll, List.drop_eq_getElem_cons (by rw [hl]; exact hk)]; rfl
 have hn : nxt l = if dgB s[k] then numR l else if s[k] = 34 then txtR l else if ltB s[k] then wdR l else if s[k] = 35 then errR l else sgR l := by
   rw [hc]; exact nxt_cons _ _
 have d1 := fun W => isDigit_any s[k] W
 have d2 := fun W => begins_any s[k] W
 have b1 := byte_ne (c := s[k]) 34 (by omega)
 have b2 := byte_ne (c := s[k]) 35 (by omega)
 have HT : Hid (Tab7 w) := hT
 have c1 := fun W => number_any s k W (Nat.le_of_lt hk) hs
 have c2 := fun W => text_any s k W hk hs
 have c3 := fun W => lword_any s k W (Nat.le_of_lt hk) hs
 have c4 := fun W h => failure_any s k W (Nat.le_of_lt hk) hs h
 have c5 := fun W h => sign_any s k W (Nat.le_of_lt hk) hs h
 rw [hll] at c1 c2 c3 c4 c5 ⊢
 clear hl hll hc hT
 cases h1 : dgB s[k]
 case true =>
   rw [h1] at d1 hn
   simp only [if_true] at hn
   clear h1 b1 b2 d2
   have HN : Hid (nxt l = numR l) := hn
   clear hn
   cases hr : numR l with
   | ok x =>
     have HR : Hid (numR l = .ok x) := hr
     obtain ⟨x0, x1, x2, x3, x4⟩ := x
     have C : ∀ W, Calls Tryz.prog 78 #[.string s, .int .i64 (k : Int)] W fun e w' => e = .returned (.tuple #[.agg #[.int .i64 x0, .int .i64 0, .string (bs x1), .int .i64 x2, .int .i64 x3], .int .i64 ((k + x4 : Nat) : Int)]) ∧ Ext W w' := by rw [hr] at c1; exact c1
     clear hr c1 c2 c3 c4 c5
     obtain ⟨q1, hq1⟩ : ∃ q1, bs x1 = q1 := ⟨_, rfl⟩
     obtain ⟨m, hm⟩ : ∃ m, k + x4 = m := ⟨_, rfl⟩
     rw [hq1, hm] at C
     have HQ : Hid (bs x1 = q1 ∧ k + x4 = m) := ⟨hq1, hm⟩
     clear hq1 hm
     go_enter Tryz.func56, Tryz.ntmps56
     go_wp2_with fail
     refine (d1 _).mono ?_
     rintro e w1 ⟨rfl, rfl⟩
     go_wp2_with fail
     refine (C _).mono ?_
     rintro e w3 ⟨rfl, E3⟩
     have B3 := blk5_top rfl E3
     have X3 := ((Ext.refl w).alloc _).trans E3
     have D3 := B3
     obtain ⟨_, ⟨b0, b1, b2, b3, b4⟩, f0, f1, f2, f3, f4⟩ := D3
     clear E3
     go_wp2_with fail
     refine fin5 _ (B3.set _ _ _ _ _) rfl (by with_reducible repeat (first | assumption | exact Ext.refl _ | apply Ext.alloc | apply Ext.drewN | (refine Ext.setCell ?_ (by simp) _))) (fun g0 g1 g2 g3 g4 => by simp [results, Tryz.results56, go_sem, g0, g1, g2, g3, g4]; rfl) (fun h => ⟨?_, h⟩)
     rw [HN.out, HR.out, ← HQ.out.1]
     exact nx_fin (x0, x1, x2, x3, x4) k _ (by rw [← HQ.out.2])
   | error c =>
     have HR : Hid (numR l = .error c) := hr
     have C : ∀ W, Calls Tryz.prog 78 #[.string s, .int .i64 (k : Int)] W fun e w' => e = .panicked [{ v := .iface 67 (.agg #[.int .i64 (k : Int), .int .i64 c]), recovered := false }] ∧ Ext W w' := by rw [hr] at c1; exact c1
     clear hr c1 c2 c3 c4 c5
     go_enter Tryz.func56, Tryz.ntmps56
     go_wp2_with fail
     refine (d1 _).mono ?_
     rintro e w1 ⟨rfl, rfl⟩
     go_wp2_with fail
     refine (C _).mono ?_
     rintro e w3 ⟨rfl, E3⟩
     have X3 := ((Ext.refl w).alloc _).trans E3
     clear E3
     exact ⟨rfl, by rw [HN.out, HR.out]; rfl, X3⟩
 rw [h1] at d1 hn
 simp only [Bool.false_eq_true, if_false] at hn
 by_cases h2 : s[k] = 34
 · rw [if_pos h2] at hn
   have t1 : (((s[k]).toNat : Int) == 34) = true := by rw [show (34 : Int) = ((34 : Nat) : Int) from rfl, b1, h2]; rfl
   clear h1 h2 b1 b2 d2
   have HN : Hid (nxt l = txtR l) := hn
   clear hn
   cases hr : txtR l with
   | ok x =>
     have HR : Hid (txtR l = .ok x) := hr
     obtain ⟨x0, x1, x2, x3, x4⟩ := x
     have C : ∀ W, Calls Tryz.prog 79 #[.string s, .int .i64 (k : Int)] W fun e w' => e = .returned (.tuple #[.agg #[.int .i64 x0, .int .i64 0, .string (bs x1), .int .i64 x2, .int .i64 x3], .int .i64 ((k + x4 : Nat) : Int)]) ∧ Ext W w' := by rw [hr] at c2; exact c2
     clear hr c1 c2 c3 c4 c5
     obtain ⟨q1, hq1⟩ : ∃ q1, bs x1 = q1 := ⟨_, rfl⟩
     obtain ⟨m, hm⟩ : ∃ m, k + x4 = m := ⟨_, rfl⟩
     rw [hq1, hm] at C
     have HQ : Hid (bs x1 = q1 ∧ k + x4 = m) := ⟨hq1, hm⟩
     clear hq1 hm
     go_enter Tryz.func56, Tryz.ntmps56
     go_wp2_with fail
     refine (d1 _).mono ?_
     rintro e w1 ⟨rfl, rfl⟩
     go_wp2_with fail
     refine (C _).mono ?_
     rintro e w3 ⟨rfl, E3⟩
     have B3 := blk5_top rfl E3
     have X3 := ((Ext.refl w).alloc _).trans E3
     have D3 := B3
     obtain ⟨_, ⟨b0, b1, b2, b3, b4⟩, f0, f1, f2, f3, f4⟩ := D3
     clear E3
     go_wp2_with fail
     refine fin5 _ (B3.set _ _ _ _ _) rfl (by with_reducible repeat (first | assumption | exact Ext.refl _ | apply Ext.alloc | apply Ext.drewN | (refine Ext.setCell ?_ (by simp) _))) (fun g0 g1 g2 g3 g4 => by simp [results, Tryz.results56, go_sem, g0, g1, g2, g3, g4]; rfl) (fun h => ⟨?_, h⟩)
     rw [HN.out, HR.out, ← HQ.out.1]
     exact nx_fin (x0, x1, x2, x3, x4) k _ (by rw [← HQ.out.2])
   | error c =>
     have HR : Hid (txtR l = .error c) := hr
     have C : ∀ W, Calls Tryz.prog 79 #[.string s, .int .i64 (k : Int)] W fun e w' => e = .panicked [{ v := .iface 67 (.agg #[.int .i64 (k : Int), .int .i64 c]), recovered := false }] ∧ Ext W w' := by rw [hr] at c2; exact c2
     clear hr c1 c2 c3 c4 c5
     go_enter Tryz.func56, Tryz.ntmps56
     go_wp2_with fail
     refine (d1 _).mono ?_
     rintro e w1 ⟨rfl, rfl⟩
     go_wp2_with fail
     refine (C _).mono ?_
     rintro e w3 ⟨rfl, E3⟩
     have X3 := ((Ext.refl w).alloc _).trans E3
     clear E3
     exact ⟨rfl, by rw [HN.out, HR.out]; rfl, X3⟩
 rw [if_neg h2] at hn
 have t1 : (((s[k]).toNat : Int) == 34) = false := by rw [show (34 : Int) = ((34 : Nat) : Int) from rfl, b1]; simpa using h2
 cases h3 : ltB s[k]
 case true =>
   rw [h3] at d2 hn
   simp only [if_true] at hn
   clear h1 h2 h3 b1 b2
   have HN : Hid (nxt l = wdR l) := hn
   clear hn
   cases hr : wdR l with
   | ok x =>
     have HR : Hid (wdR l = .ok x) := hr
     obtain ⟨x0, x1, x2, x3, x4⟩ := x
     have C : ∀ W, Calls Tryz.prog 81 #[.string s, .int .i64 (k : Int)] W fun e w' => e = .returned (.tuple #[.agg #[.int .i64 x0, .int .i64 0, .string (bs x1), .int .i64 x2, .int .i64 x3], .int .i64 ((k + x4 : Nat) : Int)]) ∧ Ext W w' := by rw [hr] at c3; exact c3
     clear hr c1 c2 c3 c4 c5
     obtain ⟨q1, hq1⟩ : ∃ q1, bs x1 = q1 := ⟨_, rfl⟩
     obtain ⟨m, hm⟩ : ∃ m, k + x4 = m := ⟨_, rfl⟩
     rw [hq1, hm] at C
     have HQ : Hid (bs x1 = q1 ∧ k + x4 = m) := ⟨hq1, hm⟩
     clear hq1 hm
     go_enter Tryz.func56, Tryz.ntmps56
     go_wp2_with fail
     refine (d1 _).mono ?_
     rintro e w1 ⟨rfl, rfl⟩
     go_wp2_with fail
     refine (d2 _).mono ?_
     rintro e w1 ⟨rfl, rfl⟩
     go_wp2_with fail
     refine (C _).mono ?_
     rintro e w3 ⟨rfl, E3⟩
     have B3 := blk5_top rfl E3
     have X3 := ((Ext.refl w).alloc _).trans E3
     have D3 := B3
     obtain ⟨_, ⟨b0, b1, b2, b3, b4⟩, f0, f1, f2, f3, f4⟩ := D3
     clear E3
     go_wp2_with fail
     refine fin5 _ (B3.set _ _ _ _ _) rfl (by with_reducible repeat (first | assumption | exact Ext.refl _ | apply Ext.alloc | apply Ext.drewN | (refine Ext.setCell ?_ (by simp) _))) (fun g0 g1 g2 g3 g4 => by simp [results, Tryz.results56, go_sem, g0, g1, g2, g3, g4]; rfl) (fun h => ⟨?_, h⟩)
     rw [HN.out, HR.out, ← HQ.out.1]
     exact nx_fin (x0, x1, x2, x3, x4) k _ (by rw [← HQ.out.2])
   | error c =>
     have HR : Hid (wdR l = .error c) := hr
     have C : ∀ W, Calls Tryz.prog 81 #[.string s, .int .i64 (k : Int)] W fun e w' => e = .panicked [{ v := .iface 67 (.agg #[.int .i64 (k : Int), .int .i64 c]), recovered := false }] ∧ Ext W w' := by rw [hr] at c3; exact c3
     clear hr c1 c2 c3 c4 c5
     go_enter Tryz.func56, Tryz.ntmps56
     go_wp2_with fail
     refine (d1 _).mono ?_
     rintro e w1 ⟨rfl, rfl⟩
     go_wp2_with fail
     refine (d2 _).mono ?_
     rintro e w1 ⟨rfl, rfl⟩
     go_wp2_with fail
     refine (C _).mono ?_
     rintro e w3 ⟨rfl, E3⟩
     have X3 := ((Ext.refl w).alloc _).trans E3
     clear E3
     exact ⟨rfl, by rw [HN.out, HR.out]; rfl, X3⟩
 rw [h3] at d2 hn
 simp only [Bool.false_eq_true, if_false] at hn
 by_cases h4 : s[k] = 35
 · rw [if_pos h4] at hn
   have t2 : (((s[k]).toNat : Int) == 35) = true := by rw [show (35 : Int) = ((35 : Nat) : Int) from rfl, b2, h4]; rfl
   clear h1 h2 h3 h4 b1 b2
   have HN : Hid (nxt l = errR l) := hn
   clear hn
   cases hr : errR l with
   | ok x =>
     have HR : Hid (errR l = .ok x) := hr
     obtain ⟨x0, x1, x2, x3, x4⟩ := x
     have C : ∀ W, Nm W → Calls Tryz.prog 82 #[.string s, .int .i64 (k : Int)] W fun e w' => e = .returned (.tuple #[.agg #[.int .i64 x0, .int .i64 0, .string (bs x1), .int .i64 x2, .int .i64 x3], .int .i64 ((k + x4 : Nat) : Int)]) ∧ Ext W w' := by rw [hr] at c4; exact c4
     clear hr c1 c2 c3 c4 c5
     obtain ⟨q1, hq1⟩ : ∃ q1, bs x1 = q1 := ⟨_, rfl⟩
     obtain ⟨m, hm⟩ : ∃ m, k + x4 = m := ⟨_, rfl⟩
     rw [hq1, hm] at C
     have HQ : Hid (bs x1 = q1 ∧ k + x4 = m) := ⟨hq1, hm⟩
     clear hq1 hm
     go_enter Tryz.func56, Tryz.ntmps56
     go_wp2_with fail
     refine (d1 _).mono ?_
     rintro e w1 ⟨rfl, rfl⟩
     go_wp2_with fail
     refine (d2 _).mono ?_
     rintro e w1 ⟨rfl, rfl⟩
     go_wp2_with fail
     refine (C _ (HT.out.1.ext ((Ext.refl _).alloc _))).mono ?_
     rintro e w3 ⟨rfl, E3⟩
     have B3 := blk5_top rfl E3
     have X3 := ((Ext.refl w).alloc _).trans E3
     have D3 := B3
     obtain ⟨_, ⟨b0, b1, b2, b3, b4⟩, f0, f1, f2, f3, f4⟩ := D3
     clear E3
     go_wp2_with fail
     refine fin5 _ (B3.set _ _ _ _ _) rfl (by with_reducible repeat (first | assumption | exact Ext.refl _ | apply Ext.alloc | apply Ext.drewN | (refine Ext.setCell ?_ (by simp) _))) (fun g0 g1 g2 g3 g4 => by simp [results, Tryz.results56, go_sem, g0, g1, g2, g3, g4]; rfl) (fun h => ⟨?_, h⟩)
     rw [HN.out, HR.out, ← HQ.out.1]
     exact nx_fin (x0, x1, x2, x3, x4) k _ (by rw [← HQ.out.2])
   | error c =>
     have HR : Hid (errR l = .error c) := hr
     have C : ∀ W, Nm W → Calls Tryz.prog 82 #[.string s, .int .i64 (k : Int)] W fun e w' => e = .panicked [{ v := .iface 67 (.agg #[.int .i64 (k : Int), .int .i64 c]), recovered := false }] ∧ Ext W w' := by rw [hr] at c4; exact c4
     clear hr c1 c2 c3 c4 c5
     go_enter Tryz.func56, Tryz.ntmps56
     go_wp2_with fail
     refine (d1 _).mono ?_
     rintro e w1 ⟨rfl, rfl⟩
     go_wp2_with fail
     refine (d2 _).mono ?_
     rintro e w1 ⟨rfl, rfl⟩
     go_wp2_with fail
     refine (C _ (HT.out.1.ext ((Ext.refl _).alloc _))).mono ?_
     rintro e w3 ⟨rfl, E3⟩
     have X3 := ((Ext.refl w).alloc _).trans E3
     clear E3
     exact ⟨rfl, by rw [HN.out, HR.out]; rfl, X3⟩
 rw [if_neg h4] at hn
 have t2 : (((s[k]).toNat : Int) == 35) = false := by rw [show (35 : Int) = ((35 : Nat) : Int) from rfl, b2]; simpa using h4
 clear h1 h2 h3 h4 b1 b2
 have HN : Hid (nxt l = sgR l) := hn
 clear hn
 cases hr : sgR l with
 | ok x =>
   have HR : Hid (sgR l = .ok x) := hr
   obtain ⟨x0, x1, x2, x3, x4⟩ := x
   have C : ∀ W, Sg W → Calls Tryz.prog 83 #[.string s, .int .i64 (k : Int)] W fun e w' => e = .returned (.tuple #[.agg #[.int .i64 x0, .int .i64 0, .string (bs x1), .int .i64 x2, .int .i64 x3], .int .i64 ((k + x4 : Nat) : Int)]) ∧ Ext W w' := by rw [hr] at c5; exact c5
   clear hr c1 c2 c3 c4 c5
   obtain ⟨q1, hq1⟩ : ∃ q1, bs x1 = q1 := ⟨_, rfl⟩
   obtain ⟨m, hm⟩ : ∃ m, k + x4 = m := ⟨_, rfl⟩
   rw [hq1, hm] at C
   have HQ : Hid (bs x1 = q1 ∧ k + x4 = m) := ⟨hq1, hm⟩
   clear hq1 hm
   go_enter Tryz.func56, Tryz.ntmps56
   go_wp2_with fail
   refine (d1 _).mono ?_
   rintro e w1 ⟨rfl, rfl⟩
   go_wp2_with fail
   refine (d2 _).mono ?_
   rintro e w1 ⟨rfl, rfl⟩
   go_wp2_with fail
   refine (C _ (HT.out.2.ext ((Ext.refl _).alloc _))).mono ?_
   rintro e w3 ⟨rfl, E3⟩
   have B3 := blk5_top rfl E3
   have X3 := ((Ext.refl w).alloc _).trans E3
   have D3 := B3
   obtain ⟨_, ⟨b0, b1, b2, b3, b4⟩, f0, f1, f2, f3, f4⟩ := D3
   clear E3
   go_wp2_with fail
   refine fin5 _ (B3.set _ _ _ _ _) rfl (by with_reducible repeat (first | assumption | exact Ext.refl _ | apply Ext.alloc | apply Ext.drewN | (refine Ext.setCell ?_ (by simp) _))) (fun g0 g1 g2 g3 g4 => by simp [results, Tryz.results56, go_sem, g0, g1, g2, g3, g4]; rfl) (fun h => ⟨?_, h⟩)
   rw [HN.out, HR.out, ← HQ.out.1]
   exact nx_fin (x0, x1, x2, x3, x4) k _ (by rw [← HQ.out.2])
 | error c =>
   have HR : Hid (sgR l = .error c) := hr
   have C : ∀ W, Sg W → Calls Tryz.prog 83 #[.string s, .int .i64 (k : Int)] W fun e w' => e = .panicked [{ v := .iface 67 (.agg #[.int .i64 (k : Int), .int .i64 c]), recovered := false }] ∧ Ext W w' := by rw [hr] at c5; exact c5
   clear hr c1 c2 c3 c4 c5
   go_enter Tryz.func56, Tryz.ntmps56
   go_wp2_with fail
   refine (d1 _).mono ?_
   rintro e w1 ⟨rfl, rfl⟩
   go_wp2_with fail
   refine (d2 _).mono ?_
   rintro e w1 ⟨rfl, rfl⟩
   go_wp2_with fail
   refine (C _ (HT.out.2.ext ((Ext.refl _).alloc _))).mono ?_
   rintro e w3 ⟨rfl, E3⟩
   have X3 := ((Ext.refl w).alloc _).trans E3
   clear E3
   exact ⟨rfl, by rw [HN.out, HR.out]; rfl, X3⟩

open Go.RowKit
set_option maxHeartbeats 1000000

theorem catch_idle (p q : Addr) (w : World) :
   CallsD Tryz.prog 53 #[.pointer (some p), .pointer (some q)] .returning w fun e u' w' => e = .returned (.tuple #[]) ∧ u' = .returning ∧ w' = w := by
 refine callsD_of_wpS Tryz.func53 rfl fun c₀ cs hu => ?_
 apply wpS_seq
 apply wpS_region
 simp [wpOpsS, go_sem, recoverD, hu, Tryz.ntmps53, Exit.thenS]
 refine wpS_of_wp ?_
 simp only [Array.replicate_succ, Array.replicate_zero, List.push_toArray, List.append_toArray, List.nil_append, List.cons_append, List.setIfInBounds_toArray, List.set_cons_zero, List.set_cons_succ]
 go_wp2
 cases c₀
 simp_all [bodyPostS, results, Tryz.results53]
theorem assert_fault (x y : Int) (W : World) : (Instr.typeAssert (.iface 67 (.agg #[.int .i64 x, .int .i64 y])) 20 67 false).run Tryz.prog W = .ok (.agg #[.int .i64 x, .int .i64 y]) W := by kernel_rfl
/-- A panic that tells a fault: no words, and it. -/
theorem catch_fault (b f : Nat) (x y : Int) (v o0 o1 : Value) (w0 w : World) (hE : Ext w0 w) (hb : w0.heap.size ≤ b) (hf : w0.heap.size ≤ f) (hbf : b ≠ f) (c0 : w.cell? ⟨b, 0, none⟩ = some v) (z0 : w.frozen? ⟨b, 0, none⟩ = false) (c1 : w.cell? ⟨f, 0, none⟩ = some o0) (z1 : w.frozen? ⟨f, 0, none⟩ = false) (c2 : w.cell? ⟨f, 1, none⟩ = some o1) (z2 : w.frozen? ⟨f, 1, none⟩ = false) :
   CallsD Tryz.prog 53 #[.pointer (some ⟨b, 0, none⟩), .pointer (some ⟨f, 0, none⟩)] (.panicking [{ v := .iface 67 (.agg #[.int .i64 x, .int .i64 y]), recovered := false }]) w fun e u' w' => e = .returned (.tuple #[]) ∧ u' = .panicking [{ v := .iface 67 (.agg #[.int .i64 x, .int .i64 y]), recovered := true }] ∧ Ext w0 w' ∧ w'.cell? ⟨b, 0, none⟩ = some (.slice none 0 0) ∧ w'.cell? ⟨f, 0, none⟩ = some (.int .i64 x) ∧ w'.cell? ⟨f, 1, none⟩ = some (.int .i64 y) := by
 have HE : Hid (Ext w0 w) := hE
 have HB : Hid (w0.heap.size ≤ b ∧ w0.heap.size ≤ f) := ⟨hb, hf⟩
 have hfb : ¬ f = b := fun e => hbf e.symm
 clear hE hb hf
 have hta := assert_fault x y
 refine callsD_of_wpS Tryz.func53 rfl fun c₀ cs hu => ?_
 apply wpS_seq
 apply wpS_region
 simp [wpOpsS, go_sem, recoverD, hu, Tryz.ntmps53, Exit.thenS]
 refine wpS_of_wp ?_
 simp only [Array.replicate_succ, Array.replicate_zero, List.push_toArray, List.append_toArray, List.nil_append, List.cons_append, List.setIfInBounds_toArray, List.set_cons_zero, List.set_cons_succ]
 go_wp2
 go_region_with fail
 all_goals
   have e0 := World.cell?_setCell_same w ⟨b, 0, none⟩ (.slice none 0 0) (by rw [c0])
   have j1 : (w.setCell ⟨b, 0, none⟩ (.slice none 0 0)).cell? ⟨f, 0, none⟩ = some o0 := by rw [World.cell?_setCell_far _ _ _ _ hbf]; exact c1
   have e1 := World.cell?_setCell_same _ ⟨f, 0, none⟩ (.int .i64 x) (by rw [j1])
   have j2 : ((w.setCell ⟨b, 0, none⟩ (.slice none 0 0)).setCell ⟨f, 0, none⟩ (.int .i64 x)).cell? ⟨f, 1, none⟩ = some o1 := by
     rw [World.cell?_setCell_other _ _ _ _ (by simp), World.cell?_setCell_far _ _ _ _ hbf]; exact c2
   have e2 := World.cell?_setCell_same _ ⟨f, 1, none⟩ (.int .i64 y) (by rw [j2])
   refine ⟨rfl, _, rfl, .tuple #[], results_none rfl _ _ _, rfl, rfl, (((HE.out.setCell HB.out.1 _).setCell HB.out.2 _).setCell HB.out.2 _).drew, ?_, ?_, e2⟩
   · show (((w.setCell ⟨b, 0, none⟩ (.slice none 0 0)).setCell ⟨f, 0, none⟩ (.int .i64 x)).setCell ⟨f, 1, none⟩ (.int .i64 y)).cell? ⟨b, 0, none⟩ = _
     rw [World.cell?_setCell_far _ _ _ _ hfb, World.cell?_setCell_far _ _ _ _ hfb]; exact e0
   · show (((w.setCell ⟨b, 0, none⟩ (.slice none 0 0)).setCell ⟨f, 0, none⟩ (.int .i64 x)).setCell ⟨f, 1, none⟩ (.int .i64 y)).cell? ⟨f, 0, none⟩ = _
     rw [World.cell?_setCell_other _ _ _ _ (by simp)]; exact e1

/-- What read answers. -/
def ReadQ (w : World) (l : List UInt8) (e : Ending) (w' : World) : Prop :=
 match W 0 l with
 | .ok ts => ∃ v, e = .returned (.tuple #[v, .agg #[.int .i64 0, .int .i64 0]]) ∧ RdT w' v ts ∧ Ext w w'
 | .error x => e = .returned (.tuple #[.slice none 0 0, .agg #[.int .i64 (x.1 : Int), .int .i64 x.2]]) ∧ Ext w w'
/-- The world while words are read: those that were, the two results. -/
def St (w : World) (W : World) (v : Value) (acc : List Tk) : Prop := OwT W (w.heap.size + 2) v acc ∧ Ext w W ∧ w.heap.size + 2 ≤ W.heap.size ∧
 (W.cell? ⟨w.heap.size, 0, none⟩ = some v ∧ W.frozen? ⟨w.heap.size, 0, none⟩ = false) ∧
 (W.cell? ⟨w.heap.size + 1, 0, none⟩ = some (.int .i64 0) ∧ W.frozen? ⟨w.heap.size + 1, 0, none⟩ = false) ∧ W.cell? ⟨w.heap.size + 1, 1, none⟩ = some (.int .i64 0) ∧ W.frozen? ⟨w.heap.size + 1, 1, none⟩ = false
theorem St.ext {w W W' : World} {v : Value} {acc : List Tk} (h : St w W v acc) (e : Ext W W') : St w W' v acc := by
 obtain ⟨h1, h2, h3, ⟨a0, z0⟩, ⟨a1, z1⟩, a2, z2⟩ := h
 have k := e.cell
 exact ⟨h1.ext e, h2.trans e, Nat.le_trans h3 e.sz, ⟨(k.1 _ 0 (by omega)).trans a0, (k.2 _ 0 (by omega)).trans z0⟩, ⟨(k.1 _ 0 (by omega)).trans a1, (k.2 _ 0 (by omega)).trans z1⟩, (k.1 _ 1 (by omega)).trans a2, (k.2 _ 1 (by omega)).trans z2⟩
/-- A word more. -/
theorem St.more {w W W' : World} {v v' : Value} {acc : List Tk} {t : Tk} (h : St w W v acc) (k1 : OwT W' (w.heap.size + 2) v' (acc ++ [t])) (k2 : W.grownBy W' v.ownBlock) : St w (W'.setCell ⟨w.heap.size, 0, none⟩ v') v' (acc ++ [t]) := by
 obtain ⟨h1, h2, h3, ⟨a0, z0⟩, ⟨a1, z1⟩, a2, z2⟩ := h
 have c0 := grown_cell k2 (b := w.heap.size) (by omega) (h1.far (by omega)) 0
 have c1 := grown_cell k2 (b := w.heap.size + 1) (by omega) (h1.far (by omega)) 0
 have c2 := grown_cell k2 (b := w.heap.size + 1) (by omega) (h1.far (by omega)) 1
 have hs := k2.size
 refine ⟨k1.set (by simp) _, (grown_ext k2 h1 h2 (by omega)).setCell (Nat.le_refl _) _, by simp; omega, ⟨World.cell?_setCell_same _ _ _ (by rw [c0.1, a0]), ?_⟩, ⟨?_, ?_⟩, ?_, ?_⟩
 · rw [World.frozen?_setCell, c0.2, z0]
 · rw [World.cell?_setCell_far _ _ _ _ (by simp), c1.1, a1]
 · rw [World.frozen?_setCell, c1.2, z1]
 · rw [World.cell?_setCell_far _ _ _ _ (by simp), c2.1, a2]
 · rw [World.frozen?_setCell, c2.2, z2]

theorem blank_stop (l : List UInt8) (j : Nat) (h : run blB l = j) : ∀ h : j < l.length, ¬ l[j] = 32 := by
 intro h1 h2
 have := run_stop blB l l[j] (by rw [h]; exact List.getElem?_eq_getElem h1)
 rw [h2] at this; exact absurd this (by decide)
theorem map_nil {e : Type} (r : Except e (List Tk)) : r = r.map (fun ts => [] ++ ts) := by cases r <;> rfl
theorem W_at (l : List UInt8) (j : Nat) (h : j < l.length) (hc : ¬ l[j] = 32) : W j (l.drop j) = match nxt (l.drop j) with
   | .error e => .error (j, e)
   | .ok x => (W (j + x.2.2.2.2) (l.drop (j + x.2.2.2.2))).map (fun ts => tkOf x j :: ts) := by
 have e := W_cons j l[j] (l.drop (j + 1)) hc
 rw [← List.drop_eq_getElem_cons h] at e
 rw [e]
 cases nxt (l.drop j) with
 | error c => rfl
 | ok x => simp only [List.drop_drop]
theorem blank_next (l : List UInt8) (m j : Nat) (h : m + run blB (l.drop m) = j) : ∀ h : j < l.length, ¬ l[j] = 32 := by
 intro h1
 obtain ⟨n, rfl⟩ : ∃ n, j = m + n := ⟨j - m, by omega⟩
 have h2 := blank_stop (l.drop m) n (by omega) (by simp; omega)
 rwa [List.getElem_drop] at h2
theorem new_tk {W : World} {b : Nat} {t : Tk} {q : ByteArray} {T : TypeId} (hb : b = W.heap.size) (hq : bs t.2.2.1 = q) :
   ∀ j u, (flatT [t])[j]? = some u → (W.alloc (.cells #[.int .i64 t.1, .int .i64 t.2.1, .string q, .int .i64 t.2.2.2.1, .int .i64 t.2.2.2.2] T)).cell? ((⟨b, 0, none⟩ : Addr).add j) = some u := by
 subst hb hq
 intro j u hu
 rw [Addr.add_lit, cell_of_row _ _ _ _ _ (0, 0) (new_top W _), Nat.zero_add]
 rw [← hu, ← Array.getElem?_toList]; rfl
theorem read_any (s : ByteArray) (w : World) (hs : s.size ≤ 300) (hT : Tab7 w) :
   Calls Tryz.prog 25 #[.string s] w (ReadQ w s.data.toList) := by
 have hl := size_list s
 obtain ⟨l, hll⟩ : ∃ l, s.data.toList = l := ⟨_, rfl⟩
 have HL : Hid (l.length = s.size) := by show _ = _; rw [← hll]; exact hl
 have hmf : ∀ (fn : Fn) (first cap : Array Value) (w : World), (Instr.makeFunc fn first cap).run Tryz.prog w = .ok (.func fn first cap) w := fun _ _ _ _ => rfl
 have HT : Hid (Tab7 w) := hT
 have c0 := fun W => past_blank s 0 W (Nat.zero_le _) hs
 have cN := fun k W h h' => next_any s k W h hs h'
 have cP := fun k W h => past_blank s k W h hs
 have HN : Hid (∀ k W (h : k < s.size) (h' : Tab7 W), Calls Tryz.prog 56 #[.string s, .int .i64 (k : Int)] W fun e w' => NxR (nxt (l.drop k)) k e ∧ Ext W w') := by intro k W h h'; have := cN k W h h'; rwa [hll] at this
 have HP : Hid (∀ k W (h : k ≤ s.size), Calls Tryz.prog 54 #[.string s, .int .i64 (k : Int), .func (.func 55) #[] #[]] W fun e w' => e = .returned (.int .i64 ((k + run blB (l.drop k) : Nat) : Int)) ∧ w' = W) := by intro k W h; have := cP k W h; rwa [hll] at this
 rw [hll] at c0 ⊢
 rw [List.drop_zero, Nat.zero_add] at c0
 obtain ⟨j0, hj0⟩ : ∃ j0, run blB l = j0 := ⟨_, rfl⟩
 rw [hj0] at c0
 have HJ0 : Hid (run blB l = j0) := hj0
 clear hl hll hT cN cP hj0
 go_enter_defers Tryz.func25, Tryz.ntmps25
 go_wp2_with fail
 refine (c0 _).mono ?_
 rintro e w1 ⟨rfl, rfl⟩
 go_wp2_with fail
 go_loopw [4] (fun x wr => ∃ (j : Nat) (v : Value) (acc : List Tk), x = .int .i64 (j : Int) ∧ j ≤ s.size ∧ (∀ h : j < l.length, ¬ l[j] = 32) ∧ W 0 l = (W j (l.drop j)).map (fun ts => acc ++ ts) ∧ acc.length ≤ j ∧ St w wr v acc) (fun x _ => s.size - (intOf x).toNat)
 case atStart =>
   have h0 := HJ0.out
   have h1 := runL_le blB l
   have h2 := HL.out
   refine ⟨j0, .slice none 0 0, [], rfl, by omega, blank_stop l j0 h0, ?_, Nat.zero_le _, OwT.nil _ _, ((Ext.refl w).alloc _).alloc _, by simp, ⟨by simp [go_sem], by simp [go_sem]⟩, ⟨by simp [go_sem], by simp [go_sem]⟩, by simp [go_sem], by simp [go_sem]⟩
   rw [W_run 0 l, h0, Nat.zero_add]
   exact map_nil _
 case round =>
   obtain ⟨j, v, acc, rfl, hj, hb, hW, ha, hS⟩ := hrel
   have HB : Hid (∀ h : j < l.length, ¬ l[j] = 32) := hb
   have HW : Hid (W 0 l = (W j (l.drop j)).map (fun ts => acc ++ ts)) := hW
   have HA : Hid (acc.length ≤ j) := ha
   have HS : Hid (St w wr v acc) := hS
   clear hb hW ha hS
   by_cases hlt : j < s.size
   · have hltI : (j : Int) < (s.size : Int) := by omega
     have c1 := HN.out j wr hlt (HT.out.ext HS.out.2.1)
     cases hx : nxt (l.drop j) with
     | error c =>
       have HX : Hid (W 0 l = .error (j, c)) := by
         show _ = _; rw [HW.out, W_at l j (by have := HL.out; omega) (HB.out _), hx]; rfl
       have C : Calls Tryz.prog 56 #[.string s, .int .i64 (j : Int)] wr fun e w' => e = .panicked [{ v := .iface 67 (.agg #[.int .i64 (j : Int), .int .i64 c]), recovered := false }] ∧ Ext wr w' := by rw [hx] at c1; exact c1
       clear hx c1
       go_wp2_with fail
       refine C.mono ?_
       rintro e w1 ⟨rfl, E1⟩
       obtain ⟨h1, h2, h3, ⟨a0, z0⟩, ⟨a1, z1⟩, a2, z2⟩ := HS.out.ext E1
       refine leaves_cons (f := 53) (args := #[.pointer (some ⟨w.heap.size, 0, none⟩), .pointer (some ⟨w.heap.size + 1, 0, none⟩)]) (by simp) (by simp [go_sem]) ?_
       refine (catch_fault w.heap.size (w.heap.size + 1) _ _ _ _ _ w w1 h2 (Nat.le_refl _) (by omega) (by omega) a0 z0 a1 z1 a2 z2).mono ?_
       rintro e u' w2 ⟨rfl, rfl, E2, d0, d1, d2⟩
       simp [Leaves, settle, results, Tryz.results25, go_sem, d0, d1, d2]
       unfold ReadQ
       rw [HX.out]
       exact ⟨rfl, E2⟩
     | ok x =>
       have hpos := nxt_pos hx
       have HX : Hid (W 0 l = (W (j + x.2.2.2.2) (l.drop (j + x.2.2.2.2))).map (fun ts => acc ++ [tkOf x j] ++ ts)) := by
         show _ = _
         rw [HW.out, W_at l j (by have := HL.out; omega) (HB.out _), hx]
         simp only []
         cases W (j + x.2.2.2.2) (l.drop (j + x.2.2.2.2)) <;> simp [Except.map]
       have hmS : j + x.2.2.2.2 ≤ s.size := by have := hpos.2; have := HL.out; simp at *; omega
       have hmJ : 1 ≤ x.2.2.2.2 := hpos.1
       have C : Calls Tryz.prog 56 #[.string s, .int .i64 (j : Int)] wr fun e w' => e = .returned (.tuple #[.agg #[.int .i64 x.1, .int .i64 0, .string (bs x.2.1), .int .i64 x.2.2.1, .int .i64 x.2.2.2.1], .int .i64 ((j + x.2.2.2.2 : Nat) : Int)]) ∧ Ext wr w' := by rw [hx] at c1; exact c1
       have c2 := fun W => HP.out (j + x.2.2.2.2) W hmS
       obtain ⟨x0, x1, x2, x3, x4⟩ := x
       simp only [] at C HX c2 hmS hmJ
       obtain ⟨m, hm⟩ : ∃ m, j + x4 = m := ⟨_, rfl⟩
       obtain ⟨q1, hq1⟩ : ∃ q1, bs x1 = q1 := ⟨_, rfl⟩
       rw [hm] at C HX c2 hmS
       rw [hq1] at C
       obtain ⟨j2, hj2⟩ : ∃ j2, m + run blB (l.drop m) = j2 := ⟨_, rfl⟩
       rw [hj2] at c2
       have HJ : Hid (j < m ∧ m + run blB (l.drop m) = j2) := ⟨by omega, hj2⟩
       have HQ : Hid (bs x1 = q1) := hq1
       have hA : acc.length ≤ 100000 := by have := HA.out; omega
       have HA2 : Hid (acc.length ≤ 100000) := hA
       clear hx c1 hpos hm hq1 hj2 hmJ hA
       go_wp2_with fail
       refine C.mono ?_
       rintro e w1 ⟨rfl, E1⟩
       have hS1 := HS.out.ext E1
       have HS1 : Hid (St w w1 v acc) := hS1
       obtain ⟨h1, h2, h3, ⟨a0, z0⟩, ⟨a1, z1⟩, a2, z2⟩ := hS1
       have s1 : w.heap.size < w1.heap.size := by omega
       clear h1 h2 E1
       go_wp2_with (at_builtin; refine tk_append _ (w.heap.size + 2) _ _ _ _ acc (x0, (j : Int), x1, x2, x3) rfl rfl (by rfl) (by rfl) (HS1.out.1.ext (((Ext.refl _).alloc _).alloc _)) ?cR HA2.out (by simp; omega) ?_)
       case cR => exact new_tk (by simp) HQ.out
       intro v' w2 k1 k2 g cap hv
       have hS2 := St.more (HS1.out.ext (((Ext.refl _).alloc _).alloc _)) k1 k2
       have d0 := grown_cell k2 (b := w.heap.size) (by simp; omega) (HS1.out.1.far (by omega)) 0
       have d1 : w2.cell? ⟨w.heap.size, 0, none⟩ = some v := by rw [d0.1]; exact (HS1.out.ext (((Ext.refl _).alloc _).alloc _)).2.2.2.1.1
       have d2 : w2.frozen? ⟨w.heap.size, 0, none⟩ = false := by rw [d0.2]; exact (HS1.out.ext (((Ext.refl _).alloc _).alloc _)).2.2.2.1.2
       have HS2 : Hid (St w (w2.setCell ⟨w.heap.size, 0, none⟩ v') v' (acc ++ [(x0, (j : Int), x1, x2, x3)])) := hS2
       clear hS2 d0 k1 k2 a0 z0 a1 z1 a2 z2 h3 s1
       subst hv
       go_wp2_with fail
       refine (c2 _).mono ?_
       rintro e w3 ⟨rfl, rfl⟩
       go_wp2_with fail
       go_roundw
       case rel =>
         have h4 := HJ.out
         have h5 := runL_le blB (l.drop m)
         have h6 := HL.out
         have h7 := HA.out
         simp at h5
         refine ⟨j2, _, acc ++ [(x0, (j : Int), x1, x2, x3)], rfl, by omega, blank_next l m j2 h4.2, ?_, by simp; omega, HS2.out⟩
         rw [HX.out, W_run m (l.drop m), h4.2, List.drop_drop, h4.2]; rfl
       case measure => have h4 := HJ.out; show s.size - ((j2 : Int)).toNat < s.size - ((j : Int)).toNat; omega
   · have hltI : ¬ (j : Int) < (s.size : Int) := by omega
     have HX : Hid (W 0 l = .ok (acc ++ [endT j])) := by
       show _ = _; rw [HW.out, List.drop_eq_nil_of_le (by have := HL.out; omega), W_nil]; rfl
     have hA : acc.length ≤ 100000 := by have := HA.out; omega
     have HA2 : Hid (acc.length ≤ 100000) := hA
     clear hA
     have hS := HS.out
     obtain ⟨h1, h2, h3, ⟨a0, z0⟩, ⟨a1, z1⟩, a2, z2⟩ := hS
     clear h1 h2
     go_wp2_with (at_builtin; refine tk_append _ (w.heap.size + 2) _ _ _ _ acc (endT j) rfl rfl (by rfl) (by rfl) (HS.out.1.ext ((Ext.refl _).alloc _)) ?cR HA2.out (by simp; omega) ?_)
     case cR => exact fun _ _ h => h
     intro v' w2 k1 k2 g cap hv
     have hS2 := St.more (HS.out.ext ((Ext.refl _).alloc _)) k1 k2
     have d0 := grown_cell k2 (b := w.heap.size) (by simp; omega) (HS.out.1.far (by omega)) 0
     have d1 : w2.cell? ⟨w.heap.size, 0, none⟩ = some v := by rw [d0.1]; exact (HS.out.ext ((Ext.refl _).alloc _)).2.2.2.1.1
     have d2 : w2.frozen? ⟨w.heap.size, 0, none⟩ = false := by rw [d0.2]; exact (HS.out.ext ((Ext.refl _).alloc _)).2.2.2.1.2
     have HS2 : Hid (St w (w2.setCell ⟨w.heap.size, 0, none⟩ v') v' (acc ++ [endT j])) := hS2
     obtain ⟨e1, e2, e3, ⟨b0, y0⟩, ⟨b1, y1⟩, b2, y2⟩ := hS2
     clear d0 k1 k2 a0 z0 a1 z1 a2 z2 h3 e1 e2 e3
     subst hv
     go_wp2_with fail
     have hO := HS2.out.1
     have hX := HS2.out.2.1
     clear HS2 d1 d2
     generalize Value.slice (some ⟨g, 0, none⟩) (acc.length + 1) cap = v' at *
     generalize w2.setCell ⟨w.heap.size, 0, none⟩ v' = w3 at *
     have g1 := World.cell?_setCell_same w3 ⟨w.heap.size + 1, 0, none⟩ (.int .i64 0) (by rw [b1])
     have j2 : (w3.setCell ⟨w.heap.size + 1, 0, none⟩ (.int .i64 0)).cell? ⟨w.heap.size + 1, 1, none⟩ = some (.int .i64 0) := by rw [World.cell?_setCell_other _ _ _ _ (by simp)]; exact b2
     have g2 := World.cell?_setCell_same _ ⟨w.heap.size + 1, 1, none⟩ (.int .i64 0) (by rw [j2])
     have g1' : ((w3.setCell ⟨w.heap.size + 1, 0, none⟩ (.int .i64 0)).setCell ⟨w.heap.size + 1, 1, none⟩ (.int .i64 0)).cell? ⟨w.heap.size + 1, 0, none⟩ = some (.int .i64 0) := by rw [World.cell?_setCell_other _ _ _ _ (by simp)]; exact g1
     have g0 : ((w3.setCell ⟨w.heap.size + 1, 0, none⟩ (.int .i64 0)).setCell ⟨w.heap.size + 1, 1, none⟩ (.int .i64 0)).cell? ⟨w.heap.size, 0, none⟩ = some v' := by
       rw [World.cell?_setCell_far _ _ _ _ (by simp), World.cell?_setCell_far _ _ _ _ (by simp)]; exact b0
     have hO2 := (hO.set (p := ⟨w.heap.size + 1, 0, none⟩) (by simp) (.int .i64 0)).set (p := ⟨w.heap.size + 1, 1, none⟩) (by simp) (.int .i64 0)
     have hX2 := (hX.setCell (p := ⟨w.heap.size + 1, 0, none⟩) (by simp) (.int .i64 0)).setCell (p := ⟨w.heap.size + 1, 1, none⟩) (by simp) (.int .i64 0)
     generalize (w3.setCell ⟨w.heap.size + 1, 0, none⟩ (.int .i64 0)).setCell ⟨w.heap.size + 1, 1, none⟩ (.int .i64 0) = w4 at *
     refine leaves_cons (f := 53) (args := #[.pointer (some ⟨w.heap.size, 0, none⟩), .pointer (some ⟨w.heap.size + 1, 0, none⟩)]) (by simp) (by simp [go_sem]) ?_
     refine (catch_idle ⟨w.heap.size, 0, none⟩ ⟨w.heap.size + 1, 0, none⟩ w4).mono ?_
     rintro e u' w5 ⟨rfl, rfl, rfl⟩
     simp [Leaves, settle, results, Tryz.results25, go_sem, g0, g1', g2]
     unfold ReadQ
     rw [HX.out]
     exact ⟨_, rfl, hO2.rd, hX2⟩
end Go.Proofs.YtcggiljlilbdfaaGreatDoor

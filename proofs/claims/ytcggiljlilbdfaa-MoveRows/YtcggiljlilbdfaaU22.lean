/-
 Formulas that are filled, seen from their places, and back: plain mathematics, no program in sight.
 Formulas when rows come and go, as trees. Plain mathematics: no program in sight.
 Package rel: a tree in new memory, in which each part, and then the tree itself, is what a function makes of it.
 Package move: rows that come and go; lists and trees in new memory.
-/
import Derived.Test.YtcggiljlilbdfaaU21
namespace Go.Proofs.Ytcggiljlilbdfaa
open Go.RowKit
set_option maxHeartbeats 2000000

theorem mpT_node (g : T → T) (hg : ∀ t : T, t.k = 6 ∨ t.k = 7 ∨ t.k = 8 → g t = t) (n : Nat) (t : T) (h : t.k = 6 ∨ t.k = 7 ∨ t.k = 8) : mpT g (n + 1) t = t.wL (t.l.map (mpT g n)) := by
 rw [mpT, show prB t.k = true from by simpa [prB] using h]
 exact hg _ h
theorem mpT_leaf (g : T → T) (n : Nat) (t : T) (h : prB t.k = false) : mpT g (n + 1) t = g t := by
 rw [mpT, h]; simp only [Bool.false_eq_true, if_false, List.map_id, wL_self]
/-! Errors -/
/-! Well made -/
theorem wa_k5 {n : Nat} {t : T} (h : wellT n t = true) : ¬ t.k = 5 := by
 intro k5
 cases n with
 | zero => cases h
 | succ n => rw [wellT, k5] at h; simp at h
theorem wa_arg {n : Nat} {t : T} (h : wellT n t = true) : argT n t = true := by
 unfold argT; rw [if_neg (wa_k5 h)]; exact h
theorem wa_err (n : Nat) : wellT (n + 1) (tErr 1) = true := rfl

open Go.RowKit
set_option maxHeartbeats 2000000

/-- Where a row is when one comes ahead of row a; when row a goes. -/
def inR (a row : Int) : Int := if row < 1 ∨ 1000 < row then 0 else if row < a then row else if row = 1000 then 0 else row + 1
def deR (a row : Int) : Int := if row < 1 ∨ 1000 < row ∨ row = a then 0 else if row < a then row else row - 1
/-- Of a range's rows, the lesser one first. -/
def inV (a lo hi : Int) : Int × Int × Bool := if inR a lo = 0 then (0, 0, false) else (inR a lo, if inR a hi = 0 then 1000 else inR a hi, true)
def deV (a lo hi : Int) : Int × Int × Bool := if lo = a ∧ hi = a then (0, 0, false) else (if a < lo then lo - 1 else lo, if a ≤ hi then hi - 1 else hi, true)
/-- One tree, not its parts, when rows come and go. -/
def chR (o : Int → Int) (t : T) : T := if o t.r.1 = 0 then tErr 1 else t.wR (o t.r.1, t.r.2)
def chA (b : Int → Int → Int × Int × Bool) (t : T) : T := if t.r.1 ≤ t.q.1 then (if (b t.r.1 t.q.1).2.2 then t.wRQ ((b t.r.1 t.q.1).1, t.r.2) ((b t.r.1 t.q.1).2.1, t.q.2) else tErr 1) else (if (b t.q.1 t.r.1).2.2 then t.wRQ ((b t.q.1 t.r.1).2.1, t.r.2) ((b t.q.1 t.r.1).1, t.q.2) else tErr 1)
def chE (o : Int → Int) (b : Int → Int → Int × Int × Bool) (t : T) : T := if t.k = 4 then chR o t else if t.k = 5 then chA b t else t
theorem chE_node (o : Int → Int) (b : Int → Int → Int × Int × Bool) (t : T) (h : t.k = 6 ∨ t.k = 7 ∨ t.k = 8) : chE o b t = t := by
 unfold chE; rw [if_neg (by omega), if_neg (by omega)]
theorem chR_l (o : Int → Int) (t : T) : (chR o t).l = t.l ∨ (chR o t).l = [] := by
 unfold chR; split
 · exact .inr rfl
 · exact .inl rfl
theorem chA_l (b : Int → Int → Int × Int × Bool) (t : T) : (chA b t).l = t.l ∨ (chA b t).l = [] := by
 unfold chA
 split <;> split
 · exact .inl rfl
 · exact .inr rfl
 · exact .inl rfl
 · exact .inr rfl
theorem chE_l (o : Int → Int) (b : Int → Int → Int × Int × Bool) (t : T) : (chE o b t).l = t.l ∨ (chE o b t).l = [] := by
 unfold chE
 split
 · exact chR_l o t
 · split
   · exact chA_l b t
   · exact .inl rfl

open Go.RowKit
set_option maxHeartbeats 6000000

def MpQ (w : World) (t : T) (e : Ending) (w' : World) : Prop := ∃ p l c, e = .returned (aggX t (.slice p l c)) ∧ IsL w' (w.heap.size ≤ ·) (.slice p l c) t.l ∧ Ext w w'
theorem isL_nil {w : World} {P : Nat → Prop} {n c : Nat} {l : List T} (h : IsL w P (.slice none n c) l) : n = 0 ∧ l = [] := by
 cases h with
 | nil => exact ⟨rfl, rfl⟩

open Go.RowKit
set_option maxHeartbeats 6000000

set_option maxRecDepth 100000 in
theorem isRow_any (row : Int) (W : World) : Calls Try.prog 56 #[.int .i64 row] W fun e w' => e = .returned (.bool (decide (1 ≤ row) && decide (row ≤ 1000))) ∧ w' = W := by
 obtain ⟨x, hx⟩ : ∃ x, (decide (1 ≤ row) && decide (row ≤ 1000)) = x := ⟨_, rfl⟩
 rw [hx]
 by_cases h1 : 1 ≤ row
 · by_cases h2 : row ≤ 1000
   · obtain rfl : true = x := by rw [← hx]; simp [h1, h2]
     clear hx
     go_enter Try.func56, Try.ntmps56
     go_wp2_with fail
     go_ret
     exact ⟨rfl, rfl⟩
   · obtain rfl : false = x := by rw [← hx]; simp; omega
     clear hx
     go_enter Try.func56, Try.ntmps56
     go_wp2_with fail
     go_ret
     exact ⟨rfl, rfl⟩
 · obtain rfl : false = x := by rw [← hx]; simp; omega
   clear hx
   go_enter Try.func56, Try.ntmps56
   go_wp2_with fail
   go_ret
   exact ⟨rfl, rfl⟩
set_option maxRecDepth 100000 in
theorem inserted_any (row a : Int) (W : World) : Calls Try.prog 27 #[.int .i64 row, .int .i64 a] W fun e w' => e = .returned (.int .i64 (inR a row)) ∧ w' = W := by
 have cR := fun V => isRow_any row V
 by_cases hr : 1 ≤ row ∧ row ≤ 1000
 · rw [show (decide (1 ≤ row) && decide (row ≤ 1000)) = true by simp; exact hr] at cR
   have h1 := hr.1
   have h2 := hr.2
   by_cases hl : row < a
   · have HX : Hid (inR a row = row) := by show _ = _; unfold inR; rw [if_neg (by omega), if_pos hl]
     clear hr
     go_enter Try.func27, Try.ntmps27
     go_wp2_with fail
     refine (cR _).mono ?_
     rintro e w1 ⟨rfl, rfl⟩
     go_wp2_with fail
     go_ret
     exact ⟨ret_int HX.out.symm, rfl⟩
   by_cases hm : row = 1000
   · have HX : Hid (inR a row = 0) := by show _ = _; unfold inR; rw [if_neg (by omega), if_neg hl, if_pos hm]
     subst hm
     clear hr
     go_enter Try.func27, Try.ntmps27
     go_wp2_with fail
     refine (cR _).mono ?_
     rintro e w1 ⟨rfl, rfl⟩
     go_wp2_with fail
     go_ret
     exact ⟨ret_int HX.out.symm, rfl⟩
   · have em : (row == 1000) = false := by simpa using hm
     have HX : Hid (inR a row = row + 1) := by show _ = _; unfold inR; rw [if_neg (by omega), if_neg hl, if_neg hm]
     clear hr hm
     go_enter Try.func27, Try.ntmps27
     go_wp2_with fail
     refine (cR _).mono ?_
     rintro e w1 ⟨rfl, rfl⟩
     go_wp2_with fail
     go_ret
     exact ⟨ret_int HX.out.symm, rfl⟩
 · rw [show (decide (1 ≤ row) && decide (row ≤ 1000)) = false by simp; omega] at cR
   have HX : Hid (inR a row = 0) := by show _ = _; unfold inR; rw [if_pos (by omega)]
   clear hr
   go_enter Try.func27, Try.ntmps27
   go_wp2_with fail
   refine (cR _).mono ?_
   rintro e w1 ⟨rfl, rfl⟩
   go_wp2_with fail
   go_ret
   exact ⟨ret_int HX.out.symm, rfl⟩
set_option maxRecDepth 100000 in
theorem deleted_any (row a : Int) (W : World) : Calls Try.prog 28 #[.int .i64 row, .int .i64 a] W fun e w' => e = .returned (.int .i64 (deR a row)) ∧ w' = W := by
 have cR := fun V => isRow_any row V
 by_cases hr : 1 ≤ row ∧ row ≤ 1000
 · rw [show (decide (1 ≤ row) && decide (row ≤ 1000)) = true by simp; exact hr] at cR
   have h1 := hr.1
   have h2 := hr.2
   by_cases he : row = a
   · have HX : Hid (deR a row = 0) := by show _ = _; unfold deR; rw [if_pos (by omega)]
     have ee : (row == a) = true := by simpa using he
     clear hr he
     go_enter Try.func28, Try.ntmps28
     go_wp2_with fail
     refine (cR _).mono ?_
     rintro e w1 ⟨rfl, rfl⟩
     go_wp2_with fail
     go_ret
     exact ⟨ret_int HX.out.symm, rfl⟩
   have ee : (row == a) = false := by simpa using he
   by_cases hl : row < a
   · have HX : Hid (deR a row = row) := by show _ = _; unfold deR; rw [if_neg (by omega), if_pos hl]
     clear hr he
     go_enter Try.func28, Try.ntmps28
     go_wp2_with fail
     refine (cR _).mono ?_
     rintro e w1 ⟨rfl, rfl⟩
     go_wp2_with fail
     go_ret
     exact ⟨ret_int HX.out.symm, rfl⟩
   · have HX : Hid (deR a row = row - 1) := by show _ = _; unfold deR; rw [if_neg (by omega), if_neg hl]
     clear hr he
     go_enter Try.func28, Try.ntmps28
     go_wp2_with fail
     refine (cR _).mono ?_
     rintro e w1 ⟨rfl, rfl⟩
     go_wp2_with fail
     go_ret
     exact ⟨ret_int HX.out.symm, rfl⟩
 · rw [show (decide (1 ≤ row) && decide (row ≤ 1000)) = false by simp; omega] at cR
   have HX : Hid (deR a row = 0) := by show _ = _; unfold deR; rw [if_pos (by omega)]
   clear hr
   go_enter Try.func28, Try.ntmps28
   go_wp2_with fail
   refine (cR _).mono ?_
   rintro e w1 ⟨rfl, rfl⟩
   go_wp2_with fail
   go_ret
   exact ⟨ret_int HX.out.symm, rfl⟩
set_option maxRecDepth 100000 in
theorem rinserted_any (row a : Int) (W : World) : Calls Try.prog 29 #[.int .i64 row, .int .i64 a] W fun e w' => e = .returned (.int .i64 (inR a row)) ∧ w' = W := by
 by_cases h1 : row < 1
 · have HX : Hid (inR a row = 0) := by show _ = _; unfold inR; rw [if_pos (by omega)]
   go_enter Try.func29, Try.ntmps29
   go_wp2_with fail
   go_ret
   exact ⟨ret_int HX.out.symm, rfl⟩
 by_cases h2 : 1000 < row
 · have HX : Hid (inR a row = 0) := by show _ = _; unfold inR; rw [if_pos (by omega)]
   go_enter Try.func29, Try.ntmps29
   go_wp2_with fail
   go_ret
   exact ⟨ret_int HX.out.symm, rfl⟩
 by_cases hm : row = 1000
 · have em : (row == 1000) = true := by simpa using hm
   by_cases ha : a ≤ 1000
   · have HX : Hid (inR a row = 0) := by show _ = _; unfold inR; rw [if_neg (by omega), if_neg (by omega), if_pos hm]
     clear hm
     go_enter Try.func29, Try.ntmps29
     go_wp2_with fail
     go_ret
     exact ⟨ret_int HX.out.symm, rfl⟩
   · have hl : row < a := by omega
     have HX : Hid (inR a row = row) := by show _ = _; unfold inR; rw [if_neg (by omega), if_pos hl]
     clear hm
     go_enter Try.func29, Try.ntmps29
     go_wp2_with fail
     go_ret
     exact ⟨ret_int HX.out.symm, rfl⟩
 have em : (row == 1000) = false := by simpa using hm
 by_cases hl : row < a
 · have HX : Hid (inR a row = row) := by show _ = _; unfold inR; rw [if_neg (by omega), if_pos hl]
   clear hm
   go_enter Try.func29, Try.ntmps29
   go_wp2_with fail
   go_ret
   exact ⟨ret_int HX.out.symm, rfl⟩
 · have HX : Hid (inR a row = row + 1) := by show _ = _; unfold inR; rw [if_neg (by omega), if_neg hl, if_neg hm]
   clear hm
   go_enter Try.func29, Try.ntmps29
   go_wp2_with fail
   go_ret
   exact ⟨ret_int HX.out.symm, rfl⟩
set_option maxRecDepth 100000 in
theorem rdeleted_any (row a : Int) (W : World) : Calls Try.prog 30 #[.int .i64 row, .int .i64 a] W fun e w' => e = .returned (.int .i64 (deR a row)) ∧ w' = W := by
 by_cases h1 : row < 1
 · have HX : Hid (deR a row = 0) := by show _ = _; unfold deR; rw [if_pos (by omega)]
   go_enter Try.func30, Try.ntmps30
   go_wp2_with fail
   go_ret
   exact ⟨ret_int HX.out.symm, rfl⟩
 by_cases h2 : 1000 < row
 · have HX : Hid (deR a row = 0) := by show _ = _; unfold deR; rw [if_pos (by omega)]
   go_enter Try.func30, Try.ntmps30
   go_wp2_with fail
   go_ret
   exact ⟨ret_int HX.out.symm, rfl⟩
 by_cases he : row = a
 · have ee : (row == a) = true := by simpa using he
   have HX : Hid (deR a row = 0) := by show _ = _; unfold deR; rw [if_pos (by omega)]
   clear he
   go_enter Try.func30, Try.ntmps30
   go_wp2_with fail
   go_ret
   exact ⟨ret_int HX.out.symm, rfl⟩
 have ee : (row == a) = false := by simpa using he
 by_cases hl : row < a
 · have HX : Hid (deR a row = row) := by show _ = _; unfold deR; rw [if_neg (by omega), if_pos hl]
   clear he
   go_enter Try.func30, Try.ntmps30
   go_wp2_with fail
   go_ret
   exact ⟨ret_int HX.out.symm, rfl⟩
 · have HX : Hid (deR a row = row - 1) := by show _ = _; unfold deR; rw [if_neg (by omega), if_neg hl]
   clear he
   go_enter Try.func30, Try.ntmps30
   go_wp2_with fail
   go_ret
   exact ⟨ret_int HX.out.symm, rfl⟩
set_option maxRecDepth 100000 in
theorem lost_any (W : World) : Calls Try.prog 118 #[] W fun e w' => e = .returned (aggX (tErr 1) (.slice none 0 0)) ∧ Ext W w' := by
 go_enter Try.func118, Try.ntmps118
 go_wp2_with fail
 exact bodyPost_ret (v := aggX (tErr 1) (.slice none 0 0)) (by simp [results, Try.results118, go_sem, aggX]; exact ⟨rfl, rfl, rfl, rfl, rfl, rfl, rfl, rfl, rfl, rfl, rfl, rfl⟩) rfl ⟨rfl, (Ext.refl _).alloc _⟩
theorem eql_none (n c : Nat) (W : World) : Sem.run Try.prog (binOp BinOp.eql 24 (.slice none n c) (.slice none 0 0)) W = .ok (.bool true) W := by kernel_rfl
theorem eql_some (a : Addr) (n c : Nat) (W : World) : Sem.run Try.prog (binOp BinOp.eql 24 (.slice (some a) n c) (.slice none 0 0)) W = .ok (.bool false) W := by kernel_rfl
/-- A function value makes g x of each x of l, in new memory. -/
def EaC (w : World) (P : Nat → Prop) (v : Value) (g : T → T) (l : List T) : Prop := ∃ K fs cs, v = .func (.func K) fs cs ∧ (∀ args W, (callFunc K args).run Try.prog W = .ok (.enter K args) W) ∧ ∀ x ∈ l, ∀ (W : World) (pp : Option Addr) (ln cl : Nat), Ext w W → IsL W P (.slice pp ln cl) x.l → Calls Try.prog K (fs ++ #[.agg #[.int .i64 x.k, .int .i64 x.n, .string (bs x.s), .int .i64 x.e, .int .i64 x.r.1, .int .i64 x.r.2.1, .bool x.r.2.2.1, .bool x.r.2.2.2, .int .i64 x.q.1, .int .i64 x.q.2.1, .bool x.q.2.2.1, .bool x.q.2.2.2, .slice pp ln cl]] ++ cs) W (MpQ W (g x))
def LsQ (W : World) (l : List T) (e : Ending) (w' : World) : Prop := ∃ p n c, e = .returned (.slice p n c) ∧ IsL w' (W.heap.size ≤ ·) (.slice p n c) l ∧ Ext W w'
set_option maxRecDepth 100000 in
theorem each_nil (l : List T) (g : T → T) (v : Value) (P : Nat → Prop) (W : World) (ln cl : Nat) (hL : IsL W P (.slice none ln cl) l) : Calls Try.prog 103 #[.slice none ln cl, v] W (LsQ W (l.map g)) := by
 obtain ⟨hn0, hn1⟩ := isL_nil hL
 subst hn0 hn1
 clear hL
 have q0 := fun W => eql_none 0 cl W
 go_enter Try.func103, Try.ntmps103
 go_wp2_with fail
 go_ret
 exact ⟨none, 0, 0, rfl, .nil, Ext.refl _⟩
set_option maxRecDepth 100000 in
theorem each_some (l : List T) (hl : l.length ≤ 100000) (g : T → T) (v : Value) (P : Nat → Prop) (W : World) (a : Addr) (ln cl : Nat) (hv : EaC W P v g l) (hL : IsL W P (.slice (some a) ln cl) l) : Calls Try.prog 103 #[.slice (some a) ln cl, v] W (LsQ W (l.map g)) := by
 have hln : ln = l.length := by
   obtain ⟨p, c, h1, _⟩ := hL.form
   cases h1; rfl
 obtain ⟨K, fs, cs, rfl, hent, hK⟩ := hv
 have HI : Hid (IsL W P (.slice (some a) ln cl) l) := hL
 have HLN : Hid (ln = l.length) := hln
 have HFN : Hid (∀ x ∈ l, ∀ (W' : World) (pp : Option Addr) (ln cl : Nat), Ext W W' → IsL W' P (.slice pp ln cl) x.l → Calls Try.prog K (fs ++ #[.agg #[.int .i64 x.k, .int .i64 x.n, .string (bs x.s), .int .i64 x.e, .int .i64 x.r.1, .int .i64 x.r.2.1, .bool x.r.2.2.1, .bool x.r.2.2.2, .int .i64 x.q.1, .int .i64 x.q.2.1, .bool x.q.2.2.1, .bool x.q.2.2.2, .slice pp ln cl]] ++ cs) W' (MpQ W' (g x))) := hK
 have hl2 : ln ≤ 100000 := by omega
 obtain ⟨C, hC, hmk⟩ : ∃ C : World → Array Value, (∀ V, (C V).size = ln * 13) ∧ ∀ V, (Instr.makeSlice 24 (.int .i64 (ln : Int)) (.int .i64 (ln : Int))).run Try.prog V = .ok (.slice (some ⟨V.heap.size, 0, none⟩) ln ln) (V.alloc (.cells (C V) 26)) := ⟨fun V => Classical.choose (run_mk ln hl2 V), fun V => (Classical.choose_spec (run_mk ln hl2 V)).1, fun V => (Classical.choose_spec (run_mk ln hl2 V)).2⟩
 have HCZ : Hid (∀ V, (C V).size = ln * 13) := hC
 have HR1 : Hid (Room (W.alloc (.cells (C W) 26)) W.heap.size (ln * 13)) := Room.new (HCZ.out W) rfl (Ext.refl _)
 have HE1 : Hid (Ext W (W.alloc (.cells (C W) 26))) := (Ext.refl _).alloc _
 clear hL hln hl hK hC
 have q0 := fun W => eql_some a ln cl W
 go_enter Try.func103, Try.ntmps103
 go_wp2_with fail
 go_loopw [15] (fun iv wr => ∃ (j : Nat) (ps : List (T × Value)), j ≤ ln ∧ iv = .int .i64 (j : Int) ∧ ps.length = j ∧ ps.map Prod.fst = (l.take j).map g ∧ Room wr W.heap.size (ln * 13) ∧ Laid wr W.heap.size W.heap.size ps ∧ Ext W wr) (fun iv _ => ln - (intOf iv).toNat)
 case atStart => exact ⟨0, [], Nat.zero_le _, rfl, rfl, by simp, HR1.out, Laid.nil _ _ _, HE1.out⟩
 case round =>
   obtain ⟨j, ps, hj, rfl, hpl, hps, hR, hLd, hE⟩ := hrel
   have HO : Hid (ps.length = j ∧ ps.map Prod.fst = (l.take j).map g ∧ Room wr W.heap.size (ln * 13) ∧ Laid wr W.heap.size W.heap.size ps ∧ Ext W wr) := ⟨hpl, hps, hR, hLd, hE⟩
   have hwr : W.heap.size < wr.heap.size := hR.1
   clear hE hps hpl hR hLd
   by_cases hlt : j < ln
   · have hltI : (j : Int) < (ln : Int) := by omega
     have hI := HI.out.ext HO.out.2.2.2.2
     obtain ⟨gb, off, x, lv, hpp, hx1, hA1, hgb, hA2, hLx, hce⟩ := hI.at (i := j) (by rw [← HLN.out]; exact hlt)
     clear hA1 hA2
     cases hpp
     obtain ⟨pp, cl', hlv, hcl⟩ := hLx.form
     obtain ⟨ln', hln'⟩ : ∃ ln', x.l.length = ln' := ⟨_, rfl⟩
     rw [hln'] at hlv
     subst hlv
     have HX1 : Hid (l[j]? = some x) := hx1
     have HC : Hid (∀ V, Ext wr V → Calls Try.prog K (fs ++ #[.agg #[.int .i64 x.k, .int .i64 x.n, .string (bs x.s), .int .i64 x.e, .int .i64 x.r.1, .int .i64 x.r.2.1, .bool x.r.2.2.1, .bool x.r.2.2.2, .int .i64 x.q.1, .int .i64 x.q.2.1, .bool x.q.2.2.1, .bool x.q.2.2.2, .slice pp ln' cl']] ++ cs) V (MpQ V (g x))) := fun V e => HFN.out x (List.mem_of_getElem? hx1) V pp ln' cl' (HO.out.2.2.2.2.trans e) (hLx.ext e)
     have e0 : wr.cell? ⟨gb, off + j * 13, none⟩ = some (.int .i64 x.k) := hce 0 _ rfl
     have e1 : wr.cell? ⟨gb, off + j * 13 + 1, none⟩ = some (.int .i64 x.n) := hce 1 _ rfl
     have e2 : wr.cell? ⟨gb, off + j * 13 + 2, none⟩ = some (.string (bs x.s)) := hce 2 _ rfl
     have e3 : wr.cell? ⟨gb, off + j * 13 + 3, none⟩ = some (.int .i64 x.e) := hce 3 _ rfl
     have e4 : wr.cell? ⟨gb, off + j * 13 + 4, none⟩ = some (.int .i64 x.r.1) := hce 4 _ rfl
     have e5 : wr.cell? ⟨gb, off + j * 13 + 5, none⟩ = some (.int .i64 x.r.2.1) := hce 5 _ rfl
     have e6 : wr.cell? ⟨gb, off + j * 13 + 6, none⟩ = some (.bool x.r.2.2.1) := hce 6 _ rfl
     have e7 : wr.cell? ⟨gb, off + j * 13 + 7, none⟩ = some (.bool x.r.2.2.2) := hce 7 _ rfl
     have e8 : wr.cell? ⟨gb, off + j * 13 + 8, none⟩ = some (.int .i64 x.q.1) := hce 8 _ rfl
     have e9 : wr.cell? ⟨gb, off + j * 13 + 9, none⟩ = some (.int .i64 x.q.2.1) := hce 9 _ rfl
     have e10 : wr.cell? ⟨gb, off + j * 13 + 10, none⟩ = some (.bool x.q.2.2.1) := hce 10 _ rfl
     have e11 : wr.cell? ⟨gb, off + j * 13 + 11, none⟩ = some (.bool x.q.2.2.2) := hce 11 _ rfl
     have e12 : wr.cell? ⟨gb, off + j * 13 + 12, none⟩ = some (.slice pp ln' cl') := hce 12 _ rfl
     clear hI hx1 hLx hce hcl hln'
     go_wp2_with fail
     refine (HC.out _ ((Ext.refl _).alloc _)).mono ?_
     rintro e w3 ⟨p3, l3, c3, rfl, hL3, E3⟩
     obtain ⟨y, hy⟩ : ∃ y, g x = y := ⟨_, rfl⟩
     have HY : Hid (g x = y) := hy
     rw [hy] at hL3 ⊢
     have hE3 : Ext wr w3 := ((Ext.refl _).alloc _).trans E3
     have H3 : Hid (Room w3 W.heap.size (ln * 13) ∧ Laid w3 W.heap.size W.heap.size ps ∧ Ext W w3) := ⟨HO.out.2.2.1.ext hE3, HO.out.2.2.2.1.ext HO.out.2.2.1.1 hE3, HO.out.2.2.2.2.trans hE3⟩
     have HL3 : Hid (IsL w3 (fun k => W.heap.size ≤ k ∧ k ≠ W.heap.size) (.slice p3 l3 c3) y.l) := hL3.mono (fun k hk _ => by have : (wr.alloc (.cells #[.int .i64 x.k, .int .i64 x.n, .string (bs x.s), .int .i64 x.e, .int .i64 x.r.1, .int .i64 x.r.2.1, .bool x.r.2.2.1, .bool x.r.2.2.2, .int .i64 x.q.1, .int .i64 x.q.2.1, .bool x.q.2.2.1, .bool x.q.2.2.2, .slice pp ln' cl'] 26)).heap.size ≤ k := hk; simp at this; exact ⟨by omega, by omega⟩)
     have hjn : ps.length * 13 + 13 ≤ ln * 13 := by have := HO.out.1; omega
     have hjI : j * 13 + 13 ≤ ln * 13 := by omega
     obtain ⟨u0, hu0⟩ := Option.isSome_iff_exists.1 (H3.out.1.2.1 (j * 13) (by omega))
     have hf0 := H3.out.1.2.2 (j * 13)
     obtain ⟨u1, hu1⟩ := Option.isSome_iff_exists.1 (H3.out.1.2.1 (j * 13 + 1) (by omega))
     have hf1 := H3.out.1.2.2 (j * 13 + 1)
     obtain ⟨u2, hu2⟩ := Option.isSome_iff_exists.1 (H3.out.1.2.1 (j * 13 + 2) (by omega))
     have hf2 := H3.out.1.2.2 (j * 13 + 2)
     obtain ⟨u3, hu3⟩ := Option.isSome_iff_exists.1 (H3.out.1.2.1 (j * 13 + 3) (by omega))
     have hf3 := H3.out.1.2.2 (j * 13 + 3)
     obtain ⟨u4, hu4⟩ := Option.isSome_iff_exists.1 (H3.out.1.2.1 (j * 13 + 4) (by omega))
     have hf4 := H3.out.1.2.2 (j * 13 + 4)
     obtain ⟨u5, hu5⟩ := Option.isSome_iff_exists.1 (H3.out.1.2.1 (j * 13 + 5) (by omega))
     have hf5 := H3.out.1.2.2 (j * 13 + 5)
     obtain ⟨u6, hu6⟩ := Option.isSome_iff_exists.1 (H3.out.1.2.1 (j * 13 + 6) (by omega))
     have hf6 := H3.out.1.2.2 (j * 13 + 6)
     obtain ⟨u7, hu7⟩ := Option.isSome_iff_exists.1 (H3.out.1.2.1 (j * 13 + 7) (by omega))
     have hf7 := H3.out.1.2.2 (j * 13 + 7)
     obtain ⟨u8, hu8⟩ := Option.isSome_iff_exists.1 (H3.out.1.2.1 (j * 13 + 8) (by omega))
     have hf8 := H3.out.1.2.2 (j * 13 + 8)
     obtain ⟨u9, hu9⟩ := Option.isSome_iff_exists.1 (H3.out.1.2.1 (j * 13 + 9) (by omega))
     have hf9 := H3.out.1.2.2 (j * 13 + 9)
     obtain ⟨u10, hu10⟩ := Option.isSome_iff_exists.1 (H3.out.1.2.1 (j * 13 + 10) (by omega))
     have hf10 := H3.out.1.2.2 (j * 13 + 10)
     obtain ⟨u11, hu11⟩ := Option.isSome_iff_exists.1 (H3.out.1.2.1 (j * 13 + 11) (by omega))
     have hf11 := H3.out.1.2.2 (j * 13 + 11)
     obtain ⟨u12, hu12⟩ := Option.isSome_iff_exists.1 (H3.out.1.2.1 (j * 13 + 12) (by omega))
     have hf12 := H3.out.1.2.2 (j * 13 + 12)
     have hw3 : W.heap.size < w3.heap.size := H3.out.1.1
     clear hL3 E3 hE3 hy e0 e1 e2 e3 e4 e5 e6 e7 e8 e9 e10 e11 e12
     unfold aggX
     go_wp2_with fail
     go_roundw
     case rel =>
       have hj13 : j * 13 = ps.length * 13 := by rw [HO.out.1]
       refine ⟨j + 1, ps ++ [(y, .slice p3 l3 c3)], by omega, by go_num, by rw [List.length_append, HO.out.1]; rfl, ?_, ?_⟩
       · rw [List.map_append, HO.out.2.1, List.take_add_one, HX1.out]; simp [← HY.out]
       show Room (w3.setCells W.heap.size (j * 13) (cellsT y (.slice p3 l3 c3))) _ _ ∧ Laid (w3.setCells W.heap.size (j * 13) (cellsT y (.slice p3 l3 c3))) _ _ _ ∧ Ext W (w3.setCells W.heap.size (j * 13) (cellsT y (.slice p3 l3 c3)))
       rw [hj13]
       exact ⟨H3.out.1.put _ _, H3.out.2.1.snoc H3.out.1 hjn HL3.out, H3.out.2.2.setCells (Nat.le_refl _) _ _⟩
     case measure => show ln - ((j : Int) + 1).toNat < ln - ((j : Int)).toNat; omega
   · have hltI : ¬ (j : Int) < (ln : Int) := by omega
     have hjl : j = ln := by omega
     have HT : Hid (ps.map Prod.fst = l.map g ∧ ps.length = ln) := ⟨by rw [HO.out.2.1, hjl, HLN.out, List.take_length], HO.out.1.trans hjl⟩
     clear hlt hjl
     go_wp2_with fail
     go_ret
     refine ⟨_, _, _, rfl, ?_, HO.out.2.2.2.2⟩
     have := HO.out.2.2.2.1.isL (c := ln) HO.out.2.2.1.1 (Nat.le_refl _) (by rw [HT.out.2]; exact Nat.le_refl _)
     rw [HT.out.1, HT.out.2] at this
     exact this
theorem each_any (l : List T) (hl : l.length ≤ 100000) (g : T → T) (v : Value) (P : Nat → Prop) (W : World) (pp : Option Addr) (ln cl : Nat) (hv : EaC W P v g l) (hL : IsL W P (.slice pp ln cl) l) : Calls Try.prog 103 #[.slice pp ln cl, v] W (LsQ W (l.map g)) := by
 cases pp with
 | none => exact each_nil l g v P W ln cl hL
 | some a => exact each_some l hl g v P W a ln cl hv hL
/-- A tree in new memory. -/
def CpC (t : T) : Prop := ∀ (W : World) (P : Nat → Prop) (pp : Option Addr) (ln cl : Nat), IsL W P (.slice pp ln cl) t.l → Calls Try.prog 105 #[.agg #[.int .i64 t.k, .int .i64 t.n, .string (bs t.s), .int .i64 t.e, .int .i64 t.r.1, .int .i64 t.r.2.1, .bool t.r.2.2.1, .bool t.r.2.2.2, .int .i64 t.q.1, .int .i64 t.q.2.1, .bool t.q.2.2.1, .bool t.q.2.2.2, .slice pp ln cl]] W (MpQ W t)
set_option maxRecDepth 100000 in
theorem copied_any (n : Nat) : ∀ t : T, Hr n t → CpC t := by
 induction n with
 | zero => intro t h; cases h
 | succ n ih =>
   intro t hr W P pp ln cl hL
   have HC := each_any t.l hr.1 id (.func (.func 105) #[] #[]) P ((W.alloc (.cells #[.int .i64 t.k, .int .i64 t.n, .string (bs t.s), .int .i64 t.e, .int .i64 t.r.1, .int .i64 t.r.2.1, .bool t.r.2.2.1, .bool t.r.2.2.2, .int .i64 t.q.1, .int .i64 t.q.2.1, .bool t.q.2.2.1, .bool t.q.2.2.2, .slice pp ln cl] 26)).alloc (.cells #[.int .i64 0, .int .i64 0, .string ⟨#[]⟩, .int .i64 0, .int .i64 0, .int .i64 0, .bool false, .bool false, .int .i64 0, .int .i64 0, .bool false, .bool false, .slice none 0 0] 26)) pp ln cl ⟨105, #[], #[], rfl, enters_of Try.func105 (by kernel_rfl) rfl, fun x hx W' pp' ln' cl' _ hI => ih x (hr.2 x hx) W' P pp' ln' cl' hI⟩ (hL.ext (((Ext.refl _).alloc _).alloc _))
   rw [List.map_id] at HC
   have HL : Hid (IsL W P (.slice pp ln cl) t.l) := hL
   clear ih hr hL
   go_enter Try.func105, Try.ntmps105
   go_wp2_with fail
   refine HC.mono ?_
   rintro e w1 ⟨p, l, c, rfl, L1, E1⟩
   have HB : Hid (BlkX w1 W.heap.size t (.slice pp ln cl) ∧ BlkX w1 (W.heap.size + 1) tz (.slice none 0 0) ∧ Ext W w1) := ⟨(blk13_top rfl ((Ext.refl _).alloc _)).ext E1, (BlkX.top (by simp) (Ext.refl _)).ext E1, (((Ext.refl _).alloc _).alloc _).trans E1⟩
   have HL1 : Hid (IsL w1 (W.heap.size + 1 + 1 ≤ ·) (.slice p l c) t.l) := L1.mono (fun k hk _ => by have : ((W.alloc (.cells #[.int .i64 t.k, .int .i64 t.n, .string (bs t.s), .int .i64 t.e, .int .i64 t.r.1, .int .i64 t.r.2.1, .bool t.r.2.2.1, .bool t.r.2.2.2, .int .i64 t.q.1, .int .i64 t.q.2.1, .bool t.q.2.2.1, .bool t.q.2.2.2, .slice pp ln cl] 26)).alloc (.cells #[.int .i64 0, .int .i64 0, .string ⟨#[]⟩, .int .i64 0, .int .i64 0, .int .i64 0, .bool false, .bool false, .int .i64 0, .int .i64 0, .bool false, .bool false, .slice none 0 0] 26)).heap.size ≤ k := hk; simp at this; omega)
   have hz : W.heap.size + 1 < w1.heap.size := HB.out.2.1.1
   have HB0 := HB.out.1
   obtain ⟨qa, ⟨la0, la1, la2, la3, la4, la5, la6, la7, la8, la9, la10, la11, la12⟩, ga0, ga1, ga2, ga3, ga4, ga5, ga6, ga7, ga8, ga9, ga10, ga11, ga12⟩ := HB0
   have HB1 := HB.out.2.1
   obtain ⟨qc, ⟨lc0, lc1, lc2, lc3, lc4, lc5, lc6, lc7, lc8, lc9, lc10, lc11, lc12⟩, gc0, gc1, gc2, gc3, gc4, gc5, gc6, gc7, gc8, gc9, gc10, gc11, gc12⟩ := HB1
   clear E1 L1 HC
   go_wp2_with fail
   show bodyPost Try.prog _ _ _ _ (putX (w1.setCell ⟨W.heap.size, 12, none⟩ (.slice p l c)) (W.heap.size + 1) t (.slice p l c))
   have E9 : Ext W (w1.setCell ⟨W.heap.size, 12, none⟩ (.slice p l c)) := HB.out.2.2.setCell (p := ⟨W.heap.size, 12, none⟩) (Nat.le_refl _) _
   have B9 : BlkX (w1.setCell ⟨W.heap.size, 12, none⟩ (.slice p l c)) (W.heap.size + 1) tz (.slice none 0 0) := Blk13.far1 HB.out.2.1 (by omega) 12 _
   have L9 : IsL (w1.setCell ⟨W.heap.size, 12, none⟩ (.slice p l c)) (W.heap.size + 1 + 1 ≤ ·) (.slice p l c) t.l := HL1.out.keep (by simp [World.setCell]) (fun k hk _ => Below.heap_setCell _ _ _ _ (by have hk2 : W.heap.size + 1 + 1 ≤ k := hk; simp; omega)) (fun _ h _ => h)
   generalize w1.setCell ⟨W.heap.size, 12, none⟩ (.slice p l c) = w9 at *
   exact endR (B9.put t (.slice p l c)) rfl ⟨p, l, c, rfl, (putX_L L9 (fun k hk => by have hk2 : W.heap.size + 1 + 1 ≤ k := hk; omega)).mono (fun k hk _ => by have hk2 : W.heap.size + 1 + 1 ≤ k := hk; omega), putX_E E9 (by omega) _ _⟩ (fun h0 h1 h2 h3 h4 h5 h6 h7 h8 h9 h10 h11 h12 => by simp [results, Try.results105, go_sem, h0, h1, h2, h3, h4, h5, h6, h7, h8, h9, h10, h11, h12, aggX])
end Go.Proofs.Ytcggiljlilbdfaa

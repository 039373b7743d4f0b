/-
 The document's Deep: how many trees lie in one another.
 A number that is written, read as a formula: plain mathematics.
 References as the document reads them, and that the code's reading is the same. Plain mathematics: no program in sight.
 A place is read and written: the contract of the laws' lives.
-/
import Derived.Test.YtffgidihaggpbaaGreatDoorQ32
import Derived.Test.YtffgidihaggpbaaGreatDoorQ30
import Derived.Test.YtffgidihaggpbaaGreatDoorQ7
import Derived.Test.YtffgidihaggpbaaGreatDoorQ12
namespace Go.Proofs.YtffgidihaggpbaaGreatDoor
open Go.RowKit
set_option maxHeartbeats 6000000

def maxD (f : T → Nat) : List T → Nat
 | [] => 0
 | x :: r => max (f x) (maxD f r)
def depT : Nat → T → Nat
 | 0, _ => 0
 | n + 1, t => if t.k = 6 ∨ t.k = 7 ∨ t.k = 8 then maxD (depT n) t.l + 1 else 1
theorem maxD_app (f : T → Nat) (l : List T) (x : T) : maxD f (l ++ [x]) = max (maxD f l) (f x) := by
 induction l with
 | nil => simp [maxD]
 | cons a r ih => simp only [List.cons_append, maxD, ih]; omega
theorem maxD_take (f : T → Nat) (l : List T) (j : Nat) (x : T) (h : l[j]? = some x) : maxD f (l.take (j + 1)) = max (maxD f (l.take j)) (f x) := by
 rw [List.take_add_one, h]; exact maxD_app f _ x
theorem maxD_le (f : T → Nat) (l : List T) (c : Nat) (h : ∀ x ∈ l, f x ≤ c) : maxD f l ≤ c := by
 induction l with
 | nil => simp [maxD]
 | cons a r ih =>
   have := h a (List.mem_cons_self ..)
   have := ih (fun x hx => h x (List.mem_cons_of_mem _ hx))
   simp only [maxD]; omega
theorem dep_le (n : Nat) (t : T) : depT n t ≤ n := by
 induction n generalizing t with
 | zero => exact Nat.le_refl _
 | succ n ih =>
   unfold depT
   split
   · have := maxD_le (depT n) t.l n (fun x _ => ih x); omega
   · omega
def DpC (K : FuncId) (n : Nat) (t : T) : Prop := ∀ (W : World) (P : Nat → Prop) (pp : Option Addr) (ln cl : Nat), IsL W P (.slice pp ln cl) t.l → Calls Tryz.prog K #[.agg #[.int .i64 t.k, .int .i64 t.n, .string (bs t.s), .int .i64 t.e, .int .i64 t.r.1, .int .i64 t.r.2.1, .bool t.r.2.2.1, .bool t.r.2.2.2, .int .i64 t.q.1, .int .i64 t.q.2.1, .bool t.q.2.2.1, .bool t.q.2.2.2, .slice pp ln cl]] W fun e w' => e = .returned (.int .i64 ((depT n t : Nat) : Int)) ∧ Ext W w'
set_option maxRecDepth 100000 in
theorem rdeep_leaf (n : Nat) (t : T) (h : ¬ (t.k = 6 ∨ t.k = 7 ∨ t.k = 8)) : DpC 7 (n + 1) t := by
 intro W P pp ln cl _
 have c1 := fun W => rparts_any t.k W
 rw [decide_eq_false h] at c1
 have HX : Hid (depT (n + 1) t = 1) := if_neg h
 clear h
 go_enter Tryz.func7, Tryz.ntmps7
 go_wp2_with fail
 go_loopw [3, 4] (fun nv iv wr => nv = .int .i64 0 ∧ iv = .int .i64 0 ∧ BlkX wr W.heap.size t (.slice pp ln cl) ∧ Ext W wr) (fun _ _ _ => 0)
 case atStart => exact ⟨rfl, rfl, blk13_top rfl (Ext.refl _), (Ext.refl _).alloc _⟩
 case round =>
   obtain ⟨rfl, rfl, hB, hE⟩ := hrel
   have HE : Hid (Ext W wr) := hE
   obtain ⟨qz, ⟨k0, k1, k2, k3, k4, k5, k6, k7, k8, k9, k10, k11, k12⟩, gz⟩ := hB
   clear hE gz
   go_wp2_with fail
   refine (c1 _).mono ?_
   rintro e w1 ⟨rfl, rfl⟩
   go_wp2_with fail
   go_ret
   exact ⟨ret_int (by rw [HX.out]; rfl), HE.out⟩
set_option maxRecDepth 100000 in
theorem rdeep_node (n : Nat) (hn : n ≤ 1000) (t : T) (h : t.k = 6 ∨ t.k = 7 ∨ t.k = 8) (hl : t.l.length ≤ 100000) (hx : ∀ x ∈ t.l, DpC 7 n x) : DpC 7 (n + 1) t := by
 intro W P pp ln cl hL
 have hln : ln = t.l.length := by
   obtain ⟨p, c, h1, _⟩ := hL.form
   cases h1; rfl
 have hl2 : ln ≤ 100000 := by omega
 have c1 := fun W => rparts_any t.k W
 rw [decide_eq_true h] at c1
 have HX : Hid (depT (n + 1) t = maxD (depT n) t.l + 1) := if_pos h
 have HI : Hid (IsL W P (.slice pp ln cl) t.l) := hL
 have HLN : Hid (ln = t.l.length) := hln
 have HXX : Hid (∀ x ∈ t.l, DpC 7 n x) := hx
 have HN : Hid (n ≤ 1000) := hn
 clear h hL hln hl hx hn
 go_enter Tryz.func7, Tryz.ntmps7
 go_wp2_with fail
 go_loopw [3, 4] (fun nv iv wr => ∃ j m : Nat, j ≤ ln ∧ nv = .int .i64 (m : Int) ∧ iv = .int .i64 (j : Int) ∧ m = maxD (depT n) (t.l.take j) ∧ m ≤ 1000 ∧ BlkX wr W.heap.size t (.slice pp ln cl) ∧ Ext W wr) (fun _ iv _ => ln - (intOf iv).toNat)
 case atStart => exact ⟨0, 0, Nat.zero_le _, rfl, rfl, rfl, by omega, blk13_top rfl (Ext.refl _), (Ext.refl _).alloc _⟩
 case round =>
   obtain ⟨j, m, hj, rfl, rfl, hm, hm2, hB, hE⟩ := hrel
   have HE : Hid (Ext W wr ∧ m = maxD (depT n) (t.l.take j)) := ⟨hE, hm⟩
   have HBX : Hid (BlkX wr W.heap.size t (.slice pp ln cl)) := hB
   obtain ⟨qz, ⟨k0, k1, k2, k3, k4, k5, k6, k7, k8, k9, k10, k11, k12⟩, gz⟩ := hB
   clear hE hm gz
   by_cases hlt : j < ln
   · have hltI : (j : Int) < (ln : Int) := by omega
     have hI := HI.out.ext HE.out.1
     obtain ⟨gb, off, x, lv, hpp, hx1, hA1, hgb, hA2, hLx, hce⟩ := hI.at (i := j) (by rw [← HLN.out]; exact hlt)
     clear hA1 hA2
     subst hpp
     obtain ⟨pp, cl', hlv, hcl⟩ := hLx.form
     obtain ⟨ln', hln'⟩ : ∃ ln', x.l.length = ln' := ⟨_, rfl⟩
     rw [hln'] at hlv
     subst hlv
     have HX1 : Hid (t.l[j]? = some x) := hx1
     have HC : Hid (∀ V, Ext wr V → Calls Tryz.prog 7 #[.agg #[.int .i64 x.k, .int .i64 x.n, .string (bs x.s), .int .i64 x.e, .int .i64 x.r.1, .int .i64 x.r.2.1, .bool x.r.2.2.1, .bool x.r.2.2.2, .int .i64 x.q.1, .int .i64 x.q.2.1, .bool x.q.2.2.1, .bool x.q.2.2.2, .slice pp ln' cl']] V fun e w' => e = .returned (.int .i64 ((depT n x : Nat) : Int)) ∧ Ext V w') := fun V e => HXX.out x (List.mem_of_getElem? hx1) V P pp ln' cl' (hLx.ext e)
     have HD : Hid (depT n x ≤ 1000) := by have := dep_le n x; have := HN.out; show _ ≤ _; omega
     obtain ⟨d, hd⟩ : ∃ d, depT n x = d := ⟨_, rfl⟩
     rw [hd] at HC HD
     have HDD : Hid (depT n x = d) := hd
     have hd2 := HD.out
     have e0 : wr.cell? ⟨gb, off + j * 13, none⟩ = some (.int .i64 x.k) := hce 0 _ rfl
     have e1 : wr.cell? ⟨gb, off + j * 13 + 1, none⟩ = some (.int .i64 x.n) := hce 1 _ rfl
     have e2 : wr.cell? ⟨gb, off + j * 13 + 2, none⟩ = some (.string (bs x.s)) := hce 2 _ rfl
     have e3 : wr.cell? ⟨gb, off + j * 13 + 3, none⟩ = some (.int .i64 x.e) := hce 3 _ rfl
     have e4 : wr.cell? ⟨gb, off + j * 13 + 4, none⟩ = some (.int .i64 x.r.1) := hce 4 _ rfl
     have e5 : wr.cell? ⟨gb, off + j * 13 + 5, none⟩ = some (.int .i64 x.r.2.1) := hce 5 _ rfl
     have e6 : wr.cell? ⟨gb, off + j * 13 + 6, none⟩ = some (.bool x.r.2.2.1) := hce 6 _ rfl
     have e7 : wr.cell? ⟨gb, off + j * 13 + 7, none⟩ = some (.bool x.r.2.2.2) := hce 7 _ rfl
     have e8 : wr.cell? ⟨gb, off + j * 13 + 8, none⟩ = some (.int .i64 x.q.1) := hce 8 _ rfl
     have e9 : wr.cell? ⟨gb, off + j * 13 + 9, none⟩ = some (.int .i64 x.q.2.1) := hce 9 _ rfl
     have e10 : wr.cell? ⟨gb, off + j * 13 + 10, none⟩ = some (.bool x.q.2.2.1) := hce 10 _ rfl
     have e11 : wr.cell? ⟨gb, off + j * 13 + 11, none⟩ = some (.bool x.q.2.2.2) := hce 11 _ rfl
     have e12 : wr.cell? ⟨gb, off + j * 13 + 12, none⟩ = some (.slice pp ln' cl') := hce 12 _ rfl
     clear hI hx1 hLx hce hcl hln' hd
     go_wp2_with fail
     refine (c1 _).mono ?_
     rintro e w0 ⟨rfl, rfl⟩
     go_wp2_with fail
     refine (HC.out _ (Ext.refl _)).mono ?_
     rintro e w1 ⟨rfl, E1⟩
     have HE1 : Hid (Ext W w1 ∧ BlkX w1 W.heap.size t (.slice (some ⟨gb, off, none⟩) ln cl)) := ⟨HE.out.1.trans E1, HBX.out.ext E1⟩
     clear E1 k0 k1 k2 k3 k4 k5 k6 k7 k8 k9 k10 k11 k12 e0 e1 e2 e3 e4 e5 e6 e7 e8 e9 e10 e11 e12
     by_cases hgt : (m : Int) < (d : Int)
     · go_wp2_with fail
       go_roundw
       case rel => exact ⟨j + 1, d, by omega, rfl, by go_num, by rw [maxD_take _ _ _ _ HX1.out, ← HE.out.2, HDD.out]; omega, by omega, HE1.out.2, HE1.out.1⟩
       case measure => show ln - ((j : Int) + 1).toNat < ln - ((j : Int)).toNat; omega
     · go_wp2_with fail
       go_roundw
       case rel => exact ⟨j + 1, m, by omega, rfl, by go_num, by rw [maxD_take _ _ _ _ HX1.out, ← HE.out.2, HDD.out]; omega, by omega, HE1.out.2, HE1.out.1⟩
       case measure => show ln - ((j : Int) + 1).toNat < ln - ((j : Int)).toNat; omega
   · have hltI : ¬ (j : Int) < (ln : Int) := by omega
     have HT : Hid (t.l.take j = t.l) := by show _ = _; exact List.take_of_length_le (by have := HLN.out; omega)
     go_wp2_with fail
     refine (c1 _).mono ?_
     rintro e w0 ⟨rfl, rfl⟩
     go_wp2_with fail
     go_ret
     refine ⟨ret_int ?_, HE.out.1⟩
     rw [HX.out, ← HT.out, ← HE.out.2]; omega
theorem rdeep_any (n : Nat) (hn : n ≤ 1000) (t : T) (h : Hr n t) : DpC 7 n t := by
 induction n generalizing t with
 | zero => cases h
 | succ n ih =>
   by_cases k : t.k = 6 ∨ t.k = 7 ∨ t.k = 8
   · exact rdeep_node n (by omega) t k h.1 (fun x hx => ih (by omega) x (h.2 x hx))
   · exact rdeep_leaf n t k

open Go.RowKit

theorem runD_app (A x : List UInt8) (h : A.all dgB = true) : run dgB (A ++ x) = A.length + run dgB x := by
 induction A with
 | nil => simp
 | cons c r ih =>
   simp only [List.all_cons, Bool.and_eq_true] at h
   rw [List.cons_append, run_cons, if_pos h.1, ih h.2, List.length_cons]; omega
theorem runD_all (A : List UInt8) (h : A.all dgB = true) : run dgB A = A.length := by
 have := runD_app A [] h
 rw [List.append_nil, run_nil] at this
 exact this
theorem numE_dotD (A B : List UInt8) (hA : A.all dgB = true) (hB : B.all dgB = true) (h1 : 1 ≤ B.length) : numE (A ++ 46 :: B) = (A ++ 46 :: B).length := by
 have hr : run dgB (A ++ 46 :: B) = A.length := by rw [runD_app A _ hA, run_cons, if_neg (by decide)]; rfl
 unfold numE
 rw [hr]
 have h2 : (A ++ 46 :: B)[A.length]? = some 46 := by simp
 have h3 : (A ++ 46 :: B).drop (A.length + 1) = B := by rw [← List.drop_drop, List.drop_left]; rfl
 rw [h3, runD_all B hB, if_pos ⟨h2, h1⟩]
 simp; omega
theorem numE_bare (A : List UInt8) (hA : A.all dgB = true) : numE A = A.length := by
 unfold numE
 rw [runD_all A hA, if_neg]
 simp
theorem body_numE (n : Nat) : numE (bodyL n) = (bodyL n).length := by
 unfold bodyL
 split
 · rw [List.append_nil]; exact numE_bare _ (dec_all _)
 · rename_i hf
   exact numE_dotD _ _ (dec_all _) (frac_all _ (Nat.mod_lt _ (by decide))) (by
     rcases Nat.eq_zero_or_pos (fracL (n % 10000)).length with h | h
     · exact absurd (List.length_eq_zero_iff.1 h) hf
     · exact h)
theorem body_head (n : Nat) : ∃ c r, bodyL n = c :: r ∧ dgB c = true := by
 have h1 : (bodyL n).length ≠ 0 := by
   have : printL 0 ≠ [] := printL_ne 0
   intro h
   have h2 := List.length_eq_zero_iff.1 h
   unfold bodyL at h2
   have h3 := (List.append_eq_nil_iff.1 h2).1
   unfold Lib.decDigits at h3
   split at h3 <;> simp at h3
 match hb : bodyL n with
 | [] => rw [hb] at h1; simp at h1
 | c :: r =>
   refine ⟨c, r, rfl, ?_⟩
   have ha := dec_all (n / 10000)
   unfold bodyL at hb
   match hd : Lib.decDigits (n / 10000) with
   | [] => unfold Lib.decDigits at hd; split at hd <;> simp at hd
   | d :: s =>
     rw [hd] at hb ha
     rw [List.cons_append] at hb
     cases hb
     simp only [List.all_cons, Bool.and_eq_true] at ha
     exact ha.1
theorem dg_ne {c : UInt8} (h : dgB c = true) : c ≠ 32 := by
 intro e; subst e; exact absurd h (by decide)
theorem body_nxt (n : Nat) (hn : n ≤ 9223372036854775807) : nxt (bodyL n) = .ok (0, [], (n : Int), 0, (bodyL n).length) := by
 obtain ⟨c, r, hb, hc⟩ := body_head n
 have h1 : nxt (bodyL n) = numR (bodyL n) := by
   unfold nxt
   rw [hb]
   show (if dgB c then numR (c :: r) else _) = _
   rw [if_pos hc]
 rw [h1]
 unfold numR
 rw [body_numE n, List.take_length]
 have hcan : canB (n : Int) = true := by unfold canB; simp <;> omega
 have hp : printL (n : Int) = bodyL n := by
   unfold printL
   rw [if_pos hcan, if_neg (by omega)]
   rfl
 obtain ⟨q1, q2⟩ := read_back (n : Int) hcan ⟨by omega, by omega⟩
 rw [hp] at q1 q2
 rw [q1, q2]
 rfl

open Go.RowKit

theorem tw_of {p : UInt8 → Bool} {l A B : List UInt8} (e : A ++ B = l) (hA : A.all p = true) (hB : ∀ c, B.head? = some c → p c = false) : l.takeWhile p = A ∧ l.dropWhile p = B := by
 subst e
 induction A with
 | nil =>
   cases B with
   | nil => exact ⟨rfl, rfl⟩
   | cons c B =>
     have := hB c rfl
     constructor
     · show (c :: B).takeWhile p = []; rw [List.takeWhile_cons, this]; rfl
     · show (c :: B).dropWhile p = c :: B; rw [List.dropWhile_cons, this]; rfl
 | cons a A ih =>
   rw [List.all_cons, Bool.and_eq_true] at hA
   obtain ⟨i1, i2⟩ := ih hA.2
   constructor
   · show (a :: (A ++ B)).takeWhile p = a :: A; rw [List.takeWhile_cons, hA.1, i1]; rfl
   · show (a :: (A ++ B)).dropWhile p = B; rw [List.dropWhile_cons, hA.1, if_pos rfl, i2]
theorem dw_head {p : UInt8 → Bool} (l : List UInt8) (c : UInt8) (h : (l.dropWhile p).head? = some c) : p c = false := by
 have := List.head?_dropWhile_not p l
 rw [h] at this
 simpa using this
/-- The letters; what follows; its digits. -/
def nmR (l : List UInt8) : List UInt8 := (undl l).takeWhile upB
def rsR (l : List UInt8) : List UInt8 := (undl l).dropWhile upB
def dgR (l : List UInt8) : List UInt8 := undl (rsR l)
def okR (l : List UInt8) : Bool := rowOk (dgR l) && inB (val (dgR l)) (colN (nmR l))
theorem lt_sgn {c : UInt8} (h : upB c = true) : sgns.contains c = false := by
 rw [sgn_eq]
 unfold upB at h; simp at h
 have : (c == 36) = false := beq_eq_false_iff_ne.2 fun e => by
   rw [e] at h; have : (36 : UInt8).toNat = 36 := rfl; omega
 rw [this]; unfold dgB; simp; omega
theorem sgn_lt {c : UInt8} (h : sgns.contains c = true) : upB c = false := by
 cases g : upB c with
 | false => rfl
 | true => rw [lt_sgn g] at h; cases h
theorem par_one (l : List UInt8) (h : okP l = true) : nmR l = nmL l ∧ rsR l = rsL l ∧ okR l = true ∧ rowP l = val (dgR l) := by
 have hin := h
 unfold okP inB at hin
 simp at hin
 have hc : colN (nmL l) ≠ 0 := by unfold colP at hin; omega
 have hA := colN_letters _ hc
 have e : nmL l ++ rsL l = undl l := List.takeWhile_append_dropWhile
 have hB : ∀ c, (rsL l).head? = some c → upB c = false := fun c hc => by
   have := dw_head (p := fun c => !sgns.contains c) (undl l) c hc
   exact sgn_lt (by simpa using this)
 obtain ⟨t1, t2⟩ := tw_of e hA hB
 have n1 : nmR l = nmL l := t1
 have n2 : rsR l = rsL l := t2
 obtain ⟨o1, o2⟩ := row_in (undl (rsL l)) (by unfold rowP at hin; omega) (by unfold rowP at hin; omega)
 have n3 : dgR l = undl (rsL l) := by unfold dgR; rw [n2]
 refine ⟨n1, n2, ?_, ?_⟩
 · unfold okR
   rw [n3, n1, o1, o2]
   exact h
 · rw [n3, o2]; rfl
theorem par_two (l : List UInt8) (h : okR l = true) : okP l = true := by
 unfold okR at h
 rw [Bool.and_eq_true] at h
 obtain ⟨h1, h2⟩ := h
 have hin := h2
 unfold inB at hin
 simp at hin
 have hA : (nmR l).all (fun c => !sgns.contains c) = true := by
   rw [List.all_eq_true]
   intro c hc
   have := List.all_eq_true.1 (List.all_takeWhile (p := upB) (l := undl l)) c hc
   rw [lt_sgn this]; rfl
 have e : nmR l ++ rsR l = undl l := List.takeWhile_append_dropWhile
 have hne : dgR l ≠ [] := by
   intro k; rw [k] at hin
   have : val ([] : List UInt8) = 0 := rfl
   omega
 have hB : ∀ c, (rsR l).head? = some c → (!sgns.contains c) = false := by
   intro c hc
   rw [sgn_eq]
   by_cases g : c = 36
   · subst g; rfl
   · have hd : dlB (rsR l) = false := by unfold dlB; rw [hc]; simpa using g
     have e2 : dgR l = rsR l := by unfold dgR undl; rw [hd]; rfl
     unfold rowOk at h1
     rw [Bool.and_eq_true, Bool.and_eq_true, e2] at h1
     have := List.all_eq_true.1 h1.1.1 c (List.mem_of_mem_head? (by rw [hc]; rfl))
     rw [this]; simp
 obtain ⟨t1, t2⟩ := tw_of e hA hB
 have n1 : nmL l = nmR l := t1
 have n2 : rsL l = rsR l := t2
 have hr := row_ok (dgR l) h1 hne
 unfold okP rowP colP
 rw [n1, n2]
 show inB (rowC (dgR l)) _ = true
 rw [hr]; exact h2
theorem ok_eq (l : List UInt8) : okP l = okR l := by
 cases h : okR l with
 | true => exact par_two l h
 | false =>
   cases g : okP l with
   | false => rfl
   | true => rw [(par_one l g).2.2.1] at h; cases h
/-- The document's answer. -/
theorem prV_R (l : List UInt8) : prV l = if okR l then refD (val (dgR l)) (colN (nmR l)) (dlB (rsR l)) (dlB l) else refD 0 0 false false := by
 unfold prV
 rw [← ok_eq]
 cases g : okP l with
 | false => rfl
 | true =>
   obtain ⟨n1, n2, _, n4⟩ := par_one l g
   rw [if_pos rfl, if_pos rfl, n4, n1, n2]; rfl

open Go.RowKit
set_option maxHeartbeats 1000000

end Go.Proofs.YtffgidihaggpbaaGreatDoor

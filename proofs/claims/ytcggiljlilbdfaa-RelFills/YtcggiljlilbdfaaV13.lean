/-
 References as the document reads them, and that the code's reading is the same. Plain mathematics: no program in sight.
 A place is read and written: the contract of the laws' lives.
 Rectangles as plain data; the contracts of Area, Has (package coord's and the document's), Can, Least, Great.
 The contracts of Rect (package coord's and the document's).
-/
import Derived.Test.YtcggiljlilbdfaaV12
import Derived.Deep.CutBlock
import Derived.Deep.DeepCutAuto
namespace Go.Proofs.Ytcggiljlilbdfaa
open Go.RowKit

theorem tw_of {p : UInt8 → Bool} {l A B : List UInt8} (e : A ++ B = l) (hA : A.all p = true) (hB : ∀ c, B.head? = some c → p c = false) : l.takeWhile p = A ∧ l.dropWhile p = B := by
 subst e
 induction A with
 | nil =>
   cases B with
   | nil => exact ⟨rfl, rfl⟩
   | cons c B =>
     have := hB c rfl
     constructor
     · show (c :: B).takeWhile p = []; rw [List.takeWhile_cons, this]; rfl
     · show (c :: B).dropWhile p = c :: B; rw [List.dropWhile_cons, this]; rfl
 | cons a A ih =>
   rw [List.all_cons, Bool.and_eq_true] at hA
   obtain ⟨i1, i2⟩ := ih hA.2
   constructor
   · show (a :: (A ++ B)).takeWhile p = a :: A; rw [List.takeWhile_cons, hA.1, i1]; rfl
   · show (a :: (A ++ B)).dropWhile p = B; rw [List.dropWhile_cons, hA.1, if_pos rfl, i2]
theorem dw_head {p : UInt8 → Bool} (l : List UInt8) (c : UInt8) (h : (l.dropWhile p).head? = some c) : p c = false := by
 have := List.head?_dropWhile_not p l
 rw [h] at this
 simpa using this
/-- The letters; what follows; its digits. -/
def nmR (l : List UInt8) : List UInt8 := (undl l).takeWhile upB
def rsR (l : List UInt8) : List UInt8 := (undl l).dropWhile upB
def dgR (l : List UInt8) : List UInt8 := undl (rsR l)
def okR (l : List UInt8) : Bool := rowOk (dgR l) && inB (val (dgR l)) (colN (nmR l))
theorem lt_sgn {c : UInt8} (h : upB c = true) : sgns.contains c = false := by
 rw [sgn_eq]
 unfold upB at h; simp at h
 have : (c == 36) = false := beq_eq_false_iff_ne.2 fun e => by
   rw [e] at h; have : (36 : UInt8).toNat = 36 := rfl; omega
 rw [this]; unfold dgB; simp; omega
theorem sgn_lt {c : UInt8} (h : sgns.contains c = true) : upB c = false := by
 cases g : upB c with
 | false => rfl
 | true => rw [lt_sgn g] at h; cases h
theorem par_one (l : List UInt8) (h : okP l = true) : nmR l = nmL l ∧ rsR l = rsL l ∧ okR l = true ∧ rowP l = val (dgR l) := by
 have hin := h
 unfold okP inB at hin
 simp at hin
 have hc : colN (nmL l) ≠ 0 := by unfold colP at hin; omega
 have hA := colN_letters _ hc
 have e : nmL l ++ rsL l = undl l := List.takeWhile_append_dropWhile
 have hB : ∀ c, (rsL l).head? = some c → upB c = false := fun c hc => by
   have := dw_head (p := fun c => !sgns.contains c) (undl l) c hc
   exact sgn_lt (by simpa using this)
 obtain ⟨t1, t2⟩ := tw_of e hA hB
 have n1 : nmR l = nmL l := t1
 have n2 : rsR l = rsL l := t2
 obtain ⟨o1, o2⟩ := row_in (undl (rsL l)) (by unfold rowP at hin; omega) (by unfold rowP at hin; omega)
 have n3 : dgR l = undl (rsL l) := by unfold dgR; rw [n2]
 refine ⟨n1, n2, ?_, ?_⟩
 · unfold okR
   rw [n3, n1, o1, o2]
   exact h
 · rw [n3, o2]; rfl
theorem par_two (l : List UInt8) (h : okR l = true) : okP l = true := by
 unfold okR at h
 rw [Bool.and_eq_true] at h
 obtain ⟨h1, h2⟩ := h
 have hin := h2
 unfold inB at hin
 simp at hin
 have hA : (nmR l).all (fun c => !sgns.contains c) = true := by
   rw [List.all_eq_true]
   intro c hc
   have := List.all_eq_true.1 (List.all_takeWhile (p := upB) (l := undl l)) c hc
   rw [lt_sgn this]; rfl
 have e : nmR l ++ rsR l = undl l := List.takeWhile_append_dropWhile
 have hne : dgR l ≠ [] := by
   intro k; rw [k] at hin
   have : val ([] : List UInt8) = 0 := rfl
   omega
 have hB : ∀ c, (rsR l).head? = some c → (!sgns.contains c) = false := by
   intro c hc
   rw [sgn_eq]
   by_cases g : c = 36
   · subst g; rfl
   · have hd : dlB (rsR l) = false := by unfold dlB; rw [hc]; simpa using g
     have e2 : dgR l = rsR l := by unfold dgR undl; rw [hd]; rfl
     unfold rowOk at h1
     rw [Bool.and_eq_true, Bool.and_eq_true, e2] at h1
     have := List.all_eq_true.1 h1.1.1 c (List.mem_of_mem_head? (by rw [hc]; rfl))
     rw [this]; simp
 obtain ⟨t1, t2⟩ := tw_of e hA hB
 have n1 : nmL l = nmR l := t1
 have n2 : rsL l = rsR l := t2
 have hr := row_ok (dgR l) h1 hne
 unfold okP rowP colP
 rw [n1, n2]
 show inB (rowC (dgR l)) _ = true
 rw [hr]; exact h2
theorem ok_eq (l : List UInt8) : okP l = okR l := by
 cases h : okR l with
 | true => exact par_two l h
 | false =>
   cases g : okP l with
   | false => rfl
   | true => rw [(par_one l g).2.2.1] at h; cases h
/-- The document's answer. -/
theorem prV_R (l : List UInt8) : prV l = if okR l then refD (val (dgR l)) (colN (nmR l)) (dlB (rsR l)) (dlB l) else refD 0 0 false false := by
 unfold prV
 rw [← ok_eq]
 cases g : okP l with
 | false => rfl
 | true =>
   obtain ⟨n1, n2, _, n4⟩ := par_one l g
   rw [if_pos rfl, if_pos rfl, n4, n1, n2]; rfl

open Go.RowKit
set_option maxHeartbeats 1000000

open Go.RowKit
set_option maxHeartbeats 1000000

def mnI (a b : Int) : Int := if a < b then a else b
def mxI (a b : Int) : Int := if b < a then a else b
def rectD (p q u v : Int) : Value := .agg #[.int .i64 p, .int .i64 q, .int .i64 u, .int .i64 v]

open Go.RowKit
set_option maxHeartbeats 1000000

/-- Two arguments in their blocks, a result in a third, whatever it holds. -/
def Three (w : World) (x0 x1 x2 x3 y0 y1 y2 y3 : Value) (W : World) : Prop := Ext w W ∧ Blk W w.heap.size x0 x1 x2 x3 ∧ Blk W (w.heap.size + 1) y0 y1 y2 y3 ∧ ∃ z0 z1 z2 z3, Blk W (w.heap.size + 1 + 1) z0 z1 z2 z3
theorem Three.ext {w W W' : World} {x0 x1 x2 x3 y0 y1 y2 y3 : Value} (h : Three w x0 x1 x2 x3 y0 y1 y2 y3 W) (e : Ext W W') : Three w x0 x1 x2 x3 y0 y1 y2 y3 W' := by
 obtain ⟨a, b, c, z0, z1, z2, z3, d⟩ := h
 exact ⟨a.trans e, b.ext e, c.ext e, z0, z1, z2, z3, d.ext e⟩
theorem Three.drew {w W : World} {x0 x1 x2 x3 y0 y1 y2 y3 : Value} (h : Three w x0 x1 x2 x3 y0 y1 y2 y3 W) : Three w x0 x1 x2 x3 y0 y1 y2 y3 W.drew := h.ext (Ext.drew (Ext.refl _))
theorem Three.drewN {w W : World} {x0 x1 x2 x3 y0 y1 y2 y3 : Value} (h : Three w x0 x1 x2 x3 y0 y1 y2 y3 W) (n : Nat) : Three w x0 x1 x2 x3 y0 y1 y2 y3 (W.drewN n) := h.ext (Ext.drewN (Ext.refl _) n)
theorem Three.put {w W : World} {x0 x1 x2 x3 y0 y1 y2 y3 : Value} (h : Three w x0 x1 x2 x3 y0 y1 y2 y3 W) (v0 v1 v2 v3 : Value) : Three w x0 x1 x2 x3 y0 y1 y2 y3 ((((W.setCell ⟨w.heap.size + 1 + 1, 0, none⟩ v0).setCell ⟨w.heap.size + 1 + 1, 1, none⟩ v1).setCell ⟨w.heap.size + 1 + 1, 2, none⟩ v2).setCell ⟨w.heap.size + 1 + 1, 3, none⟩ v3) := by
 obtain ⟨a, b, c, z0, z1, z2, z3, d⟩ := h
 exact ⟨(((a.setCell (by simp; omega) _).setCell (by simp; omega) _).setCell (by simp; omega) _).setCell (by simp; omega) _, b.far (by omega) _ _ _ _, c.far (by omega) _ _ _ _, _, _, _, _, d.set _ _ _ _⟩
def rcB (a0 a1 b0 b1 : Int) : Bool := inB a0 a1 && inB b0 b1
def rcD (a0 a1 b0 b1 : Int) : Value := if rcB a0 a1 b0 b1 then rectD (mnI a0 b0) (mnI a1 b1) (mxI a0 b0) (mxI a1 b1) else rectD 0 0 0 0
theorem mn_eq (a b : Int) : min a b = mnI a b := by unfold mnI; rw [Int.min_def]; split <;> split <;> omega
theorem mx_eq (a b : Int) : max a b = mxI a b := by unfold mxI; rw [Int.max_def]; split <;> split <;> omega
/-- Three blocks: two arguments, the result. -/
theorem three {w : World} {x0 x1 x2 x3 y0 y1 y2 y3 z0 z1 z2 z3 : Value} {S T U : TypeId} {W : World} (h : W = ((w.alloc (.cells #[x0, x1, x2, x3] S)).alloc (.cells #[y0, y1, y2, y3] T)).alloc (.cells #[z0, z1, z2, z3] U)) :
   Ext w W ∧ Blk W w.heap.size x0 x1 x2 x3 ∧ Blk W (w.heap.size + 1) y0 y1 y2 y3 ∧ Blk W (w.heap.size + 1 + 1) z0 z1 z2 z3 := by
 subst h
 exact ⟨(((Ext.refl _).alloc _).alloc _).alloc _, ((blk_top rfl (Ext.refl _)).al _).al _, (blk_top (by simp) (Ext.refl _)).al _, blk_top (by simp) (Ext.refl _)⟩

set_option maxRecDepth 100000 in
theorem rect_any (a0 a1 b0 b1 : Int) (ax ay bx by_ : Bool) (w : World) : Calls Try.prog 82 #[.agg #[.int .i64 a0, .int .i64 a1, .bool ax, .bool ay], .agg #[.int .i64 b0, .int .i64 b1, .bool bx, .bool by_]] w fun e w' => e = .returned (rcD a0 a1 b0 b1) ∧ Ext w w' := by
 have c1 := fun W => in_any a0 a1 W
 have c2 := fun W => in_any b0 b1 W
 have HD : Hid (rcD a0 a1 b0 b1 = if inB a0 a1 && inB b0 b1 then rectD (mnI a0 b0) (mnI a1 b1) (mxI a0 b0) (mxI a1 b1) else rectD 0 0 0 0) := rfl
 obtain ⟨W0, hW0⟩ : ∃ W0, W0 = ((w.alloc (.cells #[.int .i64 a0, .int .i64 a1, .bool ax, .bool ay] 23)).alloc (.cells #[.int .i64 b0, .int .i64 b1, .bool bx, .bool by_] 23)).alloc (.cells #[.int .i64 0, .int .i64 0, .int .i64 0, .int .i64 0] 40) := ⟨_, rfl⟩
 obtain ⟨X0, BA, BB, BZ⟩ := three hW0
 have HBZ : Hid (Blk W0 (w.heap.size + 1 + 1) (.int .i64 0) (.int .i64 0) (.int .i64 0) (.int .i64 0)) := BZ
 obtain ⟨_, ⟨k0, k1, k2, k3⟩, _⟩ := BA
 obtain ⟨_, ⟨m0, m1, m2, m3⟩, _⟩ := BB
 obtain ⟨_, ⟨n0, n1, n2, n3⟩, f0, f1, f2, f3⟩ := BZ
 cases g1 : inB a0 a1
 · rw [g1] at c1 HD
   go_enter Try.func82, Try.ntmps82
   go_wp2_with fail
   rw [← hW0]
   clear hW0
   refine (c1 _).mono ?_
   rintro e w1 ⟨rfl, rfl⟩
   go_wp2_with fail
   exact fin4 n0 n1 n2 n3 rfl (by omega) X0 (fun W g0 g1 g2 g3 => by simp [results, Try.results82, go_sem, g0, g1, g2, g3]) (fun W h => ⟨by rw [HD.out]; rfl, h⟩)
 cases g2 : inB b0 b1
 · rw [g1] at c1 HD
   rw [g2] at c2 HD
   go_enter Try.func82, Try.ntmps82
   go_wp2_with fail
   rw [← hW0]
   clear hW0
   refine (c1 _).mono ?_
   rintro e w1 ⟨rfl, rfl⟩
   go_wp2_with fail
   refine (c2 _).mono ?_
   rintro e w2 ⟨rfl, rfl⟩
   go_wp2_with fail
   exact fin4 n0 n1 n2 n3 rfl (by omega) X0 (fun W g0 g1 g2 g3 => by simp [results, Try.results82, go_sem, g0, g1, g2, g3]) (fun W h => ⟨by rw [HD.out]; rfl, h⟩)
 rw [g1] at c1 HD
 rw [g2] at c2 HD
 have HD2 : Hid (rcD a0 a1 b0 b1 = rectD (mnI a0 b0) (mnI a1 b1) (mxI a0 b0) (mxI a1 b1)) := HD.out
 clear HD
 go_enter Try.func82, Try.ntmps82
 go_wp2_with fail
 rw [← hW0]
 clear hW0
 refine (c1 _).mono ?_
 rintro e w1 ⟨rfl, rfl⟩
 go_wp2_with fail
 refine (c2 _).mono ?_
 rintro e w2 ⟨rfl, rfl⟩
 go_wp2_with fail
 exact fin4 n0 n1 n2 n3 rfl (by omega) X0 (fun W g0 g1 g2 g3 => by simp [results, Try.results82, go_sem, g0, g1, g2, g3]) (fun W h => ⟨by rw [HD2.out, mn_eq, mn_eq, mx_eq, mx_eq]; rfl, h⟩)

end Go.Proofs.Ytcggiljlilbdfaa

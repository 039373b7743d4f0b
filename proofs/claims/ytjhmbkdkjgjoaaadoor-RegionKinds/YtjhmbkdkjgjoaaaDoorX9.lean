/-
 Which trees are well made, and how deep they are. Plain mathematics; what it is that a function of trees answers.
 The contract of package coord's Parse.
 How references are written: the contracts of package coord's and the document's Print.
 Trees as arguments: what is read as a tree is one.
 Trees as texts. Plain mathematics: no program in sight.
 The document's Small: a tree with not too many parts, and not too deep.
 A struct of 2 fields in a block of its own: laid, kept, stored; the end of a function whose result lies in one.
 The contracts of the reader's small steps: here, isSign, take, pass.
-/
import Derived.Test.YtjhmbkdkjgjoaaaDoorX8
import Derived.Test.YtjhmbkdkjgjoaaaDoorX7
import Derived.Deep.CutBlock
import Derived.Deep.DeepCutAuto
import Derived.Lib.SmallJoins
import Derived.Deep.Slices
import Derived.Test.YtjhmbkdkjgjoaaaDoorX3
import Derived.Test.YtjhmbkdkjgjoaaaDoorX1
namespace Go.Proofs.YtjhmbkdkjgjoaaaDoor
open Go.RowKit

def wellT : Nat → T → Bool
 | 0, _ => false
 | n + 1, t => if t.k = 0 then decide (0 ≤ t.n) else if t.k = 1 then decide (t.s.length ≤ 300) else if t.k = 2 then (t.n == 0 || t.n == 1) else if t.k = 3 then (decide (1 ≤ t.e) && decide (t.e ≤ 5)) else if t.k = 4 then inB t.r.1 t.r.2.1 else
   if t.k = 6 then (t.l.length == 1 && t.l.all (wellT n)) else if t.k = 7 then (bnd t.s != 0 && t.l.length == 2 && t.l.all (wellT n)) else
   if t.k = 8 then ((kno t.s).isSome && decide (knA t.s ≤ t.l.length) && decide ((t.l.length : Int) ≤ knB t.s) && t.l.all (fun x => if x.k = 5 then inB x.r.1 x.r.2.1 && inB x.q.1 x.q.2.1 else wellT n x)) else false
/-- Not deeper than n, and with not too many parts. -/
def Hr : Nat → T → Prop
 | 0, _ => False
 | n + 1, t => t.l.length ≤ 100000 ∧ ∀ x ∈ t.l, Hr n x

open Go.RowKit
set_option maxHeartbeats 1000000

theorem ret_ref {x y : Value} {a b : Bool} (h : x = y) (g : a = b) : Ending.returned (.tuple #[x, .bool a]) = .returned (.tuple #[y, .bool b]) := by rw [h, g]

open Go.RowKit
set_option maxHeartbeats 1000000

/-- A reference's text. -/
def printR (r c : Int) (ar ac : Bool) : List UInt8 := if inB r c then signL ac ++ nameL c ++ signL ar ++ Lib.itoa r else []
theorem in_bd {r c : Int} (h : inB r c = true) : 1 ≤ r ∧ r ≤ 1000 ∧ 1 ≤ c ∧ c ≤ 52 := by
 unfold inB at h; simp at h; omega
theorem name_sz (c : Int) : (⟨(nameL c).toArray⟩ : ByteArray).size ≤ 2 := by rw [← size_list]; exact name_len c
theorem row_sz (r : Int) (h1 : 1 ≤ r) (h2 : r ≤ 1000) : (⟨(Lib.itoa r).toArray⟩ : ByteArray).size ≤ 4 := by
 obtain ⟨n, rfl⟩ : ∃ n : Nat, r = n := ⟨r.toNat, by omega⟩
 rw [itoa_nat, ← size_list]; exact dec_len4 n (by omega)

set_option maxRecDepth 100000 in
theorem rprint6_any (r c : Int) (ar ac : Bool) (hr : I64 r) (hc : I64 c) (w : World) :
   Calls Tryd.prog 43 #[.agg #[.int .i64 r, .int .i64 c, .bool ar, .bool ac]] w fun e w' => e = .returned (.string ⟨(printR r c ar ac).toArray⟩) ∧ Ext w w' := by
 have c0 := fun W => rin_any r c W
 have HP : Hid (printR r c ar ac = if inB r c then signL ac ++ nameL c ++ signL ar ++ Lib.itoa r else []) := rfl
 obtain ⟨W0, hW0⟩ : ∃ W0, W0 = w.alloc (.cells #[.int .i64 r, .int .i64 c, .bool ar, .bool ac] 31) := ⟨_, rfl⟩
 have XW : Ext w W0 := by rw [hW0]; exact (Ext.refl _).alloc _
 have B0 : Blk W0 w.heap.size (.int .i64 r) (.int .i64 c) (.bool ar) (.bool ac) := by rw [hW0]; exact blk_top rfl (Ext.refl _)
 have mkS : Hid (∀ W, Ext W0 W → (W.cell? ⟨w.heap.size, 0, none⟩ = some (.int .i64 r) ∧ W.cell? ⟨w.heap.size, 1, none⟩ = some (.int .i64 c) ∧ W.cell? ⟨w.heap.size, 2, none⟩ = some (.bool ar) ∧ W.cell? ⟨w.heap.size, 3, none⟩ = some (.bool ac)) ∧ Ext W0 W) := by
   intro W E
   exact ⟨(B0.ext E).2.1, E⟩
 cases hin : inB r c
 · rw [hin] at c0 HP
   have HP' : Hid (printR r c ar ac = []) := HP.out
   clear HP mkS B0
   go_enter Tryd.func43, Tryd.ntmps43
   go_wp2_with fail
   refine (c0 _).mono ?_
   rintro e w1 ⟨rfl, rfl⟩
   go_wp2_with fail
   go_ret
   exact ⟨ret_s (by rw [HP'.out]), (Ext.refl _).alloc _⟩
 · obtain ⟨r1, r2, d1, d2⟩ := in_bd hin
   rw [hin] at c0 HP
   have HP' : Hid (printR r c ar ac = signL ac ++ nameL c ++ signL ar ++ Lib.itoa r) := HP.out
   have cN := fun W => rcolname_any c hc W
   have cD := fun W => rdigits_any r hr W
   have zN := name_sz c
   have zD := row_sz r r1 r2
   have HN : Hid ((⟨(nameL c).toArray⟩ : ByteArray).data.toList = nameL c) := rfl
   have HD : Hid ((⟨(Lib.itoa r).toArray⟩ : ByteArray).data.toList = Lib.itoa r) := rfl
   generalize (⟨(nameL c).toArray⟩ : ByteArray) = N at cN zN HN
   generalize (⟨(Lib.itoa r).toArray⟩ : ByteArray) = D at cD zD HD
   clear HP hin r1 r2 d1 d2 B0
   obtain ⟨A, hA⟩ : ∃ A : ByteArray, (⟨#[36]⟩ : ByteArray) = A := ⟨_, rfl⟩
   obtain ⟨B, hB⟩ : ∃ B : ByteArray, (⟨#[]⟩ : ByteArray) = B := ⟨_, rfl⟩
   have zA : A.size = 1 := by rw [← hA]; rfl
   have zB : B.size = 0 := by rw [← hB]; rfl
   have HA : Hid (A.data.toList = [36]) := by show _ = _; rw [← hA]
   have HB : Hid (B.data.toList = []) := by show _ = _; rw [← hB]
   cases ac <;> cases ar
   · have n1 : ¬ 9223372036854775807 < B.size + N.size := by omega
     have n2 : ¬ 9223372036854775807 < B.size + N.size + B.size := by omega
     have n3 : ¬ 9223372036854775807 < B.size + N.size + B.size + D.size := by omega
     clear zA zB
     go_enter Tryd.func43, Tryd.ntmps43
     go_wp2_with fail
     rw [← hW0]
     clear hW0
     refine (c0 _).mono ?_
     rintro e w1 ⟨rfl, rfl⟩
     have B0 := mkS.out w1 (Ext.refl _)
     obtain ⟨⟨k0, k1, k2, k3⟩, _⟩ := B0
     go_wp2_with fail
     go_region_held3 (fun W => (W.cell? ⟨w.heap.size, 0, none⟩ = some (.int .i64 r) ∧ W.cell? ⟨w.heap.size, 1, none⟩ = some (.int .i64 c) ∧ W.cell? ⟨w.heap.size, 2, none⟩ = some (.bool false) ∧ W.cell? ⟨w.heap.size, 3, none⟩ = some (.bool false)) ∧ Ext w1 W)
       ((refine mkS.out _ ?_; ((with_reducible (repeat (first | assumption | exact Ext.refl _ | apply Ext.alloc | apply Ext.drew | apply Ext.drewN))); done)))
       (first | (go_at_call 59; refine Calls.mono (cN _) ?_; rintro e y2 ⟨rfl, E2⟩; have Z2 : Ext w1 y2 := Ext.trans (by ((with_reducible (repeat (first | assumption | exact Ext.refl _ | apply Ext.alloc | apply Ext.drew | apply Ext.drewN))); done)) E2) | (go_at_call 60; refine Calls.mono (cD _) ?_; rintro e y3 ⟨rfl, E3⟩; have Z3 : Ext w1 y3 := Ext.trans (by ((with_reducible (repeat (first | assumption | exact Ext.refl _ | apply Ext.alloc | apply Ext.drew | apply Ext.drewN))); done)) E3))
     go_wp2_with fail
     go_ret
     exact ⟨ret_s (mkL _ _ (by rw [HP'.out, app_list, app_list, app_list, HN.out, HD.out, HB.out]; rfl)), XW.trans (by assumption)⟩
   · have n1 : ¬ 9223372036854775807 < B.size + N.size := by omega
     have n2 : ¬ 9223372036854775807 < B.size + N.size + A.size := by omega
     have n3 : ¬ 9223372036854775807 < B.size + N.size + A.size + D.size := by omega
     clear zA zB
     go_enter Tryd.func43, Tryd.ntmps43
     go_wp2_with fail
     rw [← hW0]
     clear hW0
     refine (c0 _).mono ?_
     rintro e w1 ⟨rfl, rfl⟩
     have B0 := mkS.out w1 (Ext.refl _)
     obtain ⟨⟨k0, k1, k2, k3⟩, _⟩ := B0
     go_wp2_with fail
     go_region_held3 (fun W => (W.cell? ⟨w.heap.size, 0, none⟩ = some (.int .i64 r) ∧ W.cell? ⟨w.heap.size, 1, none⟩ = some (.int .i64 c) ∧ W.cell? ⟨w.heap.size, 2, none⟩ = some (.bool true) ∧ W.cell? ⟨w.heap.size, 3, none⟩ = some (.bool false)) ∧ Ext w1 W)
       ((refine mkS.out _ ?_; ((with_reducible (repeat (first | assumption | exact Ext.refl _ | apply Ext.alloc | apply Ext.drew | apply Ext.drewN))); done)))
       (first | (go_at_call 59; refine Calls.mono (cN _) ?_; rintro e y2 ⟨rfl, E2⟩; have Z2 : Ext w1 y2 := Ext.trans (by ((with_reducible (repeat (first | assumption | exact Ext.refl _ | apply Ext.alloc | apply Ext.drew | apply Ext.drewN))); done)) E2) | (go_at_call 60; refine Calls.mono (cD _) ?_; rintro e y3 ⟨rfl, E3⟩; have Z3 : Ext w1 y3 := Ext.trans (by ((with_reducible (repeat (first | assumption | exact Ext.refl _ | apply Ext.alloc | apply Ext.drew | apply Ext.drewN))); done)) E3))
     go_wp2_with fail
     go_ret
     exact ⟨ret_s (mkL _ _ (by rw [HP'.out, app_list, app_list, app_list, HN.out, HD.out, HB.out, HA.out]; rfl)), XW.trans (by assumption)⟩
   · have n1 : ¬ 9223372036854775807 < A.size + N.size := by omega
     have n2 : ¬ 9223372036854775807 < A.size + N.size + B.size := by omega
     have n3 : ¬ 9223372036854775807 < A.size + N.size + B.size + D.size := by omega
     clear zA zB
     go_enter Tryd.func43, Tryd.ntmps43
     go_wp2_with fail
     rw [← hW0]
     clear hW0
     refine (c0 _).mono ?_
     rintro e w1 ⟨rfl, rfl⟩
     have B0 := mkS.out w1 (Ext.refl _)
     obtain ⟨⟨k0, k1, k2, k3⟩, _⟩ := B0
     go_wp2_with fail
     go_region_held3 (fun W => (W.cell? ⟨w.heap.size, 0, none⟩ = some (.int .i64 r) ∧ W.cell? ⟨w.heap.size, 1, none⟩ = some (.int .i64 c) ∧ W.cell? ⟨w.heap.size, 2, none⟩ = some (.bool false) ∧ W.cell? ⟨w.heap.size, 3, none⟩ = some (.bool true)) ∧ Ext w1 W)
       ((refine mkS.out _ ?_; ((with_reducible (repeat (first | assumption | exact Ext.refl _ | apply Ext.alloc | apply Ext.drew | apply Ext.drewN))); done)))
       (first | (go_at_call 59; refine Calls.mono (cN _) ?_; rintro e y2 ⟨rfl, E2⟩; have Z2 : Ext w1 y2 := Ext.trans (by ((with_reducible (repeat (first | assumption | exact Ext.refl _ | apply Ext.alloc | apply Ext.drew | apply Ext.drewN))); done)) E2) | (go_at_call 60; refine Calls.mono (cD _) ?_; rintro e y3 ⟨rfl, E3⟩; have Z3 : Ext w1 y3 := Ext.trans (by ((with_reducible (repeat (first | assumption | exact Ext.refl _ | apply Ext.alloc | apply Ext.drew | apply Ext.drewN))); done)) E3))
     go_wp2_with fail
     go_ret
     exact ⟨ret_s (mkL _ _ (by rw [HP'.out, app_list, app_list, app_list, HN.out, HD.out, HA.out, HB.out]; rfl)), XW.trans (by assumption)⟩
   · have n1 : ¬ 9223372036854775807 < A.size + N.size := by omega
     have n2 : ¬ 9223372036854775807 < A.size + N.size + A.size := by omega
     have n3 : ¬ 9223372036854775807 < A.size + N.size + A.size + D.size := by omega
     clear zA zB
     go_enter Tryd.func43, Tryd.ntmps43
     go_wp2_with fail
     rw [← hW0]
     clear hW0
     refine (c0 _).mono ?_
     rintro e w1 ⟨rfl, rfl⟩
     have B0 := mkS.out w1 (Ext.refl _)
     obtain ⟨⟨k0, k1, k2, k3⟩, _⟩ := B0
     go_wp2_with fail
     go_region_held3 (fun W => (W.cell? ⟨w.heap.size, 0, none⟩ = some (.int .i64 r) ∧ W.cell? ⟨w.heap.size, 1, none⟩ = some (.int .i64 c) ∧ W.cell? ⟨w.heap.size, 2, none⟩ = some (.bool true) ∧ W.cell? ⟨w.heap.size, 3, none⟩ = some (.bool true)) ∧ Ext w1 W)
       ((refine mkS.out _ ?_; ((with_reducible (repeat (first | assumption | exact Ext.refl _ | apply Ext.alloc | apply Ext.drew | apply Ext.drewN))); done)))
       (first | (go_at_call 59; refine Calls.mono (cN _) ?_; rintro e y2 ⟨rfl, E2⟩; have Z2 : Ext w1 y2 := Ext.trans (by ((with_reducible (repeat (first | assumption | exact Ext.refl _ | apply Ext.alloc | apply Ext.drew | apply Ext.drewN))); done)) E2) | (go_at_call 60; refine Calls.mono (cD _) ?_; rintro e y3 ⟨rfl, E3⟩; have Z3 : Ext w1 y3 := Ext.trans (by ((with_reducible (repeat (first | assumption | exact Ext.refl _ | apply Ext.alloc | apply Ext.drew | apply Ext.drewN))); done)) E3))
     go_wp2_with fail
     go_ret
     exact ⟨ret_s (mkL _ _ (by rw [HP'.out, app_list, app_list, app_list, HN.out, HD.out, HA.out]; rfl)), XW.trans (by assumption)⟩

open Go.ChangeShapes Go.WideShapes Go.RowKit
open Go.Joins (trod_struct4)
open Go.Deep (choose_lt)
set_option maxHeartbeats 2000000

instance : Inhabited T := ⟨tz⟩
/-- The numbers of a tree are of 64 bits, its texts no longer than can be. -/
inductive Wf : T → Prop
 | mk (t : T) : I64 t.k → I64 t.n → t.s.length ≤ maxLen → I64 t.e → I64 t.r.1 → I64 t.r.2.1 → I64 t.q.1 → I64 t.q.2.1 → (∀ x ∈ t.l, Wf x) → Wf t
section
variable {H : Type} {enc : TypeId × Value → H} {w : World} {base : Nat} {sp : Nat → Bool} {hd : Bool}
end

open Go.RowKit

/-- A text between quotes. -/
def quoB : List UInt8 → List UInt8
 | [] => []
 | c :: r => if c = 34 then 34 :: 34 :: quoB r else c :: quoB r
def quoL (s : List UInt8) : List UInt8 := 34 :: (quoB s ++ [34])
/-- A place's name. -/
def rfL (r : Rf) : List UInt8 := printR r.1 r.2.1 r.2.2.1 r.2.2.2
/-- An error's name. -/
def errL (e : Int) : List UInt8 := if e = 1 then [35, 82, 69, 70, 33] else if e = 2 then [35, 86, 65, 76, 85, 69, 33] else if e = 3 then [35, 68, 73, 86, 47, 48, 33] else if e = 4 then [35, 78, 85, 77, 33] else if e = 5 then [35, 67, 89, 67, 76, 69, 33] else []
def brkL (b : Bool) (l : List UInt8) : List UInt8 := if b then 40 :: (l ++ [41]) else l
/-- With commas between. -/
def joinL : List (List UInt8) → List UInt8
 | [] => []
 | [a] => a
 | a :: b :: r => a ++ 44 :: joinL (b :: r)
def hdT (l : List T) : T := l.headD tz
def sdT (l : List T) : T := l.tail.headD tz
/-- Whether a part is looser than so. -/
def loose (k : Nat) (x : T) : Bool := x.k == 7 && decide (bnd x.s < k)
/-- A tree's text. -/
def shT : Nat → T → List UInt8
 | 0, _ => []
 | n + 1, t => if t.k = 0 then printL t.n else if t.k = 1 then quoL t.s else if t.k = 2 then (if t.n = 1 then wTrue else wFalse) else if t.k = 3 then errL t.e else if t.k = 4 then rfL t.r else if t.k = 5 then rfL t.r ++ 58 :: rfL t.q else
   if t.k = 6 then 45 :: brkL (loose 5 (hdT t.l)) (shT n (hdT t.l)) else
   if t.k = 7 then brkL (loose (bnd t.s) (hdT t.l)) (shT n (hdT t.l)) ++ t.s ++ brkL (loose (bnd t.s + 1) (sdT t.l)) (shT n (sdT t.l)) else
   t.s ++ 40 :: (joinL (t.l.map (shT n)) ++ [41])
/-- How many parts a tree has. -/
def szT : Nat → T → Nat
 | 0, _ => 1
 | n + 1, t => 1 + (t.l.map (szT n)).sum

theorem quoB_len (s : List UInt8) : (quoB s).length ≤ 2 * s.length := by
 induction s with
 | nil => simp [quoB]
 | cons c r ih => unfold quoB; split <;> simp <;> omega
theorem sg_len (b : Bool) : (signL b).length ≤ 1 := by cases b <;> decide
theorem rfL_len (r : Rf) : (rfL r).length ≤ 8 := by
 unfold rfL printR
 split
 · rename_i h
   obtain ⟨h1, h2, _, _⟩ := in_bd h
   have a := row_sz r.1 h1 h2
   rw [← size_list] at a
   have b := name_len r.2.1
   have c := sg_len r.2.2.1
   have d := sg_len r.2.2.2
   have e : (⟨(Lib.itoa r.1).toArray⟩ : ByteArray).data.toList.length = (Lib.itoa r.1).length := rfl
   simp only [List.length_append]
   omega
 · simp
theorem errL_len (e : Int) : (errL e).length ≤ 7 := by unfold errL; repeat (first | (split; · simp) | simp)
theorem brkL_len (b : Bool) (l : List UInt8) : (brkL b l).length ≤ l.length + 2 := by cases b <;> simp [brkL]
theorem joinL_len (ls : List (List UInt8)) : (joinL ls).length ≤ (ls.map (fun l => l.length + 1)).sum := by
 match ls with
 | [] => simp [joinL]
 | [a] => simp [joinL]
 | a :: b :: r =>
   have ih := joinL_len (b :: r)
   unfold joinL
   simp only [List.length_append, List.length_cons, List.map_cons, List.sum_cons] at ih ⊢
   omega
theorem szT_pos (n : Nat) (t : T) : 1 ≤ szT n t := by cases n <;> simp [szT]
theorem sz_mem {n : Nat} {l : List T} {x : T} (h : x ∈ l) : szT n x ≤ (l.map (szT n)).sum := by
 induction l with
 | nil => cases h
 | cons a r ih =>
   simp only [List.map_cons, List.sum_cons]
   rcases List.mem_cons.1 h with rfl | h
   · omega
   · have := ih h; omega
theorem kno_len {s : List UInt8} (h : (kno s).isSome = true) : s.length ≤ 8 := by
 unfold kno at h
 split at h
 · rename_i hs; simp [kn1] at hs; rcases hs with rfl | rfl | rfl | rfl | rfl | rfl | rfl | rfl <;> simp
 · split at h
   · rename_i hs; simp [kn2] at hs; rcases hs with rfl | rfl <;> simp
   · split at h
     · rename_i hs; simp [kn3] at hs; rcases hs with rfl | rfl | rfl <;> simp
     · split at h
       · rename_i hs; simp [kn4] at hs; subst hs; simp
       · split at h
         · rename_i hs; simp [kn5] at hs; rcases hs with rfl | rfl | rfl | rfl | rfl | rfl <;> simp
         · cases h
theorem bnd_len {s : List UInt8} (h : bnd s ≠ 0) : s.length ≤ 2 := by
 unfold bnd at h
 split at h
 · rename_i hs; simp [bd1] at hs; rcases hs with rfl | rfl | rfl | rfl | rfl | rfl <;> simp
 · split at h
   · rename_i hs; subst hs; simp
   · split at h
     · rename_i hs; rcases hs with rfl | rfl <;> simp
     · split at h
       · rename_i hs; rcases hs with rfl | rfl <;> simp
       · exact absurd rfl h
theorem body_len (n : Nat) (h : n ≤ 9223372036854775807) : (bodyL n).length ≤ 20 := by
 obtain ⟨k, hk, hl⟩ := frac_back (n % 10000) (Nat.mod_lt _ (by decide))
 have hd := dec_len (n / 10000) 14 (by omega)
 unfold bodyL; rw [List.length_append]
 split
 · simp; omega
 · simp; omega
theorem printL_len (a : Int) (h : I64 a) : (printL a).length ≤ 21 := by
 obtain ⟨h1, h2⟩ := h
 unfold printL
 split
 · rename_i hc
   have hb : a.natAbs ≤ 9223372036854775807 := by unfold canB at hc; simp at hc; omega
   have := body_len a.natAbs hb
   split <;> simp <;> omega
 · simp
theorem psum_le {α : Type} {l : List α} {f g : α → Nat} (h : ∀ x ∈ l, f x ≤ g x) : (l.map f).sum ≤ (l.map g).sum := by
 induction l with
 | nil => simp
 | cons a r ih =>
   simp only [List.map_cons, List.sum_cons]
   have := h a (List.mem_cons_self ..)
   have := ih (fun x hx => h x (List.mem_cons_of_mem _ hx))
   omega
theorem sum_mul {α : Type} (l : List α) (f : α → Nat) (c : Nat) : (l.map (fun x => c * f x)).sum = c * (l.map f).sum := by
 induction l with
 | nil => simp
 | cons a r ih => simp only [List.map_cons, List.sum_cons, ih, Nat.mul_add]
/-- How long a text is at most. -/
theorem sh_len (n : Nat) : ∀ t : T, Wf t → (wellT n t = true ∨ t.k = 5) → (shT n t).length + 1 ≤ 701 * szT n t := by
 induction n with
 | zero => intro t _ _; simp [shT, szT]
 | succ n ih =>
   intro t hw h
   have hz : 701 ≤ 701 * szT (n + 1) t := Nat.le_mul_of_pos_right _ (szT_pos _ _)
   obtain ⟨_, w1, w2, w3, w4, w5, w6, w7, w8, w9⟩ := hw
   unfold shT
   by_cases k0 : t.k = 0
   · rw [if_pos k0]; have := printL_len t.n w2; omega
   by_cases k1 : t.k = 1
   · rw [if_neg k0, if_pos k1]
     have hs : t.s.length ≤ 300 := by
       rcases h with h | h
       · unfold wellT at h; simpa [k1] using h
       · omega
     have := quoB_len t.s
     unfold quoL; simp; omega
   by_cases k2 : t.k = 2
   · rw [if_neg k0, if_neg k1, if_pos k2]; split <;> simp [wTrue, wFalse] <;> omega
   by_cases k3 : t.k = 3
   · rw [if_neg k0, if_neg k1, if_neg k2, if_pos k3]; have := errL_len t.e; omega
   by_cases k4 : t.k = 4
   · rw [if_neg k0, if_neg k1, if_neg k2, if_neg k3, if_pos k4]; have := rfL_len t.r; omega
   by_cases k5 : t.k = 5
   · rw [if_neg k0, if_neg k1, if_neg k2, if_neg k3, if_neg k4, if_pos k5]; have := rfL_len t.r; have := rfL_len t.q; simp; omega
   have h := h.resolve_right k5
   unfold wellT at h
   have one : ∀ x ∈ t.l, wellT n x = true → (shT n x).length + 1 ≤ 701 * szT n x := fun x hx hx1 => ih x (w9 x hx) (.inl hx1)
   by_cases k6 : t.k = 6
   · rw [if_neg k0, if_neg k1, if_neg k2, if_neg k3, if_neg k4, if_neg k5, if_pos k6]
     simp only [k6] at h
     simp at h
     obtain ⟨h1, h2⟩ := h
     match hl : t.l, h1 with
     | [x], _ =>
       have := one x (by rw [hl]; simp) (h2 x (by rw [hl]; simp))
       have hb := brkL_len (loose 5 x) (shT n x)
       have e : szT (n + 1) t = 1 + szT n x := by rw [szT, hl]; simp
       rw [e]
       simp [hdT]
       omega
   by_cases k7 : t.k = 7
   · rw [if_neg k0, if_neg k1, if_neg k2, if_neg k3, if_neg k4, if_neg k5, if_neg k6, if_pos k7]
     simp only [k7] at h
     simp at h
     obtain ⟨⟨h0, h1⟩, h2⟩ := h
     match hl : t.l, h1 with
     | [x, y], _ =>
       have a1 := one x (by rw [hl]; simp) (h2 x (by rw [hl]; simp))
       have a2 := one y (by rw [hl]; simp) (h2 y (by rw [hl]; simp))
       have b1 := brkL_len (loose (bnd t.s) x) (shT n x)
       have b2 := brkL_len (loose (bnd t.s + 1) y) (shT n y)
       have e : szT (n + 1) t = 1 + (szT n x + szT n y) := by rw [szT, hl]; simp
       have hs := bnd_len h0
       rw [e]
       simp [hdT, sdT]
       omega
   · rw [if_neg k0, if_neg k1, if_neg k2, if_neg k3, if_neg k4, if_neg k5, if_neg k6, if_neg k7]
     by_cases k8 : t.k = 8
     · simp only [k8] at h
       simp at h
       obtain ⟨⟨⟨h1, _⟩, _⟩, h2⟩ := h
       have hs := kno_len h1
       have hj := joinL_len (t.l.map (shT n))
       have hm : ((t.l.map (shT n)).map (fun l => l.length + 1)).sum ≤ (t.l.map (fun x => 701 * szT n x)).sum := by
         rw [List.map_map]
         refine psum_le fun x hx => ?_
         refine ih x (w9 x hx) ?_
         have := h2 x hx
         by_cases k : x.k = 5
         · exact .inr k
         · exact .inl (by simpa [k] using this)
       rw [sum_mul] at hm
       have e : szT (n + 1) t = 1 + (t.l.map (szT n)).sum := by rw [szT]
       rw [e]
       simp
       omega
     · simp [k0, k1, k2, k3, k4, k6, k7, k8] at h

open Go.RowKit
set_option maxHeartbeats 6000000

open Go.RowKit
set_option maxHeartbeats 1000000

def Blk2 (W : World) (b : Nat) (x0 x1 : Value) : Prop := b < W.heap.size ∧
 (W.cell? ⟨b, 0, none⟩ = some x0 ∧ W.cell? ⟨b, 1, none⟩ = some x1) ∧
 (W.frozen? ⟨b, 0, none⟩ = false ∧ W.frozen? ⟨b, 1, none⟩ = false)
theorem blk2_top {w w1 : World} {x0 x1 : Value} {T : TypeId} {b : Nat} (hb : b = w.heap.size) (E : Ext (w.alloc (.cells #[x0, x1] T)) w1) : Blk2 w1 b x0 x1 := by
 subst hb
 have hs : w.heap.size < (w.alloc (.cells #[x0, x1] T)).heap.size := by simp
 have k := fun o => E.cell.1 w.heap.size o hs
 have f := fun o => E.cell.2 w.heap.size o hs
 refine ⟨Nat.lt_of_lt_of_le hs E.sz, ⟨(k 0).trans ?_, (k 1).trans ?_⟩, (f 0).trans ?_, (f 1).trans ?_⟩
 all_goals simp [go_sem]
theorem Blk2.ext {w w' : World} {b : Nat} {x0 x1 : Value} (h : Blk2 w b x0 x1) (e : Ext w w') : Blk2 w' b x0 x1 := by
 obtain ⟨z, ⟨k0, k1⟩, f0, f1⟩ := h
 have k := fun o => e.cell.1 b o z
 have f := fun o => e.cell.2 b o z
 exact ⟨Nat.lt_of_lt_of_le z e.sz, ⟨(k 0).trans k0, (k 1).trans k1⟩, (f 0).trans f0, (f 1).trans f1⟩
theorem Blk2.far1 {w : World} {b c : Nat} {x0 x1 : Value} (h : Blk2 w b x0 x1) (hc : c ≠ b) (o : Nat) (v : Value) : Blk2 (w.setCell ⟨c, o, none⟩ v) b x0 x1 := by
 obtain ⟨z, ⟨k0, k1⟩, f0, f1⟩ := h
 refine ⟨by simpa [World.setCell] using z, ⟨?_, ?_⟩, ?_, ?_⟩
 · rw [World.cell?_setCell_far _ _ _ _ hc]; exact k0
 · rw [World.cell?_setCell_far _ _ _ _ hc]; exact k1
 · rw [World.frozen?_setCell]; exact f0
 · rw [World.frozen?_setCell]; exact f1
theorem Blk2.far {w : World} {b c : Nat} {x0 x1 : Value} (h : Blk2 w b x0 x1) (hc : c ≠ b) (y0 y1 : Value) :
   Blk2 ((w.setCell ⟨c, 0, none⟩ y0).setCell ⟨c, 1, none⟩ y1) b x0 x1 := ((h.far1 hc _ _).far1 hc _ _)
theorem Blk2.put0 {w : World} {b : Nat} {x0 x1 : Value} (h : Blk2 w b x0 x1) (v : Value) : Blk2 (w.setCell ⟨b, 0, none⟩ v) b v x1 := by
 obtain ⟨z, ⟨k0, k1⟩, f0, f1⟩ := h
 have e := World.cell?_setCell_same w ⟨b, 0, none⟩ v (by rw [k0])
 refine ⟨by simpa [World.setCell] using z, ⟨e, ?_⟩, ?_, ?_⟩
 · rw [World.cell?_setCell_other _ _ _ _ (by simp)]; exact k1
 · rw [World.frozen?_setCell]; exact f0
 · rw [World.frozen?_setCell]; exact f1
theorem Blk2.put1 {w : World} {b : Nat} {x0 x1 : Value} (h : Blk2 w b x0 x1) (v : Value) : Blk2 (w.setCell ⟨b, 1, none⟩ v) b x0 v := by
 obtain ⟨z, ⟨k0, k1⟩, f0, f1⟩ := h
 have e := World.cell?_setCell_same w ⟨b, 1, none⟩ v (by rw [k1])
 refine ⟨by simpa [World.setCell] using z, ⟨?_, e⟩, ?_, ?_⟩
 · rw [World.cell?_setCell_other _ _ _ _ (by simp)]; exact k0
 · rw [World.frozen?_setCell]; exact f0
 · rw [World.frozen?_setCell]; exact f1
theorem Blk2.set {w : World} {b : Nat} {o0 o1 : Value} (h : Blk2 w b o0 o1) (x0 x1 : Value) :
   Blk2 ((w.setCell ⟨b, 0, none⟩ x0).setCell ⟨b, 1, none⟩ x1) b x0 x1 := ((h.put0 _).put1 _)
theorem Blk2.dr {w : World} {b : Nat} {x0 x1 : Value} (h : Blk2 w b x0 x1) : Blk2 w.drew b x0 x1 := h.ext (Ext.drew (Ext.refl _))
theorem Blk2.al {w : World} {b : Nat} {x0 x1 : Value} (o : Obj) (h : Blk2 w b x0 x1) : Blk2 (w.alloc o) b x0 x1 := h.ext (Ext.alloc (Ext.refl _) _)
/-- The end of a function whose result, and others beside it, lies in a block of its own. -/
theorem fin2 (v : Value) {fn : Func} {Q : Ending → World → Prop} {a : Act} {w W : World} {b : Nat} {x0 x1 : Value}
   (B : Blk2 W b x0 x1) (hd : a.defers = []) (E : Ext w W)
   (hr : W.cell? ⟨b, 0, none⟩ = some x0 → W.cell? ⟨b, 1, none⟩ = some x1 → (results fn a.tmps).run Tryd.prog W = .ok v W)
   (hQ : Ext w W → Q (.returned v) W) : bodyPost Tryd.prog fn Q .ret a W :=
 bodyPost_ret (hr B.2.1.1 B.2.1.2) hd (hQ E)

open Go.RowKit
set_option maxHeartbeats 1000000

end Go.Proofs.YtjhmbkdkjgjoaaaDoor

/-
  Contracts of the parts of package value: the first error, ranks, which is ahead.
-/
import Derived.Test.YtdmiddpfgmbbhaaGreatDoorValC
namespace Go.Proofs.YtdmiddpfgmbbhaaGreatDoor
open Go.RowKit
set_option maxHeartbeats 1000000
/-! ### firstError, over two -/
/-- Block L holds two structs. -/
def Two (W : World) (L : Nat) (ak an : Int) (sa : ByteArray) (ae bk bn : Int) (sb : ByteArray) (be : Int) : Prop :=
  W.cell? ⟨L, 0, none⟩ = some (.int .i64 ak) ∧ W.cell? ⟨L, 1, none⟩ = some (.int .i64 an) ∧ W.cell? ⟨L, 2, none⟩ = some (.string sa) ∧ W.cell? ⟨L, 3, none⟩ = some (.int .i64 ae) ∧
  W.cell? ⟨L, 4, none⟩ = some (.int .i64 bk) ∧ W.cell? ⟨L, 5, none⟩ = some (.int .i64 bn) ∧ W.cell? ⟨L, 6, none⟩ = some (.string sb) ∧ W.cell? ⟨L, 7, none⟩ = some (.int .i64 be) ∧ L < W.heap.size
theorem firsterr_a (ak an : Int) (sa : ByteArray) (ae bk bn : Int) (sb : ByteArray) (be : Int) (L : Nat) (w : World) (h : Two w L ak an sa ae bk bn sb be) (ha : (ak == 4) = true) :
    Calls Tryz.prog 14 #[.slice (some ⟨L, 0, none⟩) 2 2] w fun e w' => e = .returned (.tuple #[.agg #[.int .i64 ak, .int .i64 an, .string sa, .int .i64 ae], .bool true]) ∧ Ext w w' := by
  obtain ⟨h0, h1, h2, h3, h4, h5, h6, h7, hL⟩ := h
  go_enter Tryz.func14, Tryz.ntmps14
  go_wp2
  refine wp_loop_rounds 3 ?_
  rw [rounds_succ]
  go_wp2
  simp [bodyPost, results, Tryz.results14, go_sem]
  exact ((Ext.refl _).alloc _).alloc _
theorem firsterr_b (ak an : Int) (sa : ByteArray) (ae bk bn : Int) (sb : ByteArray) (be : Int) (L : Nat) (w : World) (h : Two w L ak an sa ae bk bn sb be) (ha : (ak == 4) = false) (hb : (bk == 4) = true) :
    Calls Tryz.prog 14 #[.slice (some ⟨L, 0, none⟩) 2 2] w fun e w' => e = .returned (.tuple #[.agg #[.int .i64 bk, .int .i64 bn, .string sb, .int .i64 be], .bool true]) ∧ Ext w w' := by
  obtain ⟨h0, h1, h2, h3, h4, h5, h6, h7, hL⟩ := h
  go_enter Tryz.func14, Tryz.ntmps14
  go_wp2
  refine wp_loop_rounds 3 ?_
  rw [rounds_succ]
  go_wp2
  rw [rounds_succ]
  go_wp2
  simp [bodyPost, results, Tryz.results14, go_sem]
  exact (((Ext.refl _).alloc _).alloc _).alloc _
theorem firsterr_n (ak an : Int) (sa : ByteArray) (ae bk bn : Int) (sb : ByteArray) (be : Int) (L : Nat) (w : World) (h : Two w L ak an sa ae bk bn sb be) (ha : (ak == 4) = false) (hb : (bk == 4) = false) :
    Calls Tryz.prog 14 #[.slice (some ⟨L, 0, none⟩) 2 2] w fun e w' => e = .returned (.tuple #[.agg #[.int .i64 0, .int .i64 0, .string ⟨#[]⟩, .int .i64 0], .bool false]) ∧ Ext w w' := by
  obtain ⟨h0, h1, h2, h3, h4, h5, h6, h7, hL⟩ := h
  go_enter Tryz.func14, Tryz.ntmps14
  go_wp2
  refine wp_loop_rounds 3 ?_
  rw [rounds_succ]
  go_wp2
  rw [rounds_succ]
  go_wp2
  rw [rounds_succ]
  go_wp2
  simp [bodyPost, results, Tryz.results14, go_sem]
  exact (((Ext.refl _).alloc _).alloc _).alloc _
/-! ### The order's parts -/
def rk (k : Int) : Int := if k = 2 then 1 else if k = 3 then 2 else if k = 1 then 3 else 0
def or3 (x y z : Int) : Int := if x ≠ 0 then x else if y ≠ 0 then y else z
/-- What a Blank is as beside a value of kind k. -/
def bk0 (k ak : Int) : Int := if ak = 0 then k else ak
def bkS (ak : Int) (s : ByteArray) : ByteArray := if ak = 0 then ⟨#[]⟩ else s
/-! ### A value's fields -/
def V.k : V → Int
  | .blank => 0
  | .tf _ => 1
  | .num _ => 2
  | .text _ => 3
  | .err _ => 4
def V.n : V → Int
  | .tf b => if b then 1 else 0
  | .num n => n
  | _ => 0
def V.s : V → ByteArray
  | .text s => s
  | _ => ⟨#[]⟩
def V.e : V → Int
  | .err e => e
  | _ => 0
theorem dat_eq (v : V) : v.dat = .agg #[.int .i64 v.k, .int .i64 v.n, .string v.s, .int .i64 v.e] := by cases v <;> rfl
theorem cmp_ea {a : V} (b : V) (h : a.k = 4) : cmpV a b = 0 ∧ cmpE a b = a := by cases a <;> first | (cases b <;> exact ⟨rfl, rfl⟩) | (simp [V.k] at h)
theorem cmp_eb {a b : V} (h : a.k ≠ 4) (g : b.k = 4) : cmpV a b = 0 ∧ cmpE a b = b := by
  cases b <;> first | (simp [V.k] at g; done) | (cases a <;> first | exact ⟨rfl, rfl⟩ | (simp [V.k] at h))
theorem or3_0 (x : Int) : or3 0 x 0 = x := by unfold or3; simp; intro h; omega
theorem or3_z (x : Int) : or3 0 0 x = x := by unfold or3; simp
theorem cmp_n {a b : V} (h : a.k ≠ 4) (g : b.k ≠ 4) : cmpE a b = .blank ∧
    cmpV a b = or3 (sg3 (rk (bk0 b.k a.k)) (rk (bk0 a.k b.k))) (sg3 (if a.k = 0 then 0 else a.n) (if b.k = 0 then 0 else b.n)) (Lib.compareBytes (bkS a.k a.s).data.toList (bkS b.k b.s).data.toList) := by
  cases a <;> cases b <;> first | (exfalso; revert h g; simp [V.k]; done) | skip
  all_goals
    refine ⟨rfl, ?_⟩
    simp only [cmpV, asBy, V.zeroOf, ord, V.k, V.n, V.s, bk0, bkS, rk, rankV]
    simp [Lib.compareBytes]
    try (first | rfl | decide | (unfold or3 sg3; simp; done))
end Go.Proofs.YtdmiddpfgmbbhaaGreatDoor

/-
  Contracts of the parts of package value: the first error, ranks, which is ahead.
-/
import Derived.Test.YtlfkiepnahgbeabDoorValC
namespace Go.Proofs.YtlfkiepnahgbeabDoor
open Go.RowKit
set_option maxHeartbeats 1000000
/-! ### firstError, over two -/
/-- Block L holds two structs. -/
def Two (W : World) (L : Nat) (ak an : Int) (sa : ByteArray) (ae bk bn : Int) (sb : ByteArray) (be : Int) : Prop :=
  W.cell? ⟨L, 0, none⟩ = some (.int .i64 ak) ∧ W.cell? ⟨L, 1, none⟩ = some (.int .i64 an) ∧ W.cell? ⟨L, 2, none⟩ = some (.string sa) ∧ W.cell? ⟨L, 3, none⟩ = some (.int .i64 ae) ∧
  W.cell? ⟨L, 4, none⟩ = some (.int .i64 bk) ∧ W.cell? ⟨L, 5, none⟩ = some (.int .i64 bn) ∧ W.cell? ⟨L, 6, none⟩ = some (.string sb) ∧ W.cell? ⟨L, 7, none⟩ = some (.int .i64 be) ∧ L < W.heap.size
theorem firsterr_a (ak an : Int) (sa : ByteArray) (ae bk bn : Int) (sb : ByteArray) (be : Int) (L : Nat) (w : World) (h : Two w L ak an sa ae bk bn sb be) (ha : (ak == 4) = true) :
    Calls Tryd.prog 19 #[.slice (some ⟨L, 0, none⟩) 2 2] w fun e w' => e = .returned (.tuple #[.agg #[.int .i64 ak, .int .i64 an, .string sa, .int .i64 ae], .bool true]) ∧ Ext w w' := by
  obtain ⟨h0, h1, h2, h3, h4, h5, h6, h7, hL⟩ := h
  go_enter Tryd.func19, Tryd.ntmps19
  go_wp2
  refine wp_loop_rounds 3 ?_
  rw [rounds_succ]
  go_wp2
  simp [bodyPost, results, Tryd.results19, go_sem]
  exact ((Ext.refl _).alloc _).alloc _
theorem firsterr_b (ak an : Int) (sa : ByteArray) (ae bk bn : Int) (sb : ByteArray) (be : Int) (L : Nat) (w : World) (h : Two w L ak an sa ae bk bn sb be) (ha : (ak == 4) = false) (hb : (bk == 4) = true) :
    Calls Tryd.prog 19 #[.slice (some ⟨L, 0, none⟩) 2 2] w fun e w' => e = .returned (.tuple #[.agg #[.int .i64 bk, .int .i64 bn, .string sb, .int .i64 be], .bool true]) ∧ Ext w w' := by
  obtain ⟨h0, h1, h2, h3, h4, h5, h6, h7, hL⟩ := h
  go_enter Tryd.func19, Tryd.ntmps19
  go_wp2
  refine wp_loop_rounds 3 ?_
  rw [rounds_succ]
  go_wp2
  rw [rounds_succ]
  go_wp2
  simp [bodyPost, results, Tryd.results19, go_sem]
  exact (((Ext.refl _).alloc _).alloc _).alloc _
theorem firsterr_n (ak an : Int) (sa : ByteArray) (ae bk bn : Int) (sb : ByteArray) (be : Int) (L : Nat) (w : World) (h : Two w L ak an sa ae bk bn sb be) (ha : (ak == 4) = false) (hb : (bk == 4) = false) :
    Calls Tryd.prog 19 #[.slice (some ⟨L, 0, none⟩) 2 2] w fun e w' => e = .returned (.tuple #[.agg #[.int .i64 0, .int .i64 0, .string ⟨#[]⟩, .int .i64 0], .bool false]) ∧ Ext w w' := by
  obtain ⟨h0, h1, h2, h3, h4, h5, h6, h7, hL⟩ := h
  go_enter Tryd.func19, Tryd.ntmps19
  go_wp2
  refine wp_loop_rounds 3 ?_
  rw [rounds_succ]
  go_wp2
  rw [rounds_succ]
  go_wp2
  rw [rounds_succ]
  go_wp2
  simp [bodyPost, results, Tryd.results19, go_sem]
  exact (((Ext.refl _).alloc _).alloc _).alloc _
/-! ### The order's parts -/
def rk (k : Int) : Int := if k = 2 then 1 else if k = 3 then 2 else if k = 1 then 3 else 0
theorem rank_any (k : Int) (w : World) : Calls Tryd.prog 23 #[.int .i64 k] w fun e w' => e = .returned (.int .i64 (rk k)) ∧ w' = w := by
  by_cases h2 : k = 2
  · subst h2
    go_enter Tryd.func23, Tryd.ntmps23
    go_wp2
    go_ret
    exact ⟨rfl, rfl⟩
  · by_cases h3 : k = 3
    · subst h3
      clear h2
      go_enter Tryd.func23, Tryd.ntmps23
      go_wp2
      go_ret
      exact ⟨rfl, rfl⟩
    · by_cases h1 : k = 1
      · subst h1
        clear h2 h3
        go_enter Tryd.func23, Tryd.ntmps23
        go_wp2
        go_ret
        exact ⟨rfl, rfl⟩
      · have H : Hid (rk k = 0) := by show rk k = 0; unfold rk; rw [if_neg h2, if_neg h3, if_neg h1]
        go_enter Tryd.func23, Tryd.ntmps23
        go_wp2
        go_ret
        exact ⟨ret_int H.out.symm, rfl⟩
theorem isnan_any (x : Int) (w : World) : Calls Tryd.prog 31 #[.int .i64 x] w fun e w' => e = .returned (.bool false) ∧ w' = w := by
  have h : (x != x) = false := by simp
  go_enter Tryd.func31, Tryd.ntmps31
  go_wp2
  go_ret
  exact ⟨rfl, rfl⟩
theorem cmp64_any (x y : Int) (w : World) : Calls Tryd.prog 24 #[.int .i64 x, .int .i64 y] w fun e w' => e = .returned (.int .i64 (sg3 x y)) ∧ w' = w := by
  have c1 := fun W => isnan_any x W
  have c2 := fun W => isnan_any y W
  have hc : x < y ∨ (¬ x < y ∧ y < x) ∨ (¬ x < y ∧ ¬ y < x) := by omega
  rcases hc with h | ⟨h, g⟩ | ⟨h, g⟩
  · have H : Hid (sg3 x y = -1) := by show sg3 x y = _; unfold sg3; rw [if_pos h]
    go_enter Tryd.func24, Tryd.ntmps24
    go_wp2_with fail
    refine (c1 _).mono ?_
    rintro e w' ⟨rfl, rfl⟩
    go_wp2_with fail
    refine (c2 _).mono ?_
    rintro e w' ⟨rfl, rfl⟩
    go_wp2_with fail
    go_ret
    exact ⟨ret_int H.out.symm, rfl⟩
  · have H : Hid (sg3 x y = 1) := by show sg3 x y = _; unfold sg3; rw [if_neg h, if_pos g]
    have g' : x > y := g
    go_enter Tryd.func24, Tryd.ntmps24
    go_wp2_with fail
    refine (c1 _).mono ?_
    rintro e w' ⟨rfl, rfl⟩
    go_wp2_with fail
    refine (c2 _).mono ?_
    rintro e w' ⟨rfl, rfl⟩
    go_wp2_with fail
    go_ret
    exact ⟨ret_int H.out.symm, rfl⟩
  · have H : Hid (sg3 x y = 0) := by show sg3 x y = _; unfold sg3; rw [if_neg h, if_neg g]
    go_enter Tryd.func24, Tryd.ntmps24
    go_wp2_with fail
    refine (c1 _).mono ?_
    rintro e w' ⟨rfl, rfl⟩
    go_wp2_with fail
    refine (c2 _).mono ?_
    rintro e w' ⟨rfl, rfl⟩
    go_wp2_with fail
    go_ret
    exact ⟨ret_int H.out.symm, rfl⟩
def or3 (x y z : Int) : Int := if x ≠ 0 then x else if y ≠ 0 then y else z
theorem or_any (x y z : Int) (L : Nat) (w : World) (h0 : w.cell? ⟨L, 0, none⟩ = some (.int .i64 x)) (h1 : w.cell? ⟨L, 1, none⟩ = some (.int .i64 y)) (h2 : w.cell? ⟨L, 2, none⟩ = some (.int .i64 z)) :
    Calls Tryd.prog 21 #[.slice (some ⟨L, 0, none⟩) 3 3] w fun e w' => e = .returned (.int .i64 (or3 x y z)) ∧ w' = w := by
  by_cases hx : x = 0
  · by_cases hy : y = 0
    · by_cases hz : z = 0
      · subst hx hy hz
        go_enter Tryd.func21, Tryd.ntmps21
        go_wp2
        refine wp_loop_rounds 4 ?_
        repeat (rw [rounds_succ]; go_wp2)
        go_ret
        exact ⟨rfl, rfl⟩
      · have H : Hid (or3 x y z = z) := by show or3 x y z = z; unfold or3; rw [if_neg (by omega), if_neg (by omega)]
        have hz' : (z != 0) = true := by simpa using hz
        subst hx hy
        clear hz
        go_enter Tryd.func21, Tryd.ntmps21
        go_wp2
        refine wp_loop_rounds 4 ?_
        repeat (rw [rounds_succ]; go_wp2)
        go_ret
        exact ⟨ret_int H.out.symm, rfl⟩
    · have H : Hid (or3 x y z = y) := by show or3 x y z = y; unfold or3; rw [if_neg (by omega), if_pos hy]
      have hy' : (y != 0) = true := by simpa using hy
      subst hx
      clear hy
      go_enter Tryd.func21, Tryd.ntmps21
      go_wp2
      refine wp_loop_rounds 4 ?_
      repeat (rw [rounds_succ]; go_wp2)
      go_ret
      exact ⟨ret_int H.out.symm, rfl⟩
  · have H : Hid (or3 x y z = x) := by show or3 x y z = x; unfold or3; rw [if_pos hx]
    have hx' : (x != 0) = true := by simpa using hx
    clear hx
    go_enter Tryd.func21, Tryd.ntmps21
    go_wp2
    refine wp_loop_rounds 4 ?_
    repeat (rw [rounds_succ]; go_wp2)
    go_ret
    exact ⟨ret_int H.out.symm, rfl⟩
/-- What a Blank is as beside a value of kind k. -/
def bk0 (k ak : Int) : Int := if ak = 0 then k else ak
def bkS (ak : Int) (s : ByteArray) : ByteArray := if ak = 0 then ⟨#[]⟩ else s
theorem blankas_any (k ak an : Int) (sa : ByteArray) (ae : Int) (w : World) : Calls Tryd.prog 20 #[.int .i64 k, .agg #[.int .i64 ak, .int .i64 an, .string sa, .int .i64 ae]] w fun e w' =>
    e = .returned (.agg #[.int .i64 (bk0 k ak), .int .i64 (if ak = 0 then 0 else an), .string (bkS ak sa), .int .i64 (if ak = 0 then 0 else ae)]) ∧ Ext w w' := by
  by_cases h : ak = 0
  · subst h
    have H : Hid (bk0 k 0 = k ∧ bkS 0 sa = ⟨#[]⟩) := ⟨rfl, rfl⟩
    simp only [if_true]
    go_enter Tryd.func20, Tryd.ntmps20
    go_wp2
    simp [bodyPost, results, Tryd.results20, go_sem]
    rw [H.out.1, H.out.2]
    exact ⟨⟨rfl, rfl⟩, ((Ext.refl _).alloc _).alloc _⟩
  · have H : Hid (bk0 k ak = ak ∧ bkS ak sa = sa) := by show _ ∧ _; unfold bk0 bkS; rw [if_neg h, if_neg h]; exact ⟨rfl, rfl⟩
    simp only [h, if_false]
    go_enter Tryd.func20, Tryd.ntmps20
    go_wp2
    simp [bodyPost, results, Tryd.results20, go_sem]
    rw [H.out.1, H.out.2]
    exact ⟨⟨rfl, rfl⟩, ((Ext.refl _).alloc _).alloc _⟩
/-! ### A value's fields -/
def V.k : V → Int
  | .blank => 0
  | .tf _ => 1
  | .num _ => 2
  | .text _ => 3
  | .err _ => 4
def V.n : V → Int
  | .tf b => if b then 1 else 0
  | .num n => n
  | _ => 0
def V.s : V → ByteArray
  | .text s => s
  | _ => ⟨#[]⟩
def V.e : V → Int
  | .err e => e
  | _ => 0
theorem dat_eq (v : V) : v.dat = .agg #[.int .i64 v.k, .int .i64 v.n, .string v.s, .int .i64 v.e] := by cases v <;> rfl
theorem cmp_ea {a : V} (b : V) (h : a.k = 4) : cmpV a b = 0 ∧ cmpE a b = a := by cases a <;> first | (cases b <;> exact ⟨rfl, rfl⟩) | (simp [V.k] at h)
theorem cmp_eb {a b : V} (h : a.k ≠ 4) (g : b.k = 4) : cmpV a b = 0 ∧ cmpE a b = b := by
  cases b <;> first | (simp [V.k] at g; done) | (cases a <;> first | exact ⟨rfl, rfl⟩ | (simp [V.k] at h))
theorem or3_0 (x : Int) : or3 0 x 0 = x := by unfold or3; simp; intro h; omega
theorem or3_z (x : Int) : or3 0 0 x = x := by unfold or3; simp
theorem cmp_n {a b : V} (h : a.k ≠ 4) (g : b.k ≠ 4) : cmpE a b = .blank ∧
    cmpV a b = or3 (sg3 (rk (bk0 b.k a.k)) (rk (bk0 a.k b.k))) (sg3 (if a.k = 0 then 0 else a.n) (if b.k = 0 then 0 else b.n)) (Lib.compareBytes (bkS a.k a.s).data.toList (bkS b.k b.s).data.toList) := by
  cases a <;> cases b <;> first | (exfalso; revert h g; simp [V.k]; done) | skip
  all_goals
    refine ⟨rfl, ?_⟩
    simp only [cmpV, asBy, V.zeroOf, ord, V.k, V.n, V.s, bk0, bkS, rk, rankV]
    simp [Lib.compareBytes]
    try (first | rfl | decide | (unfold or3 sg3; simp; done))
end Go.Proofs.YtlfkiepnahgbeabDoor

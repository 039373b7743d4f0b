/-
  Contracts of package real's root, and of the document's: the greatest number whose square is not above a.
-/
import Derived.Test.YtbonaldlljdaoaaFixI
namespace Go.Proofs.Ytbonaldlljdaoaa
open Go.RowKit
set_option maxHeartbeats 1000000

theorem square_above (n N : Nat) (hn : n < 18446744073709551616) (w : World) :
    Calls Try.prog 38 #[.int .u64 n, .int .u64 ((N / 18446744073709551616 : Nat) : Int), .int .u64 ((N % 18446744073709551616 : Nat) : Int)] w fun e w' => e = .returned (.bool (decide (N < n * n))) ∧ Ext w w' := by
  have c := fun W => mul64N n n hn hn W
  obtain ⟨S, hS⟩ : ∃ S, S = n * n := ⟨_, rfl⟩
  rw [← hS] at c ⊢
  have e1 : decide (N < S) = (decide (((N / 18446744073709551616 : Nat) : Int) < ((S / 18446744073709551616 : Nat) : Int)) || (decide (((S / 18446744073709551616 : Nat) : Int) = ((N / 18446744073709551616 : Nat) : Int)) && decide (((N % 18446744073709551616 : Nat) : Int) < ((S % 18446744073709551616 : Nat) : Int)))) := by
    rw [Bool.eq_iff_iff]; simp only [Bool.or_eq_true, Bool.and_eq_true, decide_eq_true_eq]; omega
  rw [e1]
  clear e1 hS
  generalize ((N / 18446744073709551616 : Nat) : Int) = hi at *
  generalize ((N % 18446744073709551616 : Nat) : Int) = lo at *
  generalize ((S / 18446744073709551616 : Nat) : Int) = h at *
  generalize ((S % 18446744073709551616 : Nat) : Int) = l at *
  go_enter Try.func38, Try.ntmps38
  go_wp2_with fail
  refine (c _).mono ?_
  rintro e w1 ⟨rfl, rfl⟩
  go_wp2
  all_goals
    simp [bodyPost, results, Try.results38, go_sem, *]
    try exact Ext.refl _

/-- r is the root of N. -/
def IsRoot (N r : Nat) : Prop := r * r ≤ N ∧ N < (r + 1) * (r + 1)
theorem IsRoot.one {N r s : Nat} (h : IsRoot N r) (k : IsRoot N s) : r = s := by
  obtain ⟨a, b⟩ := h; obtain ⟨c, d⟩ := k
  rcases Nat.lt_trichotomy r s with g | g | g
  · have := Nat.mul_le_mul (show r + 1 ≤ s from g) (show r + 1 ≤ s from g); omega
  · exact g
  · have := Nat.mul_le_mul (show s + 1 ≤ r from g) (show s + 1 ≤ r from g); omega
/-- All bits of the root of N from place j on are in r. -/
def Rooted (N j r : Nat) : Prop := r * r ≤ N ∧ N < (r + 2 ^ j) * (r + 2 ^ j) ∧ r % 2 ^ j = 0
theorem Rooted.lt {N j r : Nat} (h : Rooted N j r) (hN : N < 151115727451828646838272) : r < 549755813888 := by
  rcases Nat.lt_or_ge r 549755813888 with g | g
  · exact g
  · have := Nat.mul_le_mul g g
    have := h.1
    omega
theorem Rooted.no {N j r : Nat} (h : Rooted N (j + 1) r) (g : N < (r + 2 ^ j) * (r + 2 ^ j)) : Rooted N j r := by
  refine ⟨h.1, g, ?_⟩
  have := h.2.2
  rw [Nat.pow_succ] at this
  exact Nat.mod_eq_zero_of_dvd (Nat.dvd_of_mod_eq_zero (show r % 2 ^ j = 0 from by
    have d := Nat.dvd_of_mod_eq_zero this
    exact Nat.mod_eq_zero_of_dvd (Nat.dvd_trans (Nat.dvd_mul_right _ _) d)))
theorem Rooted.yes {N j r : Nat} (h : Rooted N (j + 1) r) (g : (r + 2 ^ j) * (r + 2 ^ j) ≤ N) : Rooted N j (r + 2 ^ j) := by
  refine ⟨g, ?_, ?_⟩
  · have := h.2.1
    rw [Nat.pow_succ, Nat.mul_two, ← Nat.add_assoc] at this
    exact this
  · have := h.2.2
    rw [Nat.pow_succ] at this
    have d := Nat.dvd_of_mod_eq_zero this
    rw [Nat.add_mod_right]
    exact Nat.mod_eq_zero_of_dvd (Nat.dvd_trans (Nat.dvd_mul_right _ _) d)
theorem Rooted.done {N r : Nat} (h : Rooted N 0 r) : IsRoot N r := by
  obtain ⟨a, b, _⟩ := h
  exact ⟨a, b⟩
theorem or_pow (r j : Nat) (h : r % 2 ^ (j + 1) = 0) (hr : r < 549755813888) (hj : j ≤ 40) : bits .or .u64 (r : Int) ((2 ^ j : Nat) : Int) = ((r + 2 ^ j : Nat) : Int) := by
  have hp : 2 ^ j ≤ 2 ^ 40 := Nat.pow_le_pow_right (by decide) hj
  rw [bits_or_u64_nat _ _ (by omega) (by omega)]
  obtain ⟨k, rfl⟩ := Nat.dvd_of_mod_eq_zero h
  rw [← Nat.two_pow_add_eq_or_of_lt (Nat.pow_lt_pow_right (by decide) (Nat.lt_succ_self j))]

/-- What Root answers: the root, or none. -/
theorem root_no (a : Int) (h : a < 0) (w : World) : Calls Try.prog 15 #[.int .i64 a] w fun e w' => e = .returned (.tuple #[.int .i64 0, .bool false]) ∧ Ext w w' := by
  go_enter Try.func15, Try.ntmps15
  go_wp2
  go_ret2
  exact ⟨rfl, Ext.refl _⟩
theorem root_any (a : Nat) (ha : a ≤ 9223372036854775807) (w : World) : Calls Try.prog 15 #[.int .i64 a] w fun e w' => (∃ r : Nat, e = .returned (.tuple #[.int .i64 r, .bool true]) ∧ IsRoot (a * 10000) r ∧ r < 549755813888) ∧ Ext w w' := by
  have hN : a * 10000 < 151115727451828646838272 := by omega
  have ea : IntKind.u64.wrap (a : Int) = a := by rw [wrapU]; omega
  have c := fun W => mul64N a 10000 (by omega) (by omega) W
  rw [show ((10000 : Nat) : Int) = 10000 from rfl] at c
  generalize hNe : a * 10000 = N at *
  have cs := fun n hn W => square_above n N hn W
  obtain ⟨H, hH⟩ : ∃ H, H = ((N / 18446744073709551616 : Nat) : Int) := ⟨_, rfl⟩
  obtain ⟨L, hL⟩ : ∃ L, L = ((N % 18446744073709551616 : Nat) : Int) := ⟨_, rfl⟩
  rw [← hH, ← hL] at c cs
  clear hH hL hNe
  go_enter Try.func15, Try.ntmps15
  go_wp2_with fail
  refine (c _).mono ?_
  rintro e w1 ⟨rfl, rfl⟩
  go_wp2
  go_loopw [6, 7] (fun x b wr => ∃ j r : Nat, j ≤ 39 ∧ x = .int .u64 (r : Int) ∧ b = .int .u64 ((2 ^ j / 2 : Nat) : Int) ∧ Rooted N j r ∧ Ext w1 wr) (fun _ b _ => (intOf b).toNat)
  case atStart => exact ⟨39, 0, Nat.le_refl _, rfl, rfl, ⟨by omega, by simpa using (by omega : N < 302231454903657293676544), rfl⟩, Ext.refl _⟩
  case round =>
    obtain ⟨j, r, hj, rfl, rfl, hR, hE⟩ := hrel
    have hr := hR.lt hN
    rcases Nat.eq_zero_or_pos j with rfl | hj0
    · have HR : Hid (IsRoot N r) := hR.done
      clear hR hN
      rw [show (((2 ^ 0 / 2 : Nat)) : Int) = 0 from rfl]
      go_wp2
      go_ret2
      exact ⟨⟨r, rfl, HR.out, hr⟩, hE⟩
    · obtain ⟨i, rfl⟩ : ∃ i, j = i + 1 := ⟨j - 1, by omega⟩
      have eb : 2 ^ (i + 1) / 2 = 2 ^ i := by rw [Nat.pow_succ]; omega
      rw [eb]
      have eo := or_pow r i hR.2.2 hr (by omega)
      have hp : 2 ^ i ≤ 2 ^ 38 := Nat.pow_le_pow_right (by decide) (by omega)
      have hp0 : 0 < 2 ^ i := Nat.pow_pos (by decide)
      have cs1 := fun W => cs (r + 2 ^ i) (by omega) W
      have HN : Hid (N < (r + 2 ^ i) * (r + 2 ^ i) → Rooted N i r) := fun g => hR.no g
      have HY : Hid (¬ N < (r + 2 ^ i) * (r + 2 ^ i) → Rooted N i (r + 2 ^ i)) := fun g => hR.yes (by omega)
      have HI : Hid (i ≤ 39) := by show i ≤ 39; omega
      have HP : Hid (((2 ^ i : Nat) : Int) / 2 = ((2 ^ i / 2 : Nat) : Int)) := by show ((2 ^ i : Nat) : Int) / 2 = _; omega
      generalize hpe : 2 ^ i = p at *
      have HE : Hid (2 ^ i = p) := hpe
      clear hpe eb
      have hpI : (0 : Int) < (p : Int) := by omega
      clear hj hj0 hR hN cs
      by_cases hd : N < (r + p) * (r + p)
      · have HR : Hid (Rooted N i r) := HN.out hd
        have ed : decide (N < (r + p) * (r + p)) = true := by simp [hd]
        rw [ed, Int.natCast_add] at cs1
        clear ed hd HN HY
        go_wp2_with fail
        refine (cs1 _).mono ?_
        rintro e w2 ⟨rfl, E2⟩
        go_wp2
        go_roundw
        case rel => exact ⟨i, r, HI.out, rfl, by rw [HE.out, ← HP.out], HR.out, hE.trans E2⟩
        case measure => simp [intOf]; omega
      · have HR : Hid (Rooted N i (r + p)) := HY.out hd
        have ed : decide (N < (r + p) * (r + p)) = false := by simp [hd]
        rw [ed, Int.natCast_add] at cs1
        clear ed hd HN HY
        go_wp2_with fail
        refine (cs1 _).mono ?_
        rintro e w2 ⟨rfl, E2⟩
        go_wp2
        go_roundw
        case rel => exact ⟨i, r + p, HI.out, rfl, by rw [HE.out, ← HP.out], HR.out, hE.trans E2⟩
        case measure => simp [intOf]; omega

theorem rroot_no (a : Int) (h : a < 0) (w : World) : Calls Try.prog 16 #[.int .i64 a] w fun e w' => e = .returned (.tuple #[.int .i64 0, .bool false]) ∧ Ext w w' := by
  go_enter Try.func16, Try.ntmps16
  go_wp2
  go_ret2
  exact ⟨rfl, Ext.refl _⟩
/-- What stands while the root is sought: the product, and of what was there nothing has turned. -/
def Stands (w : World) (b : Nat) (N : Nat) (wr : World) : Prop := (Ext w wr ∧ Pair wr b N) ∧ wr.cell? ⟨b, 0, none⟩ = some (.int .u64 (uhi N)) ∧ wr.cell? ⟨b, 1, none⟩ = some (.int .u64 (loOf N))
theorem Stands.mk' {w wr : World} {b N : Nat} (h : Ext w wr) (p : Pair wr b N) : Stands w b N wr := ⟨⟨h, p⟩, p.2.1, p.2.2.1⟩
theorem Stands.ext {w wr w' : World} {b N : Nat} (h : Stands w b N wr) (e : Ext wr w') : Stands w b N w' := Stands.mk' (h.1.1.trans e) (h.1.2.ext e)
theorem rroot_any (a : Nat) (ha : a ≤ 9223372036854775807) (w : World) : Calls Try.prog 16 #[.int .i64 a] w fun e w' => (∃ r : Nat, e = .returned (.tuple #[.int .i64 r, .bool true]) ∧ IsRoot (a * 10000) r ∧ r < 549755813888) ∧ Ext w w' := by
  have hN : a * 10000 < 151115727451828646838272 := by omega
  have c := fun W => product_any a 10000 (by omega) (by omega) W
  rw [show ((10000 : Nat) : Int) = 10000 from rfl] at c
  generalize hNe : a * 10000 = N at *
  clear hNe
  go_enter Try.func16, Try.ntmps16
  go_wp2_with fail
  refine (c _).mono ?_
  rintro e w1 ⟨rfl, E1⟩
  clear c
  go_wp2
  go_loopw [5, 6, 7] (fun x i _ wr => ∃ j r : Nat, j ≤ 41 ∧ x = .int .u64 (r : Int) ∧ i = .int .i64 ((j : Int) - 1) ∧ Rooted N j r ∧ Ext w wr ∧ Pair wr w1.heap.size N) (fun _ i _ _ => (intOf i + 1).toNat)
  case atStart => exact ⟨41, 0, Nat.le_refl _, rfl, rfl, ⟨by omega, by simpa using (by omega : N < 4835703278458516698824704), rfl⟩, E1.alloc _, by simp [Pair, go_sem]⟩
  case round =>
    obtain ⟨j, r, hj, rfl, rfl, hR, hE, hP⟩ := hrel
    have hr := hR.lt hN
    rcases Nat.eq_zero_or_pos j with rfl | hj0
    · have HR : Hid (IsRoot N r) := hR.done
      clear hR hN hP
      go_wp2
      go_ret2
      exact ⟨⟨r, rfl, HR.out, hr⟩, hE⟩
    · obtain ⟨i, rfl⟩ : ∃ i, j = i + 1 := ⟨j - 1, by omega⟩
      have ej : (((i + 1 : Nat) : Int) - 1) = (i : Int) := by omega
      rw [ej]
      clear ej
      have hp : 2 ^ i ≤ 2 ^ 40 := Nat.pow_le_pow_right (by decide) (by omega)
      have hp0 : 0 < 2 ^ i := Nat.pow_pos (by decide)
      have hi : i ≤ 40 := by omega
      have hiI : (i : Int) ≤ 40 := by omega
      have HN : Hid (N < (r + 2 ^ i) * (r + 2 ^ i) → Rooted N i r) := fun g => hR.no g
      have HY : Hid (¬ N < (r + 2 ^ i) * (r + 2 ^ i) → Rooted N i (r + 2 ^ i)) := fun g => hR.yes (by omega)
      have c1 := fun W => product_any (r + 2 ^ i) (r + 2 ^ i) (by omega) (by omega) W
      have hq : (r + 2 ^ i) * (r + 2 ^ i) < 340282366920938463463374607431768211456 := by
        have := Nat.mul_le_mul (show r + 2 ^ i ≤ 2199023255552 by omega) (show r + 2 ^ i ≤ 2199023255552 by omega)
        omega
      have c2 := fun W => cmp_w (((r + 2 ^ i) * (r + 2 ^ i) : Nat) : Int) N (by omega) (by omega) (by omega) (by omega) W
      clear hq
      have ey : IntKind.u64.wrap ((r : Int) + IntKind.u64.wrap (2 ^ i)) = ((r + 2 ^ i : Nat) : Int) := by
        have : ((2 : Int) ^ i) = ((2 ^ i : Nat) : Int) := by simp
        rw [this, wrapU, wrapU]
        omega
      have HI : Hid (i ≤ 40) := hi
      generalize hye : r + 2 ^ i = y at *
      have HE : Hid (r + 2 ^ i = y) := hye
      obtain ⟨Y, hY⟩ : ∃ Y : Int, Y = y := ⟨_, rfl⟩
      have HY2 : Hid (Y = y) := hY
      rw [← hY] at ey c1
      obtain ⟨yh, hyh⟩ : ∃ yh : Int, yh = uhi ((y * y : Nat) : Int) := ⟨_, rfl⟩
      obtain ⟨yl, hyl⟩ : ∃ yl : Int, yl = loOf ((y * y : Nat) : Int) := ⟨_, rfl⟩
      rw [← hyh, ← hyl] at c1 c2
      have hS := Stands.mk' hE hP
      obtain ⟨nh, hnh⟩ : ∃ nh : Int, nh = uhi N := ⟨_, rfl⟩
      obtain ⟨nl, hnl⟩ : ∃ nl : Int, nl = loOf N := ⟨_, rfl⟩
      have hK : (Ext w wr ∧ Pair wr w1.heap.size N) ∧ wr.cell? ⟨w1.heap.size, 0, none⟩ = some (.int .u64 nh) ∧ wr.cell? ⟨w1.heap.size, 1, none⟩ = some (.int .u64 nl) := by rw [hnh, hnl]; exact hS
      have HK : Hid (∀ W W' : World, (Ext w W ∧ Pair W w1.heap.size N) → Ext W W' → (Ext w W' ∧ Pair W' w1.heap.size N) ∧ W'.cell? ⟨w1.heap.size, 0, none⟩ = some (.int .u64 nh) ∧ W'.cell? ⟨w1.heap.size, 1, none⟩ = some (.int .u64 nl)) := by
        intro W W' h e; rw [hnh, hnl]; exact Stands.mk' (h.1.trans e) (h.2.ext e)
      rw [← hnh, ← hnl] at c2
      clear hj hj0 hR hN hE hP hS hnh hnl hyh hyl hye hY hp hp0
      by_cases hd : N < y * y
      · have HR : Hid (Rooted N i r) := HN.out hd
        have ec : cmpI ((y * y : Nat) : Int) N = 1 := by unfold cmpI; rw [if_neg (by omega), if_pos (by omega)]
        rw [ec] at c2
        clear HN HY ec hd
        go_upto_region 8 with fail
        clear ey
        go_region_held3 (fun w' => (Ext w w' ∧ Pair w' w1.heap.size N) ∧ w'.cell? ⟨w1.heap.size, 0, none⟩ = some (.int .u64 nh) ∧ w'.cell? ⟨w1.heap.size, 1, none⟩ = some (.int .u64 nl))
          (first
            | assumption
            | exact HK.out _ _ hK.1 ((Ext.refl _).drew))
          (first
            | (go_at_call 17; refine (c1 _).mono ?_; rintro e w2 ⟨rfl, E2⟩; have hS2 := HK.out _ _ (And.left (by assumption)) E2)
            | (go_at_call 18; refine (c2 _).mono ?_; rintro e w2 ⟨rfl, E2⟩; have hS2 := HK.out _ _ (And.left (by assumption)) E2))
        go_wp2
        go_roundw
        case rel => exact ⟨i, r, by have := HI.out; omega, rfl, rfl, HR.out, hS2.1.1, hS2.1.2⟩
        case measure => simp [intOf]
      · have HR : Hid (Rooted N i y) := HY.out hd
        obtain ⟨cv, ec⟩ : ∃ cv, cv = cmpI ((y * y : Nat) : Int) N := ⟨_, rfl⟩
        have hcv : cv ≤ 0 := by rw [ec]; unfold cmpI; rw [if_neg (c := (N : Int) < _) (by omega)]; split <;> decide
        rw [← ec] at c2
        clear HN HY ec hd
        go_upto_region 8 with fail
        clear ey
        go_region_held3 (fun w' => (Ext w w' ∧ Pair w' w1.heap.size N) ∧ w'.cell? ⟨w1.heap.size, 0, none⟩ = some (.int .u64 nh) ∧ w'.cell? ⟨w1.heap.size, 1, none⟩ = some (.int .u64 nl))
          (first
            | assumption
            | exact HK.out _ _ hK.1 ((Ext.refl _).drew))
          (first
            | (go_at_call 17; refine (c1 _).mono ?_; rintro e w2 ⟨rfl, E2⟩; have hS2 := HK.out _ _ (And.left (by assumption)) E2)
            | (go_at_call 18; refine (c2 _).mono ?_; rintro e w2 ⟨rfl, E2⟩; have hS2 := HK.out _ _ (And.left (by assumption)) E2))
        go_wp2
        go_roundw
        case rel => exact ⟨i, y, by have := HI.out; omega, by rw [HY2.out], rfl, HR.out, hS2.1.1, hS2.1.2⟩
        case measure => simp [intOf]
end Go.Proofs.Ytbonaldlljdaoaa

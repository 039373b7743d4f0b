/-
  Contracts of the document's words of 128 bits: twice, which is greater, products bit by bit.
-/
import Derived.Test.YtdmiddpfgmbbhaaGreatDoorFixA
import Derived.Test.YtdmiddpfgmbbhaaGreatDoorBits
namespace Go.Proofs.YtdmiddpfgmbbhaaGreatDoor
open Go.RowKit
set_option maxHeartbeats 1000000

/-- Block b holds the word x. -/
def Pair (wr : World) (b : Nat) (x : Int) : Prop :=
  b < wr.heap.size ∧ wr.cell? ⟨b, 0, none⟩ = some (.int .u64 (uhi x)) ∧ wr.cell? ⟨b, 1, none⟩ = some (.int .u64 (loOf x)) ∧ wr.frozen? ⟨b, 0, none⟩ = false ∧ wr.frozen? ⟨b, 1, none⟩ = false
theorem Pair.ext {w w' : World} {b : Nat} {x : Int} (h : Pair w b x) (e : Ext w w') : Pair w' b x := by
  obtain ⟨z, c0, c1, f0, f1⟩ := h
  exact ⟨Nat.lt_of_lt_of_le z e.size, (e.cell.1 b 0 z).trans c0, (e.cell.1 b 1 z).trans c1, (e.cell.2 b 0 z).trans f0, (e.cell.2 b 1 z).trans f1⟩
theorem Pair.set {w : World} {b : Nat} {x : Int} (h : Pair w b x) (y : Int) : Pair ((w.setCell ⟨b, 0, none⟩ (.int .u64 (uhi y))).setCell ⟨b, 1, none⟩ (.int .u64 (loOf y))) b y := by
  obtain ⟨z, c0, c1, f0, f1⟩ := h
  have c0' := World.cell?_setCell_same w ⟨b, 0, none⟩ (.int .u64 (uhi y)) (by rw [c0])
  have c1' : (w.setCell ⟨b, 0, none⟩ (.int .u64 (uhi y))).cell? ⟨b, 1, none⟩ = some (.int .u64 (loOf x)) := by
    rw [World.cell?_setCell_other _ _ _ _ (by simp)]; exact c1
  refine ⟨by simpa [World.setCell] using z, ?_, ?_, ?_, ?_⟩
  · rw [World.cell?_setCell_other _ _ _ _ (by simp)]; exact c0'
  · exact World.cell?_setCell_same _ ⟨b, 1, none⟩ _ (by rw [c1'])
  · rw [World.frozen?_setCell, World.frozen?_setCell]; exact f0
  · rw [World.frozen?_setCell, World.frozen?_setCell]; exact f1
theorem Pair.far {w : World} {b c : Nat} {x : Int} (h : Pair w b x) (hc : c ≠ b) (o : Nat) (v : Value) : Pair (w.setCell ⟨c, o, none⟩ v) b x := by
  obtain ⟨z, c0, c1, f0, f1⟩ := h
  refine ⟨by simpa [World.setCell] using z, ?_, ?_, ?_, ?_⟩
  · rw [World.cell?_setCell_far _ _ _ _ hc]; exact c0
  · rw [World.cell?_setCell_far _ _ _ _ hc]; exact c1
  · rw [World.frozen?_setCell]; exact f0
  · rw [World.frozen?_setCell]; exact f1

theorem or_even (t l : Nat) (hl : l < 2) (ht : 2 * t < 18446744073709551616) : bits .or .u64 ((2 * t : Nat) : Int) (l : Int) = ((2 * t + l : Nat) : Int) := by
  rw [bits_or_u64_nat _ _ ht (by omega)]
  have := Nat.two_pow_add_eq_or_of_lt (i := 1) (b := l) (by omega) t
  rw [show (2 : Nat) ^ 1 = 2 from rfl] at this
  rw [← this]
theorem up_hi (x : Int) : bits .or .u64 (IntKind.u64.wrap (uhi x * 2)) (loOf x / 9223372036854775808) = uhi (x * 2) := by
  obtain ⟨h, hh⟩ := Int.eq_ofNat_of_zero_le (uhi_bd x).1
  obtain ⟨l, hl⟩ := Int.eq_ofNat_of_zero_le (lo_bd x).1
  have b1 := (uhi_bd x).2
  have b2 := (lo_bd x).2
  have e1 : IntKind.u64.wrap (uhi x * 2) = ((2 * (h % 9223372036854775808) : Nat) : Int) := by rw [hh, wrapU]; omega
  have e2 : loOf x / 9223372036854775808 = ((l / 9223372036854775808 : Nat) : Int) := by rw [hl]; omega
  rw [e1, e2, or_even _ _ (by omega) (by omega)]
  have e3 : uhi (x * 2) = (uhi x * 2 + loOf x / 9223372036854775808) % 18446744073709551616 := by unfold uhi loOf; omega
  rw [e3, hh, hl]
  omega
theorem up_lo (x : Int) : IntKind.u64.wrap (loOf x * 2) = loOf (x * 2) := by rw [wrapU]; unfold loOf; omega
theorem up_w (x : Int) (w : World) : Calls Tryz.prog 62 #[.agg #[.int .u64 (uhi x), .int .u64 (loOf x)]] w fun e w' => e = .returned (.agg #[.int .u64 (uhi (x * 2)), .int .u64 (loOf (x * 2))]) ∧ Ext w w' := by
  have e1 := up_hi x
  have e2 := up_lo x
  obtain ⟨a1, a2⟩ := uhi_bd x; obtain ⟨b1, b2⟩ := lo_bd x
  generalize uhi (x * 2) = H at *
  generalize loOf (x * 2) = L at *
  go_enter Tryz.func62, Tryz.ntmps62
  go_wp2
  simp [bodyPost, results, Tryz.results62, go_sem]
  exact (by repeat (first | exact Ext.refl _ | apply Ext.drew | apply Ext.drewN | apply Ext.alloc | refine Ext.setCell ?_ (by simp) _))

/-- Which is greater. -/
def cmpI (x y : Int) : Int := if x < y then -1 else if y < x then 1 else 0
theorem cmp_w (x y : Int) (hx : 0 ≤ x) (hx' : x < 340282366920938463463374607431768211456) (hy : 0 ≤ y) (hy' : y < 340282366920938463463374607431768211456) (w : World) :
    Calls Tryz.prog 61 #[.agg #[.int .u64 (uhi x), .int .u64 (loOf x)], .agg #[.int .u64 (uhi y), .int .u64 (loOf y)]] w fun e w' => e = .returned (.int .i64 (cmpI x y)) ∧ Ext w w' := by
  have hX : x = uhi x * 18446744073709551616 + loOf x := by unfold uhi loOf; omega
  have hY : y = uhi y * 18446744073709551616 + loOf y := by unfold uhi loOf; omega
  have hc : cmpI x y = if uhi x < uhi y then -1 else if uhi y < uhi x then 1 else if loOf x < loOf y then -1 else if loOf y < loOf x then 1 else 0 := by
    have b1 := uhi_bd x; have b2 := lo_bd x; have b3 := uhi_bd y; have b4 := lo_bd y
    unfold U64 at b1 b2 b3 b4
    unfold cmpI
    generalize uhi x = xh at *
    generalize loOf x = xl at *
    generalize uhi y = yh at *
    generalize loOf y = yl at *
    repeat' split
    all_goals omega
  rw [hc]
  clear hX hY hc hx hx' hy hy'
  generalize uhi x = xh at *
  generalize loOf x = xl at *
  generalize uhi y = yh at *
  generalize loOf y = yl at *
  by_cases g1 : xh < yh
  · have n1 : (xh != yh) = true := by simp; omega
    go_enter Tryz.func61, Tryz.ntmps61
    go_wp2
    go_ret
    exact ⟨rfl, (Ext.refl _).alloc _ |>.alloc _⟩
  by_cases g2 : yh < xh
  · have n1 : (xh != yh) = true := by simp; omega
    go_enter Tryz.func61, Tryz.ntmps61
    go_wp2
    go_ret
    exact ⟨rfl, (Ext.refl _).alloc _ |>.alloc _⟩
  have g3 : yh = xh := by omega
  subst g3
  by_cases g4 : xl < yl
  · go_enter Tryz.func61, Tryz.ntmps61
    go_wp2
    go_ret
    exact ⟨rfl, (Ext.refl _).alloc _ |>.alloc _⟩
  by_cases g5 : yl < xl
  · go_enter Tryz.func61, Tryz.ntmps61
    go_wp2
    go_ret
    exact ⟨rfl, (Ext.refl _).alloc _ |>.alloc _⟩
  · go_enter Tryz.func61, Tryz.ntmps61
    go_wp2
    go_ret
    exact ⟨rfl, (Ext.refl _).alloc _ |>.alloc _⟩
theorem and_one (m : Nat) (h : m < 18446744073709551616) : bits .and .u64 (m : Int) 1 = ((m % 2 : Nat) : Int) := by
  have := bits_and_u64_nat m 1 h (by omega)
  rw [Nat.and_one_is_mod] at this
  exact this
theorem half_step (b j : Nat) : b / 2 ^ j = 2 * (b / 2 ^ (j + 1)) + b / 2 ^ j % 2 := by
  rw [Nat.pow_succ, ← Nat.div_div_eq_div_mul]
  omega
theorem prod_no (a b j : Nat) (h : b / 2 ^ j % 2 = 0) : a * (b / 2 ^ j) = a * (b / 2 ^ (j + 1)) * 2 := by
  have e := half_step b j
  rw [h] at e
  rw [e, Nat.add_zero, Nat.mul_comm 2, Nat.mul_assoc]
theorem prod_yes (a b j : Nat) (h : b / 2 ^ j % 2 = 1) : a * (b / 2 ^ j) = a * (b / 2 ^ (j + 1)) * 2 + a := by
  have e := half_step b j
  rw [h] at e
  rw [e, Nat.mul_add, Nat.mul_one, Nat.mul_comm 2, Nat.mul_assoc]
theorem product_any (a b : Nat) (ha : a < 18446744073709551616) (hb : b < 18446744073709551616) (w : World) :
    Calls Tryz.prog 44 #[.int .u64 a, .int .u64 b] w fun e w' => e = .returned (.agg #[.int .u64 (uhi ((a * b : Nat) : Int)), .int .u64 (loOf ((a * b : Nat) : Int))]) ∧ Ext w w' := by
  have u0 : uhi 0 = 0 := by decide
  have l0 : loOf 0 = 0 := by decide
  go_enter Tryz.func44, Tryz.ntmps44
  go_wp2
  go_loopw [6] (fun i wr => ∃ k : Nat, k ≤ 64 ∧ i = .int .i64 ((k : Int) - 1) ∧ Ext w wr ∧ Pair wr (w.heap.size + 1) ((a * (b / 2 ^ k) : Nat) : Int) ∧ Pair wr w.heap.size 0) (fun i _ => (intOf i + 1).toNat)
  case atStart =>
    refine ⟨64, Nat.le_refl _, rfl, ?_, ?_, ?_⟩
    · exact ((Ext.refl _).alloc _).alloc _
    · have : b / 2 ^ 64 = 0 := Nat.div_eq_of_lt hb
      rw [this, Nat.mul_zero]
      simp [Pair, u0, l0, go_sem]
    · simp [Pair, u0, l0, go_sem, World.cell?_alloc_past]
  case round =>
    obtain ⟨k, hk, rfl, hE, hp, hq⟩ := hrel
    rcases Nat.eq_zero_or_pos k with rfl | hk0
    · obtain ⟨z, c0, c1, f0, f1⟩ := hp
      obtain ⟨z', c0', c1', f0', f1'⟩ := hq
      rw [Nat.pow_zero, Nat.div_one] at c0 c1
      go_wp2
      simp [bodyPost, results, Tryz.results44, go_sem, *]
      refine Ext.setCell (Ext.setCell hE ?_ _) ?_ _ <;> simp
    · obtain ⟨j, rfl⟩ : ∃ j, k = j + 1 := ⟨k - 1, by omega⟩
      have ej : (((j + 1 : Nat) : Int) - 1) = (j : Int) := by omega
      rw [ej]
      clear ej
      have eb : bits .and .u64 ((b : Int) / 2 ^ j) 1 = ((b / 2 ^ j % 2 : Nat) : Int) := by
        have : (b : Int) / 2 ^ j = ((b / 2 ^ j : Nat) : Int) := by simp
        rw [this]
        exact and_one _ (Nat.lt_of_le_of_lt (Nat.div_le_self _ _) hb)
      have hj : j < 64 := by omega
      have hjI : (j : Int) < 64 := by omega
      clear hk hk0
      have cU := fun W => up_w ((a * (b / 2 ^ (j + 1)) : Nat) : Int) W
      have cP := fun W => plusW_w (((a * (b / 2 ^ (j + 1)) : Nat) : Int) * 2) (a : Int) W
      have ha0 : uhi (a : Int) = 0 := by unfold uhi; omega
      have ha1 : loOf (a : Int) = a := by unfold loOf; omega
      rw [ha0, ha1] at cP
      obtain ⟨z, c0, c1, f0, f1⟩ := hp
      rcases Nat.mod_two_eq_zero_or_one (b / 2 ^ j) with hbit | hbit
      · have HX : Hid (((a * (b / 2 ^ j) : Nat) : Int) = ((a * (b / 2 ^ (j + 1)) : Nat) : Int) * 2) := by
          show ((a * (b / 2 ^ j) : Nat) : Int) = _
          rw [prod_no a b j hbit]; omega
        rw [hbit] at eb
        clear hbit cP ha0 ha1
        generalize ((a * (b / 2 ^ (j + 1)) : Nat) : Int) = x at *
        have hp0 : Pair wr (w.heap.size + 1) x := ⟨z, c0, c1, f0, f1⟩
        go_wp2_with fail
        refine (cU _).mono ?_
        rintro e w1 ⟨rfl, E1⟩
        have hp1 := hp0.ext E1
        have HP1 : Hid (Pair w1 (w.heap.size + 1) x) := hp1
        have hq1 := hq.ext E1
        obtain ⟨z1, d0, d1, g0, g1⟩ := hp1
        have hE1 := hE.trans E1
        clear c0 c1 f0 f1 hp0 z hq
        go_wp2
        go_roundw
        case rel => exact ⟨j, by omega, rfl, (hE1.setCell (by simp) _).setCell (by simp) _, by rw [HX.out]; exact HP1.out.set _, (hq1.far (by omega) _ _).far (by omega) _ _⟩
        case measure => simp [intOf]
      · have HX : Hid (((a * (b / 2 ^ j) : Nat) : Int) = ((a * (b / 2 ^ (j + 1)) : Nat) : Int) * 2 + a) := by
          show ((a * (b / 2 ^ j) : Nat) : Int) = _
          rw [prod_yes a b j hbit]; omega
        rw [hbit] at eb
        clear hbit ha0 ha1
        generalize ((a * (b / 2 ^ (j + 1)) : Nat) : Int) = x at *
        have hp0 : Pair wr (w.heap.size + 1) x := ⟨z, c0, c1, f0, f1⟩
        go_wp2_with fail
        refine (cU _).mono ?_
        rintro e w1 ⟨rfl, E1⟩
        have hp1 := hp0.ext E1
        have HP1 : Hid (Pair w1 (w.heap.size + 1) x) := hp1
        have hq1 := hq.ext E1
        obtain ⟨z1, d0, d1, g0, g1⟩ := hp1
        have hE1 := hE.trans E1
        clear c0 c1 f0 f1 hp0 z hq
        go_wp2_with fail
        refine (cP _).mono ?_
        rintro e w2 ⟨rfl, E2⟩
        have hp2 := (HP1.out.set (x * 2)).ext E2
        have HP2 : Hid (Pair w2 (w.heap.size + 1) (x * 2)) := hp2
        have hq2 := ((hq1.far (c := w.heap.size + 1) (by omega) 0 (.int .u64 (uhi (x * 2)))).far (c := w.heap.size + 1) (by omega) 1 (.int .u64 (loOf (x * 2)))).ext E2
        have hE2 := ((hE1.setCell (p := ⟨w.heap.size + 1, 0, none⟩) (by simp) (.int .u64 (uhi (x * 2)))).setCell (p := ⟨w.heap.size + 1, 1, none⟩) (by simp) (.int .u64 (loOf (x * 2)))).trans E2
        obtain ⟨z2, k0, k1, m0, m1⟩ := hp2
        clear d0 d1 g0 g1 z1 hq1
        go_wp2
        go_roundw
        case rel => exact ⟨j, by omega, rfl, (hE2.setCell (by simp) _).setCell (by simp) _, by rw [HX.out]; exact HP2.out.set _, (hq2.far (by omega) _ _).far (by omega) _ _⟩
        case measure => simp [intOf]
end Go.Proofs.YtdmiddpfgmbbhaaGreatDoor

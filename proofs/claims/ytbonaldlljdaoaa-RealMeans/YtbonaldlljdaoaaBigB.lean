/-
  Contracts of the document's numbers of any size: a bit, noughts left out, which is greater, small ones.
-/
import Derived.Test.YtbonaldlljdaoaaBigA
namespace Go.Proofs.Ytbonaldlljdaoaa
open Go.RowKit
set_option maxHeartbeats 1000000

theorem at_any (l : List Bool) (v : Value) (i : Nat) (w : World) (h : Row w v l) (hl : l.length ≤ 100000) :
    Calls Try.prog 51 #[v, .int .i64 i] w fun e w' => e = .returned (.int .i64 (((l[i]?).getD false).toNat : Int)) ∧ w' = w := by
  obtain ⟨b, c, rfl, h1, h2, h3⟩ := h
  rcases Nat.lt_or_ge i l.length with g | g
  · obtain ⟨x, hx⟩ : ∃ x, l[i]? = some x := ⟨_, List.getElem?_eq_getElem g⟩
    have hc := h3 i x hx
    rw [hx]
    have gI : (i : Int) < (l.length : Int) := by omega
    have hlI : (l.length : Int) ≤ 100000 := by omega
    clear h3 hx
    generalize l.length = L at *
    cases x
    all_goals
      go_enter Try.func51, Try.ntmps51
      go_wp2
      go_ret
      exact ⟨rfl, rfl⟩
  · rw [List.getElem?_eq_none g]
    have gI : (l.length : Int) ≤ (i : Int) := by omega
    have hlI : (l.length : Int) ≤ 100000 := by omega
    clear h3
    generalize l.length = L at *
    go_enter Try.func51, Try.ntmps51
    go_wp2
    go_ret
    exact ⟨rfl, rfl⟩
theorem at_bit (x : Nat) (v : Value) (i : Nat) (w : World) (h : IsBig w v x) (hl : blen x ≤ 100000) :
    Calls Try.prog 51 #[v, .int .i64 i] w fun e w' => e = .returned (.int .i64 ((x / 2 ^ i % 2 : Nat) : Int)) ∧ w' = w := by
  have := at_any (bitsOf x) v i w h hl
  have e : ((((bitsOf x)[i]?).getD false).toNat : Nat) = x / 2 ^ i % 2 := by
    rcases Nat.lt_or_ge i (blen x) with g | g
    · rw [bits_at x i g]
      rcases Nat.mod_two_eq_zero_or_one (x / 2 ^ i) with g | g <;> rw [g] <;> rfl
    · rw [List.getElem?_eq_none g]
      have : x < 2 ^ i := Nat.lt_of_lt_of_le (lt_blen x) (Nat.pow_le_pow_right (by decide) g)
      rw [Nat.div_eq_of_lt this]; rfl
  rw [e] at this
  exact this
theorem canon_true (l : List Bool) : Canon (l ++ [true]) := by
  intro m b h
  have := congrArg List.getLast? h
  simpa using this.symm
theorem trim_any (l : List Bool) (v : Value) (w : World) (h : Row w v l) (hl : l.length ≤ 100000) :
    Calls Try.prog 57 #[v] w fun e w' => (∃ v', e = .returned v' ∧ IsBig w v' (valOf l)) ∧ w' = w := by
  obtain ⟨b, c, rfl, h1, h2, h3⟩ := h
  have HR : Hid (∀ n, n ≤ l.length → Canon (l.take n) → valOf (l.take n) = valOf l → IsBig w (.slice (some ⟨b, 0, none⟩) n c) (valOf l)) := by
    intro n hn hc hv
    have e := bits_of_canon _ hc
    rw [hv] at e
    show Row w _ (bitsOf (valOf l))
    rw [e]
    refine ⟨b, c, by rw [List.length_take, Nat.min_eq_left hn], by rw [List.length_take]; omega, h2, ?_⟩
    intro i x hx
    refine h3 i x ?_
    rw [List.getElem?_take] at hx
    split at hx
    · exact hx
    · cases hx
  have H3 : Hid (∀ i x, l[i]? = some x → w.cell? ⟨b, i, none⟩ = some (.bool x)) := h3
  obtain ⟨L, hL⟩ : ∃ L, L = l.length := ⟨_, rfl⟩
  rw [← hL] at h1 hl ⊢
  have HL : Hid (L = l.length) := hL
  have hlI : (L : Int) ≤ 100000 := by omega
  have h1I : (L : Int) ≤ (c : Int) := by omega
  clear h3 hL
  go_enter Try.func57, Try.ntmps57
  go_wp2
  go_loopw [3] (fun x wr => ∃ n : Nat, x = .int .i64 (n : Int) ∧ n ≤ L ∧ valOf (l.take n) = valOf l ∧ wr = w) (fun x _ => (intOf x).toNat)
  case atStart => exact ⟨L, rfl, Nat.le_refl _, by rw [HL.out, List.take_length], rfl⟩
  case round =>
    obtain ⟨n, rfl, hn, hv, rfl⟩ := hrel
    rcases Nat.eq_zero_or_pos n with rfl | h0
    · have HV : Hid (valOf (l.take 0) = valOf l) := hv
      clear hv
      go_wp2
      go_ret
      exact ⟨⟨_, rfl, HR.out 0 (Nat.zero_le _) (fun m b e => by simp at e) HV.out⟩, rfl⟩
    · obtain ⟨i, rfl⟩ : ∃ i, n = i + 1 := ⟨n - 1, by omega⟩
      obtain ⟨x, hx⟩ : ∃ x, l[i]? = some x := ⟨_, List.getElem?_eq_getElem (by have := HL.out; omega)⟩
      have hc := H3.out i x hx
      have HX : Hid (l.take (i + 1) = l.take i ++ [x]) := val_take_succ l i x hx
      have HV : Hid (valOf (l.take (i + 1)) = valOf l) := hv
      have HI : Hid (i + 1 ≤ L) := hn
      clear hv hx
      have ei : ((i + 1 : Nat) : Int) = (i : Int) + 1 := by omega
      rw [ei]
      have hiL : (i : Int) + 1 ≤ (L : Int) := by omega
      clear ei hn h0
      cases x
      · go_wp2
        go_roundw
        case rel =>
          refine ⟨i, by go_num, by have := HI.out; omega, ?_, trivial⟩
          have e := HV.out
          rw [HX.out, valOf_append] at e
          simpa [valOf] using e
        case measure => simp [intOf]
      · go_wp2
        go_ret
        refine ⟨⟨_, rfl, HR.out (i + 1) (by rw [← HL.out]; exact HI.out) ?_ HV.out⟩, rfl⟩
        rw [HX.out]
        exact canon_true _
/-- What Cmp tells. -/
theorem shift_lt {x y i : Nat} (h : x / 2 ^ i < y / 2 ^ i) : x < y := by
  rcases Nat.lt_or_ge x y with g | g
  · exact g
  · have := Nat.div_le_div_right (c := 2 ^ i) g; omega
theorem cmp_big (x y : Nat) (va vb : Value) (w : World) (ha : IsBig w va x) (hb : IsBig w vb y) (hx : blen x ≤ 100000) (hy : blen y ≤ 100000) :
    Calls Try.prog 50 #[va, vb] w fun e w' => (∃ c : Int, e = .returned (.int .i64 c) ∧ (c < 0 ↔ x < y) ∧ (0 < c ↔ y < x)) ∧ Ext w w' := by
  obtain ⟨p, pc, rfl, h1, h2, h3⟩ := ha
  obtain ⟨q, qc, rfl, k1, k2, k3⟩ := hb
  have h4 : ∀ i, i < blen x → w.cell? ⟨p, i, none⟩ = some (.bool (x / 2 ^ i % 2 == 1)) := fun i hi => h3 i _ (bits_at x i hi)
  have k4 : ∀ i, i < blen y → w.cell? ⟨q, i, none⟩ = some (.bool (y / 2 ^ i % 2 == 1)) := fun i hi => k3 i _ (bits_at y i hi)
  change blen x ≤ pc at h1
  change blen y ≤ qc at k1
  show Calls Try.prog 50 #[.slice (some ⟨p, 0, none⟩) (blen x) pc, .slice (some ⟨q, 0, none⟩) (blen y) qc] w _
  have hlx := lt_blen x
  have hly := lt_blen y
  have hgx : blen x < blen y → x < y := fun g => by
    rcases Nat.lt_or_ge x y with z | z
    · exact z
    · have := blen_mono z; omega
  have hgy : blen y < blen x → y < x := fun g => by
    rcases Nat.lt_or_ge y x with z | z
    · exact z
    · have := blen_mono z; omega
  have H4 : Hid (∀ i, i < blen x → w.cell? ⟨p, i, none⟩ = some (.bool (x / 2 ^ i % 2 == 1))) := h4
  have K4 : Hid (∀ i, i < blen y → w.cell? ⟨q, i, none⟩ = some (.bool (y / 2 ^ i % 2 == 1))) := k4
  have HX : Hid (x < 2 ^ blen x ∧ y < 2 ^ blen y) := ⟨hlx, hly⟩
  have HG : Hid ((blen x < blen y → x < y) ∧ (blen y < blen x → y < x)) := ⟨hgx, hgy⟩
  clear h3 k3 h4 k4 hlx hly hgx hgy
  generalize blen x = X at *
  generalize blen y = Y at *
  have hXI : (X : Int) ≤ 100000 := by omega
  have hYI : (Y : Int) ≤ 100000 := by omega
  by_cases hne : X = Y
  · subst hne
    go_enter Try.func50, Try.ntmps50
    go_wp2
    go_loopw [5] (fun i wr => ∃ j : Nat, j ≤ X ∧ i = .int .i64 ((j : Int) - 1) ∧ x / 2 ^ j = y / 2 ^ j ∧ Ext w wr) (fun i _ => (intOf i + 1).toNat)
    case atStart =>
      refine ⟨X, Nat.le_refl _, rfl, ?_, Ext.refl _⟩
      rw [Nat.div_eq_of_lt HX.out.1, Nat.div_eq_of_lt HX.out.2]
    case round =>
      obtain ⟨j, hj, rfl, he, hE⟩ := hrel
      rcases Nat.eq_zero_or_pos j with rfl | hj0
      · rw [Nat.pow_zero, Nat.div_one, Nat.div_one] at he
        have HE : Hid (x = y) := he
        clear he
        go_wp2
        go_ret
        have e := HE.out
        exact ⟨⟨0, rfl, by omega, by omega⟩, hE⟩
      · obtain ⟨i, rfl⟩ : ∃ i, j = i + 1 := ⟨j - 1, by omega⟩
        have ej : (((i + 1 : Nat) : Int) - 1) = (i : Int) := by omega
        rw [ej]
        clear ej
        have ca := (hE.cell.1 p i h2).trans (H4.out i (by omega))
        have cb := (hE.cell.1 q i k2).trans (K4.out i (by omega))
        have ex := half_step x i
        have ey := half_step y i
        rw [he] at ex
        have hiX : (i : Int) < (X : Int) := by omega
        have HJ : Hid (i + 1 ≤ X) := hj
        have HB : Hid ((x / 2 ^ i % 2 = 1 → y / 2 ^ i % 2 = 0 → y < x) ∧ (x / 2 ^ i % 2 = 0 → y / 2 ^ i % 2 = 1 → x < y) ∧ (x / 2 ^ i % 2 = y / 2 ^ i % 2 → x / 2 ^ i = y / 2 ^ i)) :=
          ⟨fun g1 g2 => shift_lt (i := i) (by omega), fun g1 g2 => shift_lt (i := i) (by omega), fun g => by omega⟩
        clear ex ey he hj hj0
        have HS : Hid (x / 2 ^ i % 2 = y / 2 ^ i % 2 → x / 2 ^ i = y / 2 ^ i) := HB.out.2.2
        rcases Nat.mod_two_eq_zero_or_one (x / 2 ^ i) with gx | gx <;> rcases Nat.mod_two_eq_zero_or_one (y / 2 ^ i) with gy | gy
        · have HC : Hid (x / 2 ^ i = y / 2 ^ i) := HS.out (by omega)
          rw [gx] at ca; rw [gy] at cb
          simp only [Nat.reduceBEq] at ca cb
          clear gx gy HB HS
          go_upto_region 6 with fail
          go_region
          go_wp2
          go_roundw
          case rel => exact ⟨i, by have := HJ.out; omega, rfl, HC.out, hE.drew⟩
          case measure => simp [intOf]
        · have HC : Hid (x < y) := HB.out.2.1 gx gy
          rw [gx] at ca; rw [gy] at cb
          simp only [Nat.reduceBEq] at ca cb
          clear gx gy HB HS
          go_upto_region 6 with fail
          go_region
          go_wp2
          go_ret
          have e := HC.out
          exact ⟨⟨-1, rfl, by omega, by omega⟩, hE.drew⟩
        · have HC : Hid (y < x) := HB.out.1 gx gy
          rw [gx] at ca; rw [gy] at cb
          simp only [Nat.reduceBEq] at ca cb
          clear gx gy HB HS
          go_upto_region 6 with fail
          go_region
          go_wp2
          go_ret
          have e := HC.out
          exact ⟨⟨1, rfl, by omega, by omega⟩, hE.drew⟩
        · have HC : Hid (x / 2 ^ i = y / 2 ^ i) := HS.out (by omega)
          rw [gx] at ca; rw [gy] at cb
          simp only [Nat.reduceBEq] at ca cb
          clear gx gy HB HS
          go_upto_region 6 with fail
          go_region
          go_wp2
          go_roundw
          case rel => exact ⟨i, by have := HJ.out; omega, rfl, HC.out, hE.drew⟩
          case measure => simp [intOf]
  · have hneI : ((X : Int) != (Y : Int)) = true := by simp; omega
    go_enter Try.func50, Try.ntmps50
    go_wp2
    go_ret
    have g := HG.out
    refine ⟨⟨(X : Int) - Y, rfl, ?_, ?_⟩, Ext.refl _⟩
    · constructor
      · intro h; exact g.1 (by omega)
      · intro h
        rcases Nat.lt_or_ge X Y with z | z
        · omega
        · have := g.2 (by omega); omega
    · constructor
      · intro h; exact g.2 (by omega)
      · intro h
        rcases Nat.lt_or_ge Y X with z | z
        · omega
        · have := g.1 (by omega); omega
theorem small_any (x : Nat) (va : Value) (w : World) (ha : IsBig w va x) (hx : x < 18446744073709551616) :
    Calls Try.prog 32 #[va] w fun e w' => e = .returned (.int .u64 (x : Int)) ∧ w' = w := by
  have hl : blen x ≤ 64 := blen_le hx
  have HX : Hid (x < 2 ^ blen x ∧ x < 18446744073709551616) := ⟨lt_blen x, hx⟩
  have HA : Hid (∀ i : Nat, Calls Try.prog 51 #[va, .int .i64 i] w fun e w' => e = .returned (.int .i64 ((x / 2 ^ i % 2 : Nat) : Int)) ∧ w' = w) := fun i => at_bit x va i w ha (by omega)
  obtain ⟨p, pc, hv, _, _, _⟩ := ha
  change va = .slice (some ⟨p, 0, none⟩) (blen x) pc at hv
  subst hv
  clear hx
  generalize blen x = L at *
  have hlI : (L : Int) ≤ 64 := by omega
  go_enter Try.func32, Try.ntmps32
  go_wp2
  go_loopw [3, 4] (fun n i wr => ∃ j : Nat, j ≤ L ∧ i = .int .i64 ((j : Int) - 1) ∧ n = .int .u64 ((x / 2 ^ j : Nat) : Int) ∧ wr = w) (fun _ i _ => (intOf i + 1).toNat)
  case atStart =>
    refine ⟨L, Nat.le_refl _, rfl, ?_, rfl⟩
    rw [Nat.div_eq_of_lt HX.out.1]; rfl
  case round =>
    obtain ⟨j, hj, rfl, rfl, rfl⟩ := hrel
    rcases Nat.eq_zero_or_pos j with rfl | hj0
    · rw [Nat.pow_zero, Nat.div_one]
      go_wp2
      go_ret
      exact ⟨rfl, rfl⟩
    · obtain ⟨i, rfl⟩ : ∃ i, j = i + 1 := ⟨j - 1, by omega⟩
      have ej : (((i + 1 : Nat) : Int) - 1) = (i : Int) := by omega
      rw [ej]
      clear ej
      have cA := HA.out i
      have es := half_step x i
      have hb : x / 2 ^ i ≤ x := Nat.div_le_self _ _
      have hm : x / 2 ^ i % 2 ≤ 1 := by omega
      have HI : Hid (i ≤ L) := by show i ≤ L; omega
      have hiI : (i : Int) ≤ 64 := by omega
      have hXX := HX.out.2
      obtain ⟨D, hD⟩ : ∃ D, D = x / 2 ^ i := ⟨_, rfl⟩
      have HD : Hid (D = x / 2 ^ i) := hD
      rw [← hD] at cA es hb hm
      generalize x / 2 ^ (i + 1) = E at *
      generalize D % 2 = M at *
      have ew : IntKind.u64.wrap (2 * (E : Int) + (M : Int)) = (D : Int) := by rw [wrapU]; omega
      have hE2 : 2 * (E : Int) < 18446744073709551616 := by omega
      have hM0 : (M : Int) ≤ 1 := by omega
      clear hXX hD es hb hj hj0
      go_wp2_with fail
      refine cA.mono ?_
      rintro e w1 ⟨rfl, rfl⟩
      go_wp2
      go_roundw
      case rel => exact ⟨i, HI.out, rfl, by rw [← HD.out], trivial⟩
      case measure => simp [intOf]
end Go.Proofs.Ytbonaldlljdaoaa

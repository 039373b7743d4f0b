/-
  Quotients rounded to the nearest, of two the even one: plain arithmetic, no program in sight.
-/
import Derived.Test.YtbonaldlljdaoaaNum
namespace Go.Proofs.Ytbonaldlljdaoaa

/-- n by u, rounded to the nearest, of two the even one. -/
def evenQ (n u : Nat) : Nat := n / u + if u < 2 * (n % u) ∨ (u = 2 * (n % u) ∧ n / u % 2 = 1) then 1 else 0

theorem evenQ_scale (n u c : Nat) (hc : 0 < c) : evenQ (n * c) (u * c) = evenQ n u := by
  unfold evenQ
  rw [Nat.mul_div_mul_right _ _ hc, Nat.mul_mod_mul_right]
  have e1 : (u * c < 2 * (n % u * c)) ↔ u < 2 * (n % u) := by rw [← Nat.mul_assoc]; exact Nat.mul_lt_mul_right hc
  have e2 : (u * c = 2 * (n % u * c)) ↔ u = 2 * (n % u) := by rw [← Nat.mul_assoc]; exact Nat.mul_left_inj (Nat.pos_iff_ne_zero.mp hc)
  simp only [e1, e2]
theorem evenQ_mono {n m : Nat} (u : Nat) (h : n ≤ m) : evenQ n u ≤ evenQ m u := by
  unfold evenQ
  have hq : n / u ≤ m / u := Nat.div_le_div_right h
  rcases Nat.lt_or_eq_of_le hq with g | g
  · split <;> split <;> omega
  · have e1 := Nat.div_add_mod n u
    have e2 := Nat.div_add_mod m u
    rw [g] at e1 ⊢
    generalize u * (m / u) = z at *
    split <;> split <;> omega
theorem evenQ_exact (a u : Nat) (hu : 0 < u) : evenQ (a * u) u = a := by
  unfold evenQ
  rw [Nat.mul_div_cancel _ hu, Nat.mul_mod_left]
  rw [if_neg (by omega)]
  rfl
theorem evenQ_ge {a n u : Nat} (hu : 0 < u) (h : a * u ≤ n) : a ≤ evenQ n u := by
  have := evenQ_mono u h
  rwa [evenQ_exact a u hu] at this
theorem evenQ_le {b n u : Nat} (hu : 0 < u) (h : n ≤ b * u) : evenQ n u ≤ b := by
  have := evenQ_mono u h
  rwa [evenQ_exact b u hu] at this
theorem evenQ_cross {n u m v : Nat} (hu : 0 < u) (hv : 0 < v) (h : n * v ≤ m * u) : evenQ n u ≤ evenQ m v := by
  rw [← evenQ_scale n u v hv, ← evenQ_scale m v u hu, Nat.mul_comm v u]
  exact evenQ_mono _ h
theorem evenQ_small {n u : Nat} (h : 2 * n < u) : evenQ n u = 0 := by
  unfold evenQ
  rw [Nat.div_eq_of_lt (by omega), Nat.mod_eq_of_lt (by omega), if_neg (by omega)]
theorem evenQ_near (n u : Nat) (hu : 0 < u) : 2 * n ≤ 2 * (evenQ n u * u) + u ∧ 2 * (evenQ n u * u) ≤ 2 * n + u := by
  unfold evenQ
  have e := Nat.div_add_mod n u
  rw [Nat.mul_comm] at e
  rw [Nat.add_mul]
  generalize hz : n / u * u = z at *
  have l := Nat.mod_lt n hu
  constructor <;> split <;> omega
/-- What is near enough is it. -/
theorem evenQ_of_near {n u a : Nat} (hu : 0 < u) (h1 : 2 * n < 2 * (a * u) + u) (h2 : 2 * (a * u) < 2 * n + u) : evenQ n u = a := by
  have ⟨g1, g2⟩ := evenQ_near n u hu
  generalize evenQ n u = q at *
  rcases Nat.lt_trichotomy q a with g | g | g
  · have := Nat.mul_le_mul_right u (show q + 1 ≤ a from g)
    rw [Nat.add_mul, Nat.one_mul] at this; omega
  · exact g
  · have := Nat.mul_le_mul_right u (show a + 1 ≤ q from g)
    rw [Nat.add_mul, Nat.one_mul] at this; omega
/-- With the lowest bit set where something is left, it rounds as the whole does. -/
def sticky (X d : Nat) : Nat := if X % d = 0 then X / d else X / d / 2 * 2 + 1
theorem evenQ_sticky (X d k : Nat) (hd : 0 < d) (hk : 0 < k) : evenQ (sticky X d) (4 * k) = evenQ X (d * (4 * k)) := by
  have e := Nat.div_add_mod X d
  have l := Nat.mod_lt X hd
  have hq : X / (d * (4 * k)) = X / d / (4 * k) := (Nat.div_div_eq_div_mul X d (4 * k)).symm
  have hm : X % (d * (4 * k)) = d * (X / d % (4 * k)) + X % d := by
    have := Nat.mod_mul (x := X) (a := d) (b := 4 * k); omega
  unfold evenQ
  rw [hq, hm]
  by_cases h0 : X % d = 0
  · have : sticky X d = X / d := by unfold sticky; rw [if_pos h0]
    rw [this, h0, Nat.add_zero]
    generalize X / d % (4 * k) = r at *
    have e1 : (d * (4 * k) < 2 * (d * r)) ↔ 4 * k < 2 * r := by
      rw [show 2 * (d * r) = d * (2 * r) by rw [Nat.mul_left_comm]]; exact Nat.mul_lt_mul_left hd
    have e2 : (d * (4 * k) = 2 * (d * r)) ↔ 4 * k = 2 * r := by
      rw [show 2 * (d * r) = d * (2 * r) by rw [Nat.mul_left_comm]]; exact Nat.mul_right_inj (Nat.pos_iff_ne_zero.mp hd)
    simp only [e1, e2]
  · have hs : sticky X d = X / d / 2 * 2 + 1 := by unfold sticky; rw [if_neg h0]
    rw [hs]
    generalize X / d = q at *
    generalize X % d = r at *
    have a1 : (q / 2 * 2 + 1) / (4 * k) = q / (4 * k) := by
      have : 4 * k = 2 * (2 * k) := by omega
      rw [this, ← Nat.div_div_eq_div_mul (q / 2 * 2 + 1) 2 (2 * k), ← Nat.div_div_eq_div_mul q 2 (2 * k)]
      rw [show (q / 2 * 2 + 1) / 2 = q / 2 by omega]
    have b1 := Nat.div_add_mod q (4 * k)
    have b2 := Nat.div_add_mod (q / 2 * 2 + 1) (4 * k)
    rw [a1] at b2 ⊢
    have b3 := Nat.mod_lt q (show 0 < 4 * k by omega)
    have b4 := Nat.mod_lt (q / 2 * 2 + 1) (show 0 < 4 * k by omega)
    have b5 : 4 * k * (q / (4 * k)) = 4 * (k * (q / (4 * k))) := Nat.mul_assoc _ _ _
    generalize hs : q % (4 * k) = s at *
    generalize (q / 2 * 2 + 1) % (4 * k) = s' at *
    have c1 : s' = s / 2 * 2 + 1 := by omega
    clear b1 b2 b4 b5 a1 hq hm e hs
    generalize q / (4 * k) = Q at *
    rw [c1]
    have k1 : (d * (4 * k) < 2 * (d * s + r) ∨ (d * (4 * k) = 2 * (d * s + r) ∧ Q % 2 = 1)) ↔ 2 * k ≤ s := by
      constructor
      · intro h
        rcases Nat.lt_or_ge s (2 * k) with g | g
        · have := Nat.mul_le_mul_left d (show s + 1 ≤ 2 * k from g)
          rw [Nat.mul_add, Nat.mul_one] at this
          have e4 : d * (4 * k) = 2 * (d * (2 * k)) := by rw [show 4 * k = 2 * (2 * k) by omega, Nat.mul_left_comm]
          omega
        · exact g
      · intro g
        have := Nat.mul_le_mul_left d g
        have e4 : d * (4 * k) = 2 * (d * (2 * k)) := by rw [show 4 * k = 2 * (2 * k) by omega, Nat.mul_left_comm]
        left
        omega
    have k2 : (4 * k < 2 * (s / 2 * 2 + 1) ∨ (4 * k = 2 * (s / 2 * 2 + 1) ∧ Q % 2 = 1)) ↔ 2 * k ≤ s := by omega
    simp only [k1, k2]
end Go.Proofs.Ytbonaldlljdaoaa

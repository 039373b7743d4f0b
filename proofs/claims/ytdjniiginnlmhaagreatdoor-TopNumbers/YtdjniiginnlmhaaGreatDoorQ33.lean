/-
  A number that is written, read as a formula: plain mathematics.
  Contracts of package real's root, and of the document's: the greatest number whose square is not above a.
  Quotients rounded to the nearest, of two the even one: plain arithmetic, no program in sight.
  Contracts of package real's way from a float's bits to a number.
-/
import Derived.Test.YtdjniiginnlmhaaGreatDoorQ31
import Derived.Test.YtdjniiginnlmhaaGreatDoorQ7
import Derived.Test.YtdjniiginnlmhaaGreatDoorQ6
import Derived.Test.YtdjniiginnlmhaaGreatDoorQ1
namespace Go.Proofs.YtdjniiginnlmhaaGreatDoor
open Go.RowKit

theorem runD_app (A x : List UInt8) (h : A.all dgB = true) : run dgB (A ++ x) = A.length + run dgB x := by
  induction A with
  | nil => simp
  | cons c r ih =>
    simp only [List.all_cons, Bool.and_eq_true] at h
    rw [List.cons_append, run_cons, if_pos h.1, ih h.2, List.length_cons]; omega
theorem runD_all (A : List UInt8) (h : A.all dgB = true) : run dgB A = A.length := by
  have := runD_app A [] h
  rw [List.append_nil, run_nil] at this
  exact this
theorem numE_dotD (A B : List UInt8) (hA : A.all dgB = true) (hB : B.all dgB = true) (h1 : 1 ≤ B.length) : numE (A ++ 46 :: B) = (A ++ 46 :: B).length := by
  have hr : run dgB (A ++ 46 :: B) = A.length := by rw [runD_app A _ hA, run_cons, if_neg (by decide)]; rfl
  unfold numE
  rw [hr]
  have h2 : (A ++ 46 :: B)[A.length]? = some 46 := by simp
  have h3 : (A ++ 46 :: B).drop (A.length + 1) = B := by rw [← List.drop_drop, List.drop_left]; rfl
  rw [h3, runD_all B hB, if_pos ⟨h2, h1⟩]
  simp; omega
theorem numE_bare (A : List UInt8) (hA : A.all dgB = true) : numE A = A.length := by
  unfold numE
  rw [runD_all A hA, if_neg]
  simp
theorem body_numE (n : Nat) : numE (bodyL n) = (bodyL n).length := by
  unfold bodyL
  split
  · rw [List.append_nil]; exact numE_bare _ (dec_all _)
  · rename_i hf
    exact numE_dotD _ _ (dec_all _) (frac_all _ (Nat.mod_lt _ (by decide))) (by
      rcases Nat.eq_zero_or_pos (fracL (n % 10000)).length with h | h
      · exact absurd (List.length_eq_zero_iff.1 h) hf
      · exact h)
theorem body_head (n : Nat) : ∃ c r, bodyL n = c :: r ∧ dgB c = true := by
  have h1 : (bodyL n).length ≠ 0 := by
    have : printL 0 ≠ [] := printL_ne 0
    intro h
    have h2 := List.length_eq_zero_iff.1 h
    unfold bodyL at h2
    have h3 := (List.append_eq_nil_iff.1 h2).1
    unfold Lib.decDigits at h3
    split at h3 <;> simp at h3
  match hb : bodyL n with
  | [] => rw [hb] at h1; simp at h1
  | c :: r =>
    refine ⟨c, r, rfl, ?_⟩
    have ha := dec_all (n / 10000)
    unfold bodyL at hb
    match hd : Lib.decDigits (n / 10000) with
    | [] => unfold Lib.decDigits at hd; split at hd <;> simp at hd
    | d :: s =>
      rw [hd] at hb ha
      rw [List.cons_append] at hb
      cases hb
      simp only [List.all_cons, Bool.and_eq_true] at ha
      exact ha.1
theorem dg_ne {c : UInt8} (h : dgB c = true) : c ≠ 32 := by
  intro e; subst e; exact absurd h (by decide)
theorem body_nxt (n : Nat) (hn : n ≤ 9223372036854775807) : nxt (bodyL n) = .ok (0, [], (n : Int), 0, (bodyL n).length) := by
  obtain ⟨c, r, hb, hc⟩ := body_head n
  have h1 : nxt (bodyL n) = numR (bodyL n) := by
    unfold nxt
    rw [hb]
    show (if dgB c then numR (c :: r) else _) = _
    rw [if_pos hc]
  rw [h1]
  unfold numR
  rw [body_numE n, List.take_length]
  have hcan : canB (n : Int) = true := by unfold canB; simp <;> omega
  have hp : printL (n : Int) = bodyL n := by
    unfold printL
    rw [if_pos hcan, if_neg (by omega)]
    rfl
  obtain ⟨q1, q2⟩ := read_back (n : Int) hcan ⟨by omega, by omega⟩
  rw [hp] at q1 q2
  rw [q1, q2]
  rfl
theorem body_W (p n : Nat) (hn : n ≤ 9223372036854775807) : W p (bodyL n) = .ok [(0, (p : Int), [], (n : Int), 0), endT (p + (bodyL n).length)] := by
  obtain ⟨c, r, hb, hc⟩ := body_head n
  have hx := body_nxt n hn
  unfold W
  obtain ⟨k, hk⟩ : ∃ k, (bodyL n).length = k + 1 := ⟨r.length, by rw [hb]; rfl⟩
  rw [hk]
  rw [hb] at hx ⊢
  rw [wds, if_neg (dg_ne hc), hx]
  show (wds (k + 1) (p + (c :: r).length) ((c :: r).drop (c :: r).length)).map (fun ts => tkOf (0, [], (n : Int), 0, (c :: r).length) p :: ts) = _
  rw [List.drop_length]
  have hk2 : (c :: r).length = k + 1 := by rw [← hb]; exact hk
  rw [hk2]
  rfl
/-- The tree of a number that is written. -/
def numT (a : Int) : T := if a < 0 then tNeg (tNum (a.natAbs : Int)) else tNum (a.natAbs : Int)
theorem prs_num (p q : Int) (v : Int) : prs [(0, p, [], v, 0), (5, q, [], 0, 0)] = (tNum v, 0, 0) := by rfl
theorem prs_neg (p q : Int) (v : Int) : prs [(3, 0, [45], 0, 0), (0, p, [], v, 0), (5, q, [], 0, 0)] = (tNeg (tNum v), 0, 0) := by rfl
theorem par_num (a : Int) (h : canB a = true) (ha : I64 a) : parR (printL a) = (numT a, 0, 0) := by
  obtain ⟨h1, h2⟩ := ha
  have hm : a.natAbs ≤ 9223372036854775807 := by unfold canB at h; simp at h; omega
  have hl := body_len a.natAbs hm
  have hw := body_W 0 a.natAbs hm
  have hw1 := body_W 1 a.natAbs hm
  unfold numT
  by_cases hn : a < 0
  · have hp : printL a = 45 :: bodyL a.natAbs := by unfold printL; rw [if_pos h, if_pos hn]
    have hW : W 0 (45 :: bodyL a.natAbs) = .ok [(3, 0, [45], 0, 0), (0, 1, [], (a.natAbs : Int), 0), endT (1 + (bodyL a.natAbs).length)] := by
      have hx : nxt (45 :: bodyL a.natAbs) = .ok (3, [45], 0, 0, 1) := by
        unfold nxt
        show (if dgB 45 then _ else if (45 : UInt8) = 34 then _ else if ltB 45 then _ else if (45 : UInt8) = 35 then _ else sgR (45 :: bodyL a.natAbs)) = _
        rw [if_neg (by decide), if_neg (by decide), if_neg (by decide), if_neg (by decide)]
        unfold sgR sgT sgsL
        simp [List.find?, List.isPrefixOf]
      unfold W at hw1 ⊢
      rw [List.length_cons, wds, if_neg (by decide), hx]
      show (wds ((bodyL a.natAbs).length + 1) (0 + 1) (bodyL a.natAbs)).map _ = _
      rw [Nat.zero_add, hw1]
      rfl
    have hx : lexR (45 :: bodyL a.natAbs) = ([(3, 0, [45], 0, 0), (0, 1, [], (a.natAbs : Int), 0), endT (1 + (bodyL a.natAbs).length)], 0, 0) := by
      unfold lexR
      rw [if_neg (by simp; omega), hW]
    unfold parR
    rw [hp, hx, if_pos hn]
    exact prs_neg _ _ _
  · have hp : printL a = bodyL a.natAbs := by unfold printL; rw [if_pos h, if_neg hn]
    have hx : lexR (bodyL a.natAbs) = ([(0, ((0 : Nat) : Int), [], (a.natAbs : Int), 0), endT (0 + (bodyL a.natAbs).length)], 0, 0) := by
      unfold lexR
      rw [if_neg (by omega), hw]
    unfold parR
    rw [hp, hx, if_neg hn]
    exact prs_num _ _ _
theorem num_ok (a : Int) (h : canB a = true) (ha : I64 a) : Hr 2 (numT a) ∧ Wf (numT a) ∧ szT 2 (numT a) ≤ 100000 ∧ wellT 2 (numT a) = true := by
  obtain ⟨h1, h2⟩ := ha
  have hm : a.natAbs ≤ 9223372036854775807 := by unfold canB at h; simp at h; omega
  have hi : I64 (a.natAbs : Int) := ⟨by omega, by omega⟩
  have hd : decide (0 ≤ (a.natAbs : Int)) = true := by simp
  unfold numT
  split
  · refine ⟨hr_neg _ _ (hr_leaf _ _ rfl), wf_neg _ (wf_num _ hi), by show 2 ≤ 100000; decide, ?_⟩
    show (([tNum (a.natAbs : Int)].length == 1) && [tNum (a.natAbs : Int)].all (wellT 1)) = true
    simp [wellT, tNum, T.k, T.n]
  · refine ⟨hr_leaf _ _ rfl, wf_num _ hi, by show 1 ≤ 100000; decide, ?_⟩
    simp [wellT, tNum, T.k, T.n]
theorem num_sh (a : Int) (h : canB a = true) (ha : I64 a) : shT 2 (numT a) = printL a := by
  obtain ⟨h1, h2⟩ := ha
  have hm : a.natAbs ≤ 9223372036854775807 := by unfold canB at h; simp at h; omega
  have hcan : canB (a.natAbs : Int) = true := by unfold canB; simp <;> omega
  have hp : printL (a.natAbs : Int) = bodyL a.natAbs := by
    unfold printL
    rw [if_pos hcan, if_neg (by omega)]
    rfl
  unfold numT
  by_cases hn : a < 0
  · rw [if_pos hn]
    have e : shT 2 (tNeg (tNum (a.natAbs : Int))) = 45 :: printL (a.natAbs : Int) := rfl
    rw [e, hp]
    unfold printL
    rw [if_pos h, if_pos hn]
  · rw [if_neg hn]
    have e : shT 2 (tNum (a.natAbs : Int)) = printL (a.natAbs : Int) := rfl
    rw [e, hp]
    unfold printL
    rw [if_pos h, if_neg hn]
end Go.Proofs.YtdjniiginnlmhaaGreatDoor

namespace Go.Proofs.YtdjniiginnlmhaaGreatDoor
open Go.RowKit
set_option maxHeartbeats 1000000

/-- r is the root of N. -/
def IsRoot (N r : Nat) : Prop := r * r ≤ N ∧ N < (r + 1) * (r + 1)
theorem IsRoot.one {N r s : Nat} (h : IsRoot N r) (k : IsRoot N s) : r = s := by
  obtain ⟨a, b⟩ := h; obtain ⟨c, d⟩ := k
  rcases Nat.lt_trichotomy r s with g | g | g
  · have := Nat.mul_le_mul (show r + 1 ≤ s from g) (show r + 1 ≤ s from g); omega
  · exact g
  · have := Nat.mul_le_mul (show s + 1 ≤ r from g) (show s + 1 ≤ r from g); omega
/-- All bits of the root of N from place j on are in r. -/
def Rooted (N j r : Nat) : Prop := r * r ≤ N ∧ N < (r + 2 ^ j) * (r + 2 ^ j) ∧ r % 2 ^ j = 0
theorem Rooted.lt {N j r : Nat} (h : Rooted N j r) (hN : N < 151115727451828646838272) : r < 549755813888 := by
  rcases Nat.lt_or_ge r 549755813888 with g | g
  · exact g
  · have := Nat.mul_le_mul g g
    have := h.1
    omega
theorem Rooted.no {N j r : Nat} (h : Rooted N (j + 1) r) (g : N < (r + 2 ^ j) * (r + 2 ^ j)) : Rooted N j r := by
  refine ⟨h.1, g, ?_⟩
  have := h.2.2
  rw [Nat.pow_succ] at this
  exact Nat.mod_eq_zero_of_dvd (Nat.dvd_of_mod_eq_zero (show r % 2 ^ j = 0 from by
    have d := Nat.dvd_of_mod_eq_zero this
    exact Nat.mod_eq_zero_of_dvd (Nat.dvd_trans (Nat.dvd_mul_right _ _) d)))
theorem Rooted.yes {N j r : Nat} (h : Rooted N (j + 1) r) (g : (r + 2 ^ j) * (r + 2 ^ j) ≤ N) : Rooted N j (r + 2 ^ j) := by
  refine ⟨g, ?_, ?_⟩
  · have := h.2.1
    rw [Nat.pow_succ, Nat.mul_two, ← Nat.add_assoc] at this
    exact this
  · have := h.2.2
    rw [Nat.pow_succ] at this
    have d := Nat.dvd_of_mod_eq_zero this
    rw [Nat.add_mod_right]
    exact Nat.mod_eq_zero_of_dvd (Nat.dvd_trans (Nat.dvd_mul_right _ _) d)
theorem Rooted.done {N r : Nat} (h : Rooted N 0 r) : IsRoot N r := by
  obtain ⟨a, b, _⟩ := h
  exact ⟨a, b⟩
theorem or_pow (r j : Nat) (h : r % 2 ^ (j + 1) = 0) (hr : r < 549755813888) (hj : j ≤ 40) : bits .or .u64 (r : Int) ((2 ^ j : Nat) : Int) = ((r + 2 ^ j : Nat) : Int) := by
  have hp : 2 ^ j ≤ 2 ^ 40 := Nat.pow_le_pow_right (by decide) hj
  rw [bits_or_u64_nat _ _ (by omega) (by omega)]
  obtain ⟨k, rfl⟩ := Nat.dvd_of_mod_eq_zero h
  rw [← Nat.two_pow_add_eq_or_of_lt (Nat.pow_lt_pow_right (by decide) (Nat.lt_succ_self j))]

/-- What stands while the root is sought: the product, and of what was there nothing has turned. -/
def Stands (w : World) (b : Nat) (N : Nat) (wr : World) : Prop := (Ext w wr ∧ Pair wr b N) ∧ wr.cell? ⟨b, 0, none⟩ = some (.int .u64 (uhi N)) ∧ wr.cell? ⟨b, 1, none⟩ = some (.int .u64 (loOf N))
theorem Stands.mk' {w wr : World} {b N : Nat} (h : Ext w wr) (p : Pair wr b N) : Stands w b N wr := ⟨⟨h, p⟩, p.2.1, p.2.2.1⟩
theorem Stands.ext {w wr w' : World} {b N : Nat} (h : Stands w b N wr) (e : Ext wr w') : Stands w b N w' := Stands.mk' (h.1.1.trans e) (h.1.2.ext e)
end Go.Proofs.YtdjniiginnlmhaaGreatDoor

namespace Go.Proofs.YtdjniiginnlmhaaGreatDoor

/-- n by u, rounded to the nearest, of two the even one. -/
def evenQ (n u : Nat) : Nat := n / u + if u < 2 * (n % u) ∨ (u = 2 * (n % u) ∧ n / u % 2 = 1) then 1 else 0

theorem evenQ_scale (n u c : Nat) (hc : 0 < c) : evenQ (n * c) (u * c) = evenQ n u := by
  unfold evenQ
  rw [Nat.mul_div_mul_right _ _ hc, Nat.mul_mod_mul_right]
  have e1 : (u * c < 2 * (n % u * c)) ↔ u < 2 * (n % u) := by rw [← Nat.mul_assoc]; exact Nat.mul_lt_mul_right hc
  have e2 : (u * c = 2 * (n % u * c)) ↔ u = 2 * (n % u) := by rw [← Nat.mul_assoc]; exact Nat.mul_left_inj (Nat.pos_iff_ne_zero.mp hc)
  simp only [e1, e2]
theorem evenQ_mono {n m : Nat} (u : Nat) (h : n ≤ m) : evenQ n u ≤ evenQ m u := by
  unfold evenQ
  have hq : n / u ≤ m / u := Nat.div_le_div_right h
  rcases Nat.lt_or_eq_of_le hq with g | g
  · split <;> split <;> omega
  · have e1 := Nat.div_add_mod n u
    have e2 := Nat.div_add_mod m u
    rw [g] at e1 ⊢
    generalize u * (m / u) = z at *
    split <;> split <;> omega
theorem evenQ_exact (a u : Nat) (hu : 0 < u) : evenQ (a * u) u = a := by
  unfold evenQ
  rw [Nat.mul_div_cancel _ hu, Nat.mul_mod_left]
  rw [if_neg (by omega)]
  rfl
theorem evenQ_ge {a n u : Nat} (hu : 0 < u) (h : a * u ≤ n) : a ≤ evenQ n u := by
  have := evenQ_mono u h
  rwa [evenQ_exact a u hu] at this
theorem evenQ_le {b n u : Nat} (hu : 0 < u) (h : n ≤ b * u) : evenQ n u ≤ b := by
  have := evenQ_mono u h
  rwa [evenQ_exact b u hu] at this
theorem evenQ_cross {n u m v : Nat} (hu : 0 < u) (hv : 0 < v) (h : n * v ≤ m * u) : evenQ n u ≤ evenQ m v := by
  rw [← evenQ_scale n u v hv, ← evenQ_scale m v u hu, Nat.mul_comm v u]
  exact evenQ_mono _ h
theorem evenQ_small {n u : Nat} (h : 2 * n < u) : evenQ n u = 0 := by
  unfold evenQ
  rw [Nat.div_eq_of_lt (by omega), Nat.mod_eq_of_lt (by omega), if_neg (by omega)]
theorem evenQ_near (n u : Nat) (hu : 0 < u) : 2 * n ≤ 2 * (evenQ n u * u) + u ∧ 2 * (evenQ n u * u) ≤ 2 * n + u := by
  unfold evenQ
  have e := Nat.div_add_mod n u
  rw [Nat.mul_comm] at e
  rw [Nat.add_mul]
  generalize hz : n / u * u = z at *
  have l := Nat.mod_lt n hu
  constructor <;> split <;> omega
/-- What is near enough is it. -/
theorem evenQ_of_near {n u a : Nat} (hu : 0 < u) (h1 : 2 * n < 2 * (a * u) + u) (h2 : 2 * (a * u) < 2 * n + u) : evenQ n u = a := by
  have ⟨g1, g2⟩ := evenQ_near n u hu
  generalize evenQ n u = q at *
  rcases Nat.lt_trichotomy q a with g | g | g
  · have := Nat.mul_le_mul_right u (show q + 1 ≤ a from g)
    rw [Nat.add_mul, Nat.one_mul] at this; omega
  · exact g
  · have := Nat.mul_le_mul_right u (show a + 1 ≤ q from g)
    rw [Nat.add_mul, Nat.one_mul] at this; omega
/-- With the lowest bit set where something is left, it rounds as the whole does. -/
def sticky (X d : Nat) : Nat := if X % d = 0 then X / d else X / d / 2 * 2 + 1
theorem evenQ_sticky (X d k : Nat) (hd : 0 < d) (hk : 0 < k) : evenQ (sticky X d) (4 * k) = evenQ X (d * (4 * k)) := by
  have e := Nat.div_add_mod X d
  have l := Nat.mod_lt X hd
  have hq : X / (d * (4 * k)) = X / d / (4 * k) := (Nat.div_div_eq_div_mul X d (4 * k)).symm
  have hm : X % (d * (4 * k)) = d * (X / d % (4 * k)) + X % d := by
    have := Nat.mod_mul (x := X) (a := d) (b := 4 * k); omega
  unfold evenQ
  rw [hq, hm]
  by_cases h0 : X % d = 0
  · have : sticky X d = X / d := by unfold sticky; rw [if_pos h0]
    rw [this, h0, Nat.add_zero]
    generalize X / d % (4 * k) = r at *
    have e1 : (d * (4 * k) < 2 * (d * r)) ↔ 4 * k < 2 * r := by
      rw [show 2 * (d * r) = d * (2 * r) by rw [Nat.mul_left_comm]]; exact Nat.mul_lt_mul_left hd
    have e2 : (d * (4 * k) = 2 * (d * r)) ↔ 4 * k = 2 * r := by
      rw [show 2 * (d * r) = d * (2 * r) by rw [Nat.mul_left_comm]]; exact Nat.mul_right_inj (Nat.pos_iff_ne_zero.mp hd)
    simp only [e1, e2]
  · have hs : sticky X d = X / d / 2 * 2 + 1 := by unfold sticky; rw [if_neg h0]
    rw [hs]
    generalize X / d = q at *
    generalize X % d = r at *
    have a1 : (q / 2 * 2 + 1) / (4 * k) = q / (4 * k) := by
      have : 4 * k = 2 * (2 * k) := by omega
      rw [this, ← Nat.div_div_eq_div_mul (q / 2 * 2 + 1) 2 (2 * k), ← Nat.div_div_eq_div_mul q 2 (2 * k)]
      rw [show (q / 2 * 2 + 1) / 2 = q / 2 by omega]
    have b1 := Nat.div_add_mod q (4 * k)
    have b2 := Nat.div_add_mod (q / 2 * 2 + 1) (4 * k)
    rw [a1] at b2 ⊢
    have b3 := Nat.mod_lt q (show 0 < 4 * k by omega)
    have b4 := Nat.mod_lt (q / 2 * 2 + 1) (show 0 < 4 * k by omega)
    have b5 : 4 * k * (q / (4 * k)) = 4 * (k * (q / (4 * k))) := Nat.mul_assoc _ _ _
    generalize hs : q % (4 * k) = s at *
    generalize (q / 2 * 2 + 1) % (4 * k) = s' at *
    have c1 : s' = s / 2 * 2 + 1 := by omega
    clear b1 b2 b4 b5 a1 hq hm e hs
    generalize q / (4 * k) = Q at *
    rw [c1]
    have k1 : (d * (4 * k) < 2 * (d * s + r) ∨ (d * (4 * k) = 2 * (d * s + r) ∧ Q % 2 = 1)) ↔ 2 * k ≤ s := by
      constructor
      · intro h
        rcases Nat.lt_or_ge s (2 * k) with g | g
        · have := Nat.mul_le_mul_left d (show s + 1 ≤ 2 * k from g)
          rw [Nat.mul_add, Nat.mul_one] at this
          have e4 : d * (4 * k) = 2 * (d * (2 * k)) := by rw [show 4 * k = 2 * (2 * k) by omega, Nat.mul_left_comm]
          omega
        · exact g
      · intro g
        have := Nat.mul_le_mul_left d g
        have e4 : d * (4 * k) = 2 * (d * (2 * k)) := by rw [show 4 * k = 2 * (2 * k) by omega, Nat.mul_left_comm]
        left
        omega
    have k2 : (4 * k < 2 * (s / 2 * 2 + 1) ∨ (4 * k = 2 * (s / 2 * 2 + 1) ∧ Q % 2 = 1)) ↔ 2 * k ≤ s := by omega
    simp only [k1, k2]
end Go.Proofs.YtdjniiginnlmhaaGreatDoor

namespace Go.Proofs.YtdjniiginnlmhaaGreatDoor
open Go.RowKit
set_option maxHeartbeats 1000000

theorem shorter_big (n : Nat) (d : Int) (hd : 63 < d) (w : World) :
    Calls Tryz.prog 91 #[.int .u64 n, .int .i64 d] w fun e w' => e = .returned (.int .u64 0) ∧ w' = w := by
  go_enter Tryz.func91, Tryz.ntmps91
  go_wp2
  go_ret
  exact ⟨rfl, rfl⟩
set_option maxRecDepth 100000 in
theorem shorter_small (n d : Nat) (hn : n < 18446744073709551616) (hd : d ≤ 63) (w : World) :
    Calls Tryz.prog 91 #[.int .u64 n, .int .i64 d] w fun e w' => e = .returned (.int .u64 ((evenQ n (2 ^ d) : Nat) : Int)) ∧ Ext w w' := by
  have hdI : (d : Int) ≤ 63 := by omega
  have hp : 2 ^ d ≤ 2 ^ 63 := Nat.pow_le_pow_right (by decide) hd
  have hp0 : 0 < 2 ^ d := Nat.pow_pos (by decide)
  have e0 : IntKind.u64.wrap ((2 : Int) ^ d) = ((2 ^ d : Nat) : Int) := by
    have : ((2 : Int) ^ d) = ((2 ^ d : Nat) : Int) := by simp
    rw [this, wrapU]; omega
  have e1 : ((n : Int) / 2 ^ d) = ((n / 2 ^ d : Nat) : Int) := by simp
  have e2 : ((n : Int) % ((2 ^ d : Nat) : Int)) = ((n % 2 ^ d : Nat) : Int) := by omega
  have hr : n % 2 ^ d < 2 ^ d := Nat.mod_lt _ hp0
  have hq : n / 2 ^ d ≤ n := Nat.div_le_self _ _
  have hq1 : 1 ≤ d → n / 2 ^ d ≤ 9223372036854775807 := by
    intro h
    have : 2 ^ 1 ≤ 2 ^ d := Nat.pow_le_pow_right (by decide) h
    have := Nat.div_le_div_left (a := n) this (by decide)
    omega
  have hp1 : d = 0 → 2 ^ d = 1 := by rintro rfl; rfl
  have HV : Hid (evenQ n (2 ^ d) = n / 2 ^ d + if 2 ^ d < 2 * (n % 2 ^ d) ∨ (2 ^ d = 2 * (n % 2 ^ d) ∧ n / 2 ^ d % 2 = 1) then 1 else 0) := rfl
  generalize evenQ n (2 ^ d) = v at *
  generalize n / 2 ^ d = q at *
  generalize n % 2 ^ d = r at *
  generalize 2 ^ d = P at *
  have hPI : (P : Int) ≠ 0 := by omega
  have hb : (q : Int) + 1 < 18446744073709551616 ∨ r = 0 := by
    rcases Nat.eq_zero_or_pos d with g | g
    · right; have := hp1 g; omega
    · left; have := hq1 g; omega
  have h64 : (2 : Nat) ^ 63 = 9223372036854775808 := rfl
  rw [h64] at hp
  have HB : Hid ((q : Int) + 1 < 18446744073709551616 ∨ r = 0) := hb
  clear hq1 hp1 h64 hb
  obtain ⟨m, hm⟩ : ∃ m : Int, m = (P : Int) - r := ⟨_, rfl⟩
  have ew : IntKind.u64.wrap ((P : Int) - r) = m := by rw [wrapU, hm]; omega
  have HM : Hid (m = (P : Int) - r) := hm
  have HR : Hid (r < P ∧ P ≤ 9223372036854775808 ∧ n < 18446744073709551616) := ⟨hr, hp, hn⟩
  obtain ⟨rI, hrI⟩ : ∃ rI : Int, rI = r := ⟨_, rfl⟩
  obtain ⟨qI, hqI⟩ : ∃ qI : Int, qI = q := ⟨_, rfl⟩
  rw [← hrI] at ew e2
  rw [← hqI] at e1
  have HI : Hid (rI = r ∧ qI = q) := ⟨hrI, hqI⟩
  clear hm hr hp hn hrI hqI hq
  by_cases g1 : m < rI
  · have HVV : Hid ((v : Int) = qI + 1 ∧ qI ≤ 18446744073709551614) := by
      have := HM.out; have := HI.out; have := HB.out
      refine ⟨?_, by omega⟩
      rw [HV.out, if_pos (by omega)]; omega
    clear HV HB
    go_enter Tryz.func91, Tryz.ntmps91
    go_upto_region 4 with fail
    go_region
    all_goals
      simp only [e2]
      clear e0 e1 e2
      go_wp2
      go_ret
      exact ⟨ret_int (by rw [wrapU, HVV.out.1]; have := HVV.out.2; have := HI.out; omega), (Ext.refl _).drew⟩
  by_cases g2 : rI < m
  · have HVV : Hid ((v : Int) = qI) := by
      have := HM.out; have := HI.out
      show (v : Int) = qI
      rw [HV.out, if_neg (by omega)]; omega
    have g3 : rI ≠ m := by omega
    have g4 : (rI == m) = false := by simpa using g3
    clear HV HB
    go_enter Tryz.func91, Tryz.ntmps91
    go_upto_region 4 with fail
    go_region
    all_goals
      simp only [e2]
      clear e0 e1 e2
      go_wp2
      go_ret
      exact ⟨ret_int (by rw [HVV.out]), (Ext.refl _).drew⟩
  have g3 : rI = m := by omega
  subst g3
  have et : qI.tmod 2 = qI % 2 := Int.tmod_eq_emod_of_nonneg (by have := HI.out; omega)
  by_cases g5 : qI % 2 = 1
  · have HVV : Hid ((v : Int) = qI + 1 ∧ qI ≤ 18446744073709551614) := by
      have := HM.out; have := HI.out; have := HB.out; have := HR.out
      refine ⟨?_, by omega⟩
      rw [HV.out, if_pos (by omega)]; omega
    have g7 : (qI.tmod 2 == 1) = true := by rw [et, g5]; rfl
    clear et g5
    clear HV HB
    go_enter Tryz.func91, Tryz.ntmps91
    go_upto_region 4 with fail
    go_region
    all_goals
      simp only [e2]
      clear e0 e1 e2
      go_wp2
      go_ret
      exact ⟨ret_int (by rw [wrapU, HVV.out.1]; have := HVV.out.2; have := HI.out; omega), (Ext.refl _).drew⟩
  · have HVV : Hid ((v : Int) = qI) := by
      have := HM.out; have := HI.out
      show (v : Int) = qI
      rw [HV.out, if_neg (by omega)]; omega
    have g7 : (qI.tmod 2 == 1) = false := by rw [et]; simpa using g5
    clear et g5
    clear HV HB
    go_enter Tryz.func91, Tryz.ntmps91
    go_upto_region 4 with fail
    go_region
    all_goals
      simp only [e2]
      clear e0 e1 e2
      go_wp2
      go_ret
      exact ⟨ret_int (by rw [HVV.out]), (Ext.refl _).drew⟩
theorem shorter_any (n d : Nat) (hn : n < 9223372036854775808) (w : World) :
    Calls Tryz.prog 91 #[.int .u64 n, .int .i64 d] w fun e w' => e = .returned (.int .u64 ((evenQ n (2 ^ d) : Nat) : Int)) ∧ Ext w w' := by
  rcases Nat.lt_or_ge 63 d with h | h
  · have hp : 2 ^ 64 ≤ 2 ^ d := Nat.pow_le_pow_right (by decide) h
    have e0 : evenQ n (2 ^ d) = 0 := evenQ_small (by omega)
    rw [e0]
    refine (shorter_big n d (by omega) w).mono ?_
    rintro e w1 ⟨rfl, rfl⟩
    exact ⟨rfl, Ext.refl _⟩
  · exact shorter_small n d (by omega) h w

/-- A float's exponent, its fraction with the 1 ahead, its sign. -/
def expo (b : Nat) : Nat := b / 4503599627370496 % 2048
def full (b : Nat) : Nat := 4503599627370496 + b % 4503599627370496
def negB (b : Nat) : Bool := decide (9223372036854775808 ≤ b)
theorem expo_lt (b : Nat) : expo b < 2048 := Nat.mod_lt _ (by decide)
theorem full_bd (b : Nat) : 4503599627370496 ≤ full b ∧ full b < 9007199254740992 := by unfold full; omega
theorem mask11 (a : Nat) (ha : a < 18446744073709551616) : bits .and .u64 (a : Int) 2047 = ((a % 2048 : Nat) : Int) := by
  have := bits_and_u64_nat a 2047 ha (by omega)
  rw [show (2047 : Nat) = 2 ^ 11 - 1 from rfl, Nat.and_two_pow_sub_one_eq_mod] at this
  exact this
theorem split_any (b : Nat) (hb : b < 18446744073709551616) (w : World) :
    Calls Tryz.prog 51 #[.int .u64 b] w fun e w' => e = .returned (.agg #[.bool (negB b), .int .u64 ((full b : Nat) : Int), .int .i64 (1075 - (expo b : Int))]) ∧ Ext w w' := by
  have e1 := mask11 (b / 4503599627370496) (by omega)
  have he := expo_lt b
  rw [show b / 4503599627370496 % 2048 = expo b from rfl] at e1
  have e2 : (b : Int) / 4503599627370496 = ((b / 4503599627370496 : Nat) : Int) := by omega
  rw [← e2] at e1
  have e3 : ((b : Int) / 9223372036854775808 == 1) = negB b := by unfold negB; rw [Bool.eq_iff_iff]; simp; omega
  have e4 : (4503599627370496 : Int) + (b : Int) % 4503599627370496 = ((full b : Nat) : Int) := by unfold full; omega
  have hf := full_bd b
  clear e2
  generalize negB b = nb at *
  generalize full b = f at *
  generalize expo b = E at *
  go_enter Tryz.func51, Tryz.ntmps51
  go_wp2
  simp [bodyPost, results, Tryz.results51, go_sem]
  exact (Ext.refl _).alloc _

/-- A float's size in ten thousandths, rounded. -/
def fromN (b : Nat) : Nat := if expo b = 1072 then full b * 1250 else evenQ (full b * 625) (2 ^ (1071 - expo b))
theorem fparts_any (nb : Bool) (f E : Nat) (hf : f < 9007199254740992) (hE : E ≤ 1072) (w : World) :
    Calls Tryz.prog 52 #[.agg #[.bool nb, .int .u64 (f : Int), .int .i64 (1075 - (E : Int))]] w fun e w' => e = .returned (.int .u64 ((if E = 1072 then f * 1250 else evenQ (f * 625) (2 ^ (1071 - E)) : Nat) : Int)) ∧ Ext w w' := by
  have hfI : (f : Int) < 9007199254740992 := by omega
  rcases Nat.lt_or_ge E 1072 with g | g
  · rw [if_neg (by omega)]
    have c := fun W => shorter_any (f * 625) (1071 - E) (by omega) W
    have e1 : ((1071 - E : Nat) : Int) = 1075 - (E : Int) - 4 := by omega
    have e2 : ((f * 625 : Nat) : Int) = (f : Int) * 625 := by omega
    rw [e1, e2] at c
    clear e1 e2
    generalize evenQ (f * 625) (2 ^ (1071 - E)) = v at *
    have g2 : ¬ (1075 - (E : Int) < 4) := by omega
    go_enter Tryz.func52, Tryz.ntmps52
    go_wp2_with fail
    refine (c _).mono ?_
    rintro e w1 ⟨rfl, E1⟩
    go_wp2
    go_ret
    exact ⟨rfl, ((Ext.refl _).alloc _).trans E1⟩
  · have : E = 1072 := by omega
    subst this
    rw [if_pos rfl]
    have e2 : ((f * 1250 : Nat) : Int) = (f : Int) * 625 * 2 := by omega
    rw [e2]
    clear e2
    go_enter Tryz.func52, Tryz.ntmps52
    go_wp2
    go_ret
    exact ⟨rfl, (Ext.refl _).alloc _⟩
/-- Does it become a number, and which. -/
def fromB (b : Nat) : Bool := decide (expo b ≤ 1072 ∧ fromN b ≤ 9223372036854775807)
def fromV (b : Nat) : Int := if fromB b then (if negB b then -(fromN b : Int) else fromN b) else 0
theorem fromN_lt (b : Nat) : fromN b < 18446744073709551616 := by
  have hf := full_bd b
  unfold fromN
  split
  · omega
  · have : evenQ (full b * 625) (2 ^ (1071 - expo b)) ≤ full b * 625 := evenQ_le (Nat.pow_pos (by decide)) (Nat.le_mul_of_pos_right _ (Nat.pow_pos (by decide)))
    omega
theorem from_any (b : Nat) (hb : b < 18446744073709551616) (w : World) :
    Calls Tryz.prog 22 #[.int .u64 b] w fun e w' => e = .returned (.tuple #[.int .i64 (fromV b), .bool (fromB b)]) ∧ Ext w w' := by
  have c1 := fun W => split_any b hb W
  have hf := full_bd b
  have hl := fromN_lt b
  rcases Nat.lt_or_ge 1072 (expo b) with g | g
  · have e1 : fromB b = false := by unfold fromB; simp; omega
    have e2 : fromV b = 0 := by unfold fromV; rw [e1]; rfl
    rw [e1, e2]
    clear hl e1 e2
    generalize negB b = nb at *
    generalize full b = f at *
    generalize expo b = E at *
    have g2 : 1075 - (E : Int) < 3 := by omega
    go_enter Tryz.func22, Tryz.ntmps22
    go_wp2_with fail
    refine (c1 _).mono ?_
    rintro e w1 ⟨rfl, E1⟩
    go_wp2
    go_ret2
    exact ⟨rfl, E1.alloc _⟩
  · have c2 := fun nb W => fparts_any nb (full b) (expo b) hf.2 g W
    rw [show (if expo b = 1072 then full b * 1250 else evenQ (full b * 625) (2 ^ (1071 - expo b))) = fromN b from rfl] at c2
    have g2 : ¬ (1075 - (expo b : Int) < 3) := by omega
    by_cases hM : fromN b ≤ 9223372036854775807
    · have e1 : fromB b = true := by unfold fromB; simp; omega
      have e2 : fromV b = if negB b then -(fromN b : Int) else fromN b := by unfold fromV; rw [e1]; rfl
      rw [e1, e2]
      clear hl e1 e2 g hf
      generalize negB b = nb at *
      generalize full b = f at *
      generalize expo b = E at *
      generalize fromN b = N at *
      have hMI : (N : Int) ≤ 9223372036854775807 := by omega
      go_enter Tryz.func22, Tryz.ntmps22
      go_wp2_with fail
      refine (c1 _).mono ?_
      rintro e w1 ⟨rfl, E1⟩
      go_wp2_with fail
      refine (c2 _ _).mono ?_
      rintro e w2 ⟨rfl, E2⟩
      have hc : w2.cell? ⟨w1.heap.size, 0, none⟩ = some (.bool nb) := (E2.cell.1 w1.heap.size 0 (by simp)).trans (by simp [go_sem])
      have E3 := (E1.alloc _).trans E2
      clear E2
      cases nb
      all_goals
        go_wp2
        go_ret2
        exact ⟨rfl, E3⟩
    · have e1 : fromB b = false := by unfold fromB; simp; omega
      have e2 : fromV b = 0 := by unfold fromV; rw [e1]; rfl
      rw [e1, e2]
      clear e1 e2 g hf
      generalize negB b = nb at *
      generalize full b = f at *
      generalize expo b = E at *
      generalize fromN b = N at *
      have hd : decide ((9223372036854775807 : Int) < N) = true := by simp; omega
      obtain ⟨NI, hNI⟩ : ∃ NI : Int, NI = N := ⟨_, rfl⟩
      rw [← hNI] at hd c2
      clear hNI hM hl
      go_enter Tryz.func22, Tryz.ntmps22
      go_wp2_with fail
      refine (c1 _).mono ?_
      rintro e w1 ⟨rfl, E1⟩
      go_wp2_with fail
      refine (c2 _ _).mono ?_
      rintro e w2 ⟨rfl, E2⟩
      have E3 := (E1.alloc _).trans E2
      clear E2
      go_wp2
      go_ret2
      exact ⟨rfl, E3⟩
end Go.Proofs.YtdjniiginnlmhaaGreatDoor

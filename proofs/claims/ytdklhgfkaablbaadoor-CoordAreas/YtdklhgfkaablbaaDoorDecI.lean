/-
  The contract of the document's Parse.
-/
import Derived.Test.YtdklhgfkaablbaaDoorDecH
import Derived.Deep.DeepCutAuto
import Derived.Deep.Light
namespace Go.Proofs.YtdklhgfkaablbaaDoor
open Go.RowKit
set_option maxHeartbeats 2000000

theorem minus_at (s : ByteArray) : (s.size = 0 → minusB s.data.toList = false) ∧ (∀ h : 0 < s.size, minusB s.data.toList = decide ((s[0].toNat : Int) = 45)) := by
  have hl := size_list s
  constructor
  · intro h; rw [List.length_eq_zero_iff.1 (hl.trans h)]; rfl
  · intro h
    have e : s.data.toList = s[0] :: s.data.toList.tail := by
      have := List.drop_eq_getElem_cons (l := s.data.toList) (i := 0) (by omega)
      simp only [List.drop_zero] at this
      rw [this]; rfl
    unfold minusB
    rw [e]
    show ((some s[0] : Option UInt8) == some 45) = _
    by_cases hc : s[0] = 45
    · rw [hc]; rfl
    · have : ¬ (s[0].toNat : Int) = 45 := fun h => hc (UInt8.toNat_inj.1 (by show s[0].toNat = 45; omega))
      simp [hc, this]
theorem sign_at (l : List UInt8) (a : Nat) (ha : a = if minusB l then 1 else 0) : sizeL l = l.drop a ∧ a ≤ l.length := by
  unfold sizeL
  rw [ha]
  cases hm : minusB l
  · exact ⟨rfl, Nat.zero_le _⟩
  · refine ⟨?_, ?_⟩
    · simp
    · unfold minusB at hm
      cases l with
      | nil => cases hm
      | cons c l => simp

/-- It is a numeral; its digits end at L; what it says. -/
def GoodL (l : List UInt8) (a k L : Nat) : Prop := numB l = true ∧ L ≤ l.length ∧ a + k ≤ L ∧ (∀ i (h : i < l.length), a ≤ i → i < L → i ≠ a + k → 48 ≤ l[i].toNat ∧ l[i].toNat ≤ 57) ∧
  numN l = accN (fd l L) (a + k) a (k + 5) + (if a + k + 5 < L ∧ 53 ≤ (l.getD (a + k + 5) 0).toNat then 1 else 0)
theorem run_digit (l : List UInt8) (a i : Nat) (hi : i < runN (l.drop a)) (h : a + i < l.length) : 48 ≤ l[a + i].toNat ∧ l[a + i].toNat ≤ 57 := by
  have hall := run_all (l.drop a)
  have e := (run_split (l.drop a)).1
  rw [← e] at hall
  have hlen : i < ((l.drop a).take (runN (l.drop a))).length := by
    rw [List.length_take, List.length_drop]; omega
  have := dig_at _ hall i hlen
  rw [List.getElem_take, List.getElem_drop] at this
  exact this
theorem bad_k {l : List UInt8} {a : Nat} (hR : sizeL l = l.drop a) (h : runN (l.drop a) = 0 ∨ 40 < runN (l.drop a)) : numB l = false := by
  unfold numB; rw [hR, num_short h]; rfl
theorem bad_rest {l : List UInt8} {a : Nat} (hR : sizeL l = l.drop a) (k : Nat) (hk : k = runN (l.drop a)) (h : a + k < l.length) (hb : l[a + k] ≠ 46 ∨ runN (l.drop (a + k + 1)) = 0 ∨ 40 < runN (l.drop (a + k + 1)) ∨ a + k + 1 + runN (l.drop (a + k + 1)) < l.length) : numB l = false := by
  subst hk
  have hd : (l.drop a).drop (runN (l.drop a) + 1) = l.drop (a + runN (l.drop a) + 1) := by rw [List.drop_drop]; congr 1
  have := rest_bad (R := l.drop a) (by rw [List.length_drop]; omega) (by
    rw [List.getElem_drop, hd]
    rcases hb with hb | hb | hb | hb
    · exact .inl hb
    · exact .inr (.inl hb)
    · exact .inr (.inr (.inl hb))
    · exact .inr (.inr (.inr (by rw [List.length_drop]; omega))))
  unfold numB
  rw [hR]
  rcases this with h1 | ⟨h1, h2⟩
  · rw [h1]; rfl
  · rw [h1, h2]; simp
theorem good_case1 {l : List UInt8} {a : Nat} (hR : sizeL l = l.drop a) (ha : a ≤ l.length) (k : Nat) (hk : k = runN (l.drop a)) (k1 : 1 ≤ k) (k2 : k ≤ 40) (h : a + k = l.length) : GoodL l a k (a + k) := by
  obtain ⟨g1, _⟩ := good1 l a k ha hk.symm h
  have hl : (l.drop a).length = k := by rw [List.length_drop]; omega
  obtain ⟨c1, c2, c3, c4⟩ := good_end (R := l.drop a) (by rw [← hk, hl])
  refine ⟨?_, by omega, by omega, ?_, ?_⟩
  · unfold numB; rw [hR, c1, c2, (ok_iff _).2 ⟨by omega, by rw [← hk, hl]⟩]; rfl
  · intro i h1 h2 h3 _
    obtain ⟨j, rfl⟩ : ∃ j, i = a + j := ⟨i - a, by omega⟩
    exact run_digit l a j (by omega) h1
  · unfold numN; rw [hR, g1, if_neg (by omega)]; rfl
theorem good_case2 {l : List UInt8} {a : Nat} (hR : sizeL l = l.drop a) (ha : a ≤ l.length) (k : Nat) (hk : k = runN (l.drop a)) (k1 : 1 ≤ k) (k2 : k ≤ 40) (h : a + k < l.length) (hc : l[a + k] = 46)
    (m : Nat) (hm : m = runN (l.drop (a + k + 1))) (m1 : 1 ≤ m) (m2 : m ≤ 40) (hend : a + k + 1 + m = l.length) : GoodL l a k l.length := by
  obtain ⟨g1, g2, g3⟩ := good2 l a k ha hk.symm h hc
  obtain ⟨c1, _⟩ := good_dot (R := l.drop a) (by rw [List.length_drop]; omega) (by simp only [← hk]; rw [List.getElem_drop]; exact hc)
  have hlB : (l.drop (a + k + 1)).length = m := by rw [List.length_drop]; omega
  refine ⟨?_, by omega, by omega, ?_, ?_⟩
  · unfold numB; rw [hR, c1, g2, g3, (ok_iff (l.drop (a + k + 1))).2 ⟨by omega, by rw [← hm, hlB]⟩]
    have hlA : ((l.drop a).take k).length = k := by rw [List.length_take, List.length_drop]; omega
    have : okD ((l.drop a).take k) = true := by
      unfold okD
      have e := (run_split (l.drop a)).1
      rw [← hk] at e
      rw [hlA, e, run_all]; simp; omega
    rw [this]; rfl
  · intro i h1 h2 _ h4
    by_cases hi : i < a + k
    · obtain ⟨j, rfl⟩ : ∃ j, i = a + j := ⟨i - a, by omega⟩
      exact run_digit l a j (by omega) h1
    · obtain ⟨j, rfl⟩ : ∃ j, i = a + k + 1 + j := ⟨i - (a + k + 1), by omega⟩
      exact run_digit l (a + k + 1) j (by omega) h1
  · unfold numN; rw [hR, g1]

theorem bad_at (s : ByteArray) (a k D m E : Nat) (hR : sizeL s.data.toList = s.data.toList.drop a) (hk : k = runN (s.data.toList.drop a)) (hD : D = a + k) (hn : D < s.size) (hm : m = runN (s.data.toList.drop (D + 1))) (hE : E = D + 1 + m)
    (hx : s[D].toNat ≠ 46 ∨ m = 0 ∨ 40 < m ∨ E < s.size) : rdV s.data.toList = 0 ∧ rdK s.data.toList = 0 := by
  subst hD; subst hm; subst hE
  have hl := size_list s
  refine no_num (bad_rest hR k hk (by omega) ?_)
  rcases hx with hx | hx | hx | hx
  · left; intro hy; apply hx; rw [← get_list s _ hn, hy]; rfl
  · right; left; exact hx
  · right; right; left; exact hx
  · right; right; right; omega
theorem good_at (s : ByteArray) (a k D m E : Nat) (hR : sizeL s.data.toList = s.data.toList.drop a) (hk : k = runN (s.data.toList.drop a)) (hD : D = a + k) (hn : D < s.size) (hm : m = runN (s.data.toList.drop (D + 1))) (hE : E = D + 1 + m)
    (ha : a ≤ s.size) (k1 : 1 ≤ k) (k2 : k ≤ 40) (hc : s[D].toNat = 46) (m1 : 1 ≤ m) (m2 : m ≤ 40) (h : ¬ E < s.size) (h' : E ≤ s.size) : GoodL s.data.toList a k E := by
  subst hD
  have hl := size_list s
  have eE : E = s.data.toList.length := by omega
  rw [eE]
  exact good_case2 hR (by omega) k hk k1 k2 (by omega) (by rw [get_list s _ hn]; exact UInt8.toNat_inj.1 hc) m hm m1 m2 (by omega)

/-- What is carried ahead of place i; whether it was ever too great. -/
def XN (l : List UInt8) (L D a i : Nat) : Nat := accN (fd l L) D a (i - a)
def grB (x : Nat) : Bool := decide (20769187434139310514121985316880384 ≤ x)
theorem xn_zero (l : List UInt8) (L D a : Nat) : XN l L D a a = 0 := by unfold XN; rw [Nat.sub_self, accN]
theorem xn_dot {l : List UInt8} {L D a : Nat} (h : a ≤ D) : XN l L D a (D + 1) = XN l L D a D := by
  unfold XN; rw [show D + 1 - a = (D - a) + 1 by omega, accN, if_pos (by omega)]
theorem xn_step {l : List UInt8} {L D a i : Nat} (h : a ≤ i) (hi : i ≠ D) : XN l L D a (i + 1) = XN l L D a i * 10 + fd l L i := by
  unfold XN; rw [show i + 1 - a = (i - a) + 1 by omega, accN, if_neg (by omega), show a + (i - a) = i by omega]
theorem gr_step (x d : Nat) (hd : d ≤ 9) : grB (x * 10 + d) = (grB x || decide ((1125899906842624 : Int) ≤ uhi ((x * 10 + d : Nat) : Int))) := by
  unfold grB
  by_cases h : 20769187434139310514121985316880384 ≤ x
  · have h1 : decide (20769187434139310514121985316880384 ≤ x) = true := by simpa using h
    have h2 : decide (20769187434139310514121985316880384 ≤ x * 10 + d) = true := by simp; omega
    rw [h1, h2]; rfl
  · have h1 : decide (20769187434139310514121985316880384 ≤ x) = false := by simpa using h
    rw [h1, Bool.false_or]
    have : uhi ((x * 10 + d : Nat) : Int) = ((x * 10 + d : Nat) : Int) / 18446744073709551616 := by unfold uhi; omega
    rw [this, Bool.eq_iff_iff]; simp only [decide_eq_true_eq]; omega
theorem fd_digit {l : List UInt8} {L i : Nat} (h : i < L) (hL : L ≤ l.length) : fd l L i = l[i].toNat - 48 := by
  unfold fd; rw [if_pos h, getD_get _ _ (by omega)]
theorem fd_none {l : List UInt8} {L i : Nat} (h : ¬ i < L) : fd l L i = 0 := by unfold fd; rw [if_neg h]
theorem word_small (d : Nat) (h : d < 18446744073709551616) : uhi (d : Int) = 0 ∧ loOf (d : Int) = d := by unfold uhi loOf; omega

theorem fin_great {l : List UInt8} {X N : Nat} (hb : numB l = true) (hN : numN l = N) (hX : X ≤ N) (h : grB X = true) : rdV l = 0 ∧ rdK l = 2 := by
  refine num_great hb ?_
  unfold grB at h; simp at h; omega
theorem fin_not {l : List UInt8} {X N : Nat} (hb : numB l = true) (hN : numN l = N) (hX : N ≤ X + 1) (h : grB X = false) (hs : sgnB (N % 340282366920938463463374607431768211456) = false) : rdV l = 0 ∧ rdK l = 2 := by
  refine num_great hb ?_
  unfold grB at h; simp at h
  rw [Nat.mod_eq_of_lt (by omega)] at hs
  rcases Nat.lt_or_ge 9223372036854775807 N with g | g
  · omega
  · rw [sgnB_yes g] at hs; cases hs
theorem fin_is {l : List UInt8} {X N : Nat} {neg : Bool} (hb : numB l = true) (hN : numN l = N) (hX : N ≤ X + 1) (h : grB X = false) (hs : sgnB (N % 340282366920938463463374607431768211456) = true) (hn : neg = minusB l) : rdV l = sgnV neg (N % 340282366920938463463374607431768211456) ∧ rdK l = 1 := by
  unfold grB at h; simp at h
  rw [Nat.mod_eq_of_lt (by omega)] at hs ⊢
  have g : N ≤ 9223372036854775807 := by
    rcases Nat.lt_or_ge 9223372036854775807 N with g | g
    · rw [sgnB_no g] at hs; cases hs
    · exact g
  have := num_is hb (by omega)
  rw [hN] at this
  rw [sgnV_yes neg g, hn]
  exact this

end Go.Proofs.YtdklhgfkaablbaaDoor

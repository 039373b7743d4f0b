/-
  The contract of the document's Parse.
-/
import Derived.Test.YtfppjnigbodphaaDoorDecH
import Derived.Deep.DeepCutAuto
import Derived.Deep.Light
namespace Go.Proofs.YtfppjnigbodphaaDoor
open Go.RowKit
set_option maxHeartbeats 2000000

theorem minus_at (s : ByteArray) : (s.size = 0 → minusB s.data.toList = false) ∧ (∀ h : 0 < s.size, minusB s.data.toList = decide ((s[0].toNat : Int) = 45)) := by
  have hl := size_list s
  constructor
  · intro h; rw [List.length_eq_zero_iff.1 (hl.trans h)]; rfl
  · intro h
    have e : s.data.toList = s[0] :: s.data.toList.tail := by
      have := List.drop_eq_getElem_cons (l := s.data.toList) (i := 0) (by omega)
      simp only [List.drop_zero] at this
      rw [this]; rfl
    unfold minusB
    rw [e]
    show ((some s[0] : Option UInt8) == some 45) = _
    by_cases hc : s[0] = 45
    · rw [hc]; rfl
    · have : ¬ (s[0].toNat : Int) = 45 := fun h => hc (UInt8.toNat_inj.1 (by show s[0].toNat = 45; omega))
      simp [hc, this]
theorem sign_at (l : List UInt8) (a : Nat) (ha : a = if minusB l then 1 else 0) : sizeL l = l.drop a ∧ a ≤ l.length := by
  unfold sizeL
  rw [ha]
  cases hm : minusB l
  · exact ⟨rfl, Nat.zero_le _⟩
  · refine ⟨?_, ?_⟩
    · simp
    · unfold minusB at hm
      cases l with
      | nil => cases hm
      | cons c l => simp

/-- It is a numeral; its digits end at L; what it says. -/
def GoodL (l : List UInt8) (a k L : Nat) : Prop := numB l = true ∧ L ≤ l.length ∧ a + k ≤ L ∧ (∀ i (h : i < l.length), a ≤ i → i < L → i ≠ a + k → 48 ≤ l[i].toNat ∧ l[i].toNat ≤ 57) ∧
  numN l = accN (fd l L) (a + k) a (k + 5) + (if a + k + 5 < L ∧ 53 ≤ (l.getD (a + k + 5) 0).toNat then 1 else 0)
theorem run_digit (l : List UInt8) (a i : Nat) (hi : i < runN (l.drop a)) (h : a + i < l.length) : 48 ≤ l[a + i].toNat ∧ l[a + i].toNat ≤ 57 := by
  have hall := run_all (l.drop a)
  have e := (run_split (l.drop a)).1
  rw [← e] at hall
  have hlen : i < ((l.drop a).take (runN (l.drop a))).length := by
    rw [List.length_take, List.length_drop]; omega
  have := dig_at _ hall i hlen
  rw [List.getElem_take, List.getElem_drop] at this
  exact this
theorem bad_k {l : List UInt8} {a : Nat} (hR : sizeL l = l.drop a) (h : runN (l.drop a) = 0 ∨ 40 < runN (l.drop a)) : numB l = false := by
  unfold numB; rw [hR, num_short h]; rfl
theorem bad_rest {l : List UInt8} {a : Nat} (hR : sizeL l = l.drop a) (k : Nat) (hk : k = runN (l.drop a)) (h : a + k < l.length) (hb : l[a + k] ≠ 46 ∨ runN (l.drop (a + k + 1)) = 0 ∨ 40 < runN (l.drop (a + k + 1)) ∨ a + k + 1 + runN (l.drop (a + k + 1)) < l.length) : numB l = false := by
  subst hk
  have hd : (l.drop a).drop (runN (l.drop a) + 1) = l.drop (a + runN (l.drop a) + 1) := by rw [List.drop_drop]; congr 1
  have := rest_bad (R := l.drop a) (by rw [List.length_drop]; omega) (by
    rw [List.getElem_drop, hd]
    rcases hb with hb | hb | hb | hb
    · exact .inl hb
    · exact .inr (.inl hb)
    · exact .inr (.inr (.inl hb))
    · exact .inr (.inr (.inr (by rw [List.length_drop]; omega))))
  unfold numB
  rw [hR]
  rcases this with h1 | ⟨h1, h2⟩
  · rw [h1]; rfl
  · rw [h1, h2]; simp
theorem good_case1 {l : List UInt8} {a : Nat} (hR : sizeL l = l.drop a) (ha : a ≤ l.length) (k : Nat) (hk : k = runN (l.drop a)) (k1 : 1 ≤ k) (k2 : k ≤ 40) (h : a + k = l.length) : GoodL l a k (a + k) := by
  obtain ⟨g1, _⟩ := good1 l a k ha hk.symm h
  have hl : (l.drop a).length = k := by rw [List.length_drop]; omega
  obtain ⟨c1, c2, c3, c4⟩ := good_end (R := l.drop a) (by rw [← hk, hl])
  refine ⟨?_, by omega, by omega, ?_, ?_⟩
  · unfold numB; rw [hR, c1, c2, (ok_iff _).2 ⟨by omega, by rw [← hk, hl]⟩]; rfl
  · intro i h1 h2 h3 _
    obtain ⟨j, rfl⟩ : ∃ j, i = a + j := ⟨i - a, by omega⟩
    exact run_digit l a j (by omega) h1
  · unfold numN; rw [hR, g1, if_neg (by omega)]; rfl
theorem good_case2 {l : List UInt8} {a : Nat} (hR : sizeL l = l.drop a) (ha : a ≤ l.length) (k : Nat) (hk : k = runN (l.drop a)) (k1 : 1 ≤ k) (k2 : k ≤ 40) (h : a + k < l.length) (hc : l[a + k] = 46)
    (m : Nat) (hm : m = runN (l.drop (a + k + 1))) (m1 : 1 ≤ m) (m2 : m ≤ 40) (hend : a + k + 1 + m = l.length) : GoodL l a k l.length := by
  obtain ⟨g1, g2, g3⟩ := good2 l a k ha hk.symm h hc
  obtain ⟨c1, _⟩ := good_dot (R := l.drop a) (by rw [List.length_drop]; omega) (by simp only [← hk]; rw [List.getElem_drop]; exact hc)
  have hlB : (l.drop (a + k + 1)).length = m := by rw [List.length_drop]; omega
  refine ⟨?_, by omega, by omega, ?_, ?_⟩
  · unfold numB; rw [hR, c1, g2, g3, (ok_iff (l.drop (a + k + 1))).2 ⟨by omega, by rw [← hm, hlB]⟩]
    have hlA : ((l.drop a).take k).length = k := by rw [List.length_take, List.length_drop]; omega
    have : okD ((l.drop a).take k) = true := by
      unfold okD
      have e := (run_split (l.drop a)).1
      rw [← hk] at e
      rw [hlA, e, run_all]; simp; omega
    rw [this]; rfl
  · intro i h1 h2 _ h4
    by_cases hi : i < a + k
    · obtain ⟨j, rfl⟩ : ∃ j, i = a + j := ⟨i - a, by omega⟩
      exact run_digit l a j (by omega) h1
    · obtain ⟨j, rfl⟩ : ∃ j, i = a + k + 1 + j := ⟨i - (a + k + 1), by omega⟩
      exact run_digit l (a + k + 1) j (by omega) h1
  · unfold numN; rw [hR, g1]

theorem bad_at (s : ByteArray) (a k D m E : Nat) (hR : sizeL s.data.toList = s.data.toList.drop a) (hk : k = runN (s.data.toList.drop a)) (hD : D = a + k) (hn : D < s.size) (hm : m = runN (s.data.toList.drop (D + 1))) (hE : E = D + 1 + m)
    (hx : s[D].toNat ≠ 46 ∨ m = 0 ∨ 40 < m ∨ E < s.size) : rdV s.data.toList = 0 ∧ rdK s.data.toList = 0 := by
  subst hD; subst hm; subst hE
  have hl := size_list s
  refine no_num (bad_rest hR k hk (by omega) ?_)
  rcases hx with hx | hx | hx | hx
  · left; intro hy; apply hx; rw [← get_list s _ hn, hy]; rfl
  · right; left; exact hx
  · right; right; left; exact hx
  · right; right; right; omega
theorem good_at (s : ByteArray) (a k D m E : Nat) (hR : sizeL s.data.toList = s.data.toList.drop a) (hk : k = runN (s.data.toList.drop a)) (hD : D = a + k) (hn : D < s.size) (hm : m = runN (s.data.toList.drop (D + 1))) (hE : E = D + 1 + m)
    (ha : a ≤ s.size) (k1 : 1 ≤ k) (k2 : k ≤ 40) (hc : s[D].toNat = 46) (m1 : 1 ≤ m) (m2 : m ≤ 40) (h : ¬ E < s.size) (h' : E ≤ s.size) : GoodL s.data.toList a k E := by
  subst hD
  have hl := size_list s
  have eE : E = s.data.toList.length := by omega
  rw [eE]
  exact good_case2 hR (by omega) k hk k1 k2 (by omega) (by rw [get_list s _ hn]; exact UInt8.toNat_inj.1 hc) m hm m1 m2 (by omega)

/-- What is carried ahead of place i; whether it was ever too great. -/
def XN (l : List UInt8) (L D a i : Nat) : Nat := accN (fd l L) D a (i - a)
def grB (x : Nat) : Bool := decide (20769187434139310514121985316880384 ≤ x)
theorem xn_zero (l : List UInt8) (L D a : Nat) : XN l L D a a = 0 := by unfold XN; rw [Nat.sub_self, accN]
theorem xn_dot {l : List UInt8} {L D a : Nat} (h : a ≤ D) : XN l L D a (D + 1) = XN l L D a D := by
  unfold XN; rw [show D + 1 - a = (D - a) + 1 by omega, accN, if_pos (by omega)]
theorem xn_step {l : List UInt8} {L D a i : Nat} (h : a ≤ i) (hi : i ≠ D) : XN l L D a (i + 1) = XN l L D a i * 10 + fd l L i := by
  unfold XN; rw [show i + 1 - a = (i - a) + 1 by omega, accN, if_neg (by omega), show a + (i - a) = i by omega]
theorem gr_step (x d : Nat) (hd : d ≤ 9) : grB (x * 10 + d) = (grB x || decide ((1125899906842624 : Int) ≤ uhi ((x * 10 + d : Nat) : Int))) := by
  unfold grB
  by_cases h : 20769187434139310514121985316880384 ≤ x
  · have h1 : decide (20769187434139310514121985316880384 ≤ x) = true := by simpa using h
    have h2 : decide (20769187434139310514121985316880384 ≤ x * 10 + d) = true := by simp; omega
    rw [h1, h2]; rfl
  · have h1 : decide (20769187434139310514121985316880384 ≤ x) = false := by simpa using h
    rw [h1, Bool.false_or]
    have : uhi ((x * 10 + d : Nat) : Int) = ((x * 10 + d : Nat) : Int) / 18446744073709551616 := by unfold uhi; omega
    rw [this, Bool.eq_iff_iff]; simp only [decide_eq_true_eq]; omega
theorem fd_digit {l : List UInt8} {L i : Nat} (h : i < L) (hL : L ≤ l.length) : fd l L i = l[i].toNat - 48 := by
  unfold fd; rw [if_pos h, getD_get _ _ (by omega)]
theorem fd_none {l : List UInt8} {L i : Nat} (h : ¬ i < L) : fd l L i = 0 := by unfold fd; rw [if_neg h]
theorem word_small (d : Nat) (h : d < 18446744073709551616) : uhi (d : Int) = 0 ∧ loOf (d : Int) = d := by unfold uhi loOf; omega

theorem signed_mod (neg : Bool) (N : Nat) (w : World) : Calls Tryd.prog 40 #[.bool neg, .agg #[.int .u64 (uhi N), .int .u64 (loOf N)]] w fun e w' => e = .returned (.tuple #[.int .i64 (sgnV neg (N % 340282366920938463463374607431768211456)), .bool (sgnB (N % 340282366920938463463374607431768211456))]) ∧ Ext w w' := by
  have h := rsigned_w neg (N % 340282366920938463463374607431768211456) (Nat.mod_lt _ (by decide)) w
  have e1 : uhi ((N % 340282366920938463463374607431768211456 : Nat) : Int) = uhi N := by unfold uhi; omega
  have e2 : loOf ((N % 340282366920938463463374607431768211456 : Nat) : Int) = loOf N := by unfold loOf; omega
  rw [e1, e2] at h
  exact h
theorem fin_great {l : List UInt8} {X N : Nat} (hb : numB l = true) (hN : numN l = N) (hX : X ≤ N) (h : grB X = true) : rdV l = 0 ∧ rdK l = 2 := by
  refine num_great hb ?_
  unfold grB at h; simp at h; omega
theorem fin_not {l : List UInt8} {X N : Nat} (hb : numB l = true) (hN : numN l = N) (hX : N ≤ X + 1) (h : grB X = false) (hs : sgnB (N % 340282366920938463463374607431768211456) = false) : rdV l = 0 ∧ rdK l = 2 := by
  refine num_great hb ?_
  unfold grB at h; simp at h
  rw [Nat.mod_eq_of_lt (by omega)] at hs
  rcases Nat.lt_or_ge 9223372036854775807 N with g | g
  · omega
  · rw [sgnB_yes g] at hs; cases hs
theorem fin_is {l : List UInt8} {X N : Nat} {neg : Bool} (hb : numB l = true) (hN : numN l = N) (hX : N ≤ X + 1) (h : grB X = false) (hs : sgnB (N % 340282366920938463463374607431768211456) = true) (hn : neg = minusB l) : rdV l = sgnV neg (N % 340282366920938463463374607431768211456) ∧ rdK l = 1 := by
  unfold grB at h; simp at h
  rw [Nat.mod_eq_of_lt (by omega)] at hs ⊢
  have g : N ≤ 9223372036854775807 := by
    rcases Nat.lt_or_ge 9223372036854775807 N with g | g
    · rw [sgnB_no g] at hs; cases hs
    · exact g
  have := num_is hb (by omega)
  rw [hN] at this
  rw [sgnV_yes neg g, hn]
  exact this

set_option maxRecDepth 100000 in
theorem rparse_any (s : ByteArray) (w : World) (hs : s.size ≤ maxLen) :
    Calls Tryd.prog 30 #[.string s] w fun e w' => e = .returned (.tuple #[.int .i64 (rdV s.data.toList), .int .i64 (rdK s.data.toList)]) ∧ Ext w w' := by
  unfold maxLen at hs
  have hl := size_list s
  obtain ⟨m1, m2⟩ := minus_at s
  obtain ⟨a, haM⟩ : ∃ a : Nat, a = if minusB s.data.toList then 1 else 0 := ⟨_, rfl⟩
  obtain ⟨hR, ha⟩ := sign_at _ a haM
  have HM : Hid (a = if minusB s.data.toList then 1 else 0) := haM
  have H1 : Hid (s.size = 0 → minusB s.data.toList = false) := m1
  have H2 : Hid (∀ h : 0 < s.size, minusB s.data.toList = decide ((s[0].toNat : Int) = 45)) := m2
  have HR : Hid (sizeL s.data.toList = s.data.toList.drop a) := hR
  rw [hl] at ha
  clear m1 m2 haM hR
  go_enter Tryd.func30, Tryd.ntmps30
  go_upto_region 2 with fail
  go_cut [20] (fun v wx => v = .bool (minusB s.data.toList) ∧ wx = w)
  case first =>
    by_cases h0 : 0 < s.size
    · by_cases h1 : (s[0].toNat : Int) = 45
      · have HB : Hid (minusB s.data.toList = true) := by show _ = _; rw [H2.out h0]; simpa using h1
        have h1' : ((s[0].toNat : Int) == 45) = true := by simpa using h1
        clear h1
        go_wp2_with fail
        go_meet
        case rel => exact ⟨by rw [HB.out], rfl⟩
      · have HB : Hid (minusB s.data.toList = false) := by show _ = _; rw [H2.out h0]; simpa using h1
        have h1' : ((s[0].toNat : Int) == 45) = false := by simpa using h1
        clear h1
        go_wp2_with fail
        go_meet
        case rel => exact ⟨by rw [HB.out], rfl⟩
    · have HB : Hid (minusB s.data.toList = false) := H1.out (by omega)
      go_wp2_with fail
      go_meet
      case rel => exact ⟨by rw [HB.out], rfl⟩
  case rest =>
    obtain ⟨rfl, rfl⟩ := hcut
    clear H1 H2
    go_upto_if 20 with fail
    go_cut [4] (fun v wx => v = .int .i64 (a : Int) ∧ wx = wc)
    case first =>
      cases hm : minusB s.data.toList
      · have ea : a = 0 := by rw [HM.out, hm]; rfl
        subst ea
        go_wp2_with fail
        go_meet
        case rel => exact ⟨rfl, rfl⟩
      · have ea : a = 1 := by rw [HM.out, hm]; rfl
        subst ea
        go_wp2_with fail
        go_meet
        case rel => exact ⟨rfl, rfl⟩
    case rest =>
      obtain ⟨rfl, rfl⟩ := hcut
      obtain ⟨k, hk⟩ : ∃ k : Nat, k = runN (s.data.toList.drop a) := ⟨_, rfl⟩
      have hkl : a + k ≤ s.size := by have := run_le (s.data.toList.drop a); rw [List.length_drop] at this; omega
      have ce := fun W => end_any s a ha hs W
      have ee : endN s.data.toList a = a + k := by rw [hk]; rfl
      rw [ee] at ce
      obtain ⟨D, hD⟩ : ∃ D : Nat, D = a + k := ⟨_, rfl⟩
      rw [← hD] at ce hkl
      have HD : Hid (D = a + k) := hD
      have HK : Hid (k = runN (s.data.toList.drop a)) := hk
      clear ee hk
      have d1 : (a : Int) ≤ D := by omega
      have d2 : (D : Int) - a = k := by omega
      by_cases hb : k = 0 ∨ 40 < k
      · have HZ : Hid (rdV s.data.toList = 0 ∧ rdK s.data.toList = 0) := no_num (bad_k HR.out (by rw [← HK.out]; exact hb))
        rcases hb with hb | hb
        · have q1 : ((D : Int) == a) = true := by simp; omega
          clear hD
          go_wp2_with fail
          refine (ce _).mono ?_
          rintro e w1 ⟨rfl, rfl⟩
          go_wp2_with fail
          go_ret2
          exact ⟨ret_ii HZ.out.1.symm HZ.out.2.symm, Ext.refl _⟩
        · have q1 : ((D : Int) == a) = false := by simp; omega
          have q2 : (40 : Int) < D - a := by omega
          clear hD d2
          go_wp2_with fail
          refine (ce _).mono ?_
          rintro e w1 ⟨rfl, rfl⟩
          go_wp2_with fail
          go_ret2
          exact ⟨ret_ii HZ.out.1.symm HZ.out.2.symm, Ext.refl _⟩
      · have k1 : ((D : Int) == a) = false := by simp; omega
        have k2 : ¬ (40 : Int) < D - a := by omega
        go_wp2_with fail
        refine (ce _).mono ?_
        rintro e w1 ⟨rfl, rfl⟩
        clear d2 hD
        go_upto_if 37 with fail
        go_cut [6] (fun v wx => ∃ L : Nat, v = .int .i64 (L : Int) ∧ Hid (GoodL s.data.toList a k L) ∧ wx = w1)
        case first =>
          by_cases hn : D < s.size
          · obtain ⟨m, hm⟩ : ∃ m : Nat, m = runN (s.data.toList.drop (D + 1)) := ⟨_, rfl⟩
            have hml : D + 1 + m ≤ s.size := by have := run_le (s.data.toList.drop (D + 1)); rw [List.length_drop] at this; omega
            have ce2 := fun W => end_any s (D + 1) (by omega) hs W
            have ee : endN s.data.toList (D + 1) = D + 1 + m := by rw [hm]; rfl
            rw [ee, show ((D + 1 : Nat) : Int) = (D : Int) + 1 by omega] at ce2
            obtain ⟨E, hE⟩ : ∃ E : Nat, E = D + 1 + m := ⟨_, rfl⟩
            rw [← hE] at ce2 hml
            have HB : Hid ((s[D].toNat ≠ 46 ∨ m = 0 ∨ 40 < m ∨ E < s.size) → rdV s.data.toList = 0 ∧ rdK s.data.toList = 0) := bad_at s a k D m E HR.out HK.out HD.out hn hm hE
            have HE : Hid (E = D + 1 + m) := hE
            have HMm : Hid (m = runN (s.data.toList.drop (D + 1))) := hm
            have hnI : (D : Int) < s.size := by omega
            have hE1 : (D : Int) + 1 ≤ E := by omega
            have hE2 : (E : Int) ≤ 9223372036854775807 := by omega
            have hE3 : (0 : Int) ≤ D := by omega
            by_cases g1 : s[D].toNat = 46
            · have g1' : ((s[D].toNat : Int) != 46) = false := by simp; omega
              by_cases g2 : m = 0
              · have HZ : Hid (rdV s.data.toList = 0 ∧ rdK s.data.toList = 0) := HB.out (.inr (.inl g2))
                have g2' : ((E : Int) == D + 1) = true := by simp; omega
                clear hE hm ee hb g1 g2 hkl hml
                go_wp2_with fail
                refine (ce2 _).mono ?_
                rintro e w2 ⟨rfl, rfl⟩
                go_wp2_with fail
                go_ret2
                exact ⟨ret_ii HZ.out.1.symm HZ.out.2.symm, Ext.refl _⟩
              · have g2' : ((E : Int) == D + 1) = false := by simp; omega
                by_cases g3 : 40 < m
                · have HZ : Hid (rdV s.data.toList = 0 ∧ rdK s.data.toList = 0) := HB.out (.inr (.inr (.inl g3)))
                  have g3' : (40 : Int) < E - D - 1 := by omega
                  clear hE hm ee hb g1 g2 g3 hkl hml
                  go_wp2_with fail
                  refine (ce2 _).mono ?_
                  rintro e w2 ⟨rfl, rfl⟩
                  go_wp2_with fail
                  go_ret2
                  exact ⟨ret_ii HZ.out.1.symm HZ.out.2.symm, Ext.refl _⟩
                · have g3' : ¬ (40 : Int) < E - D - 1 := by omega
                  by_cases g4 : E < s.size
                  · have HZ : Hid (rdV s.data.toList = 0 ∧ rdK s.data.toList = 0) := HB.out (.inr (.inr (.inr g4)))
                    have g4' : (E : Int) < s.size := by omega
                    clear hE hm ee hb g1 g2 g3 hkl hml
                    go_wp2_with fail
                    refine (ce2 _).mono ?_
                    rintro e w2 ⟨rfl, rfl⟩
                    go_wp2_with fail
                    go_ret2
                    exact ⟨ret_ii HZ.out.1.symm HZ.out.2.symm, Ext.refl _⟩
                  · have g4' : ¬ (E : Int) < s.size := by omega
                    have HG : Hid (GoodL s.data.toList a k E) := good_at s a k D m E HR.out HK.out HD.out hn hm hE ha (by omega) (by omega) g1 (by omega) (by omega) g4 hml
                    clear hE hm ee hb g1 g2 g3 g4 hkl hml
                    go_wp2_with fail
                    refine (ce2 _).mono ?_
                    rintro e w2 ⟨rfl, rfl⟩
                    go_wp2_with fail
                    go_meet
                    case rel => exact ⟨E, rfl, HG, rfl⟩
            · have g1' : ((s[D].toNat : Int) != 46) = true := by simp; omega
              have HZ : Hid (rdV s.data.toList = 0 ∧ rdK s.data.toList = 0) := HB.out (.inl g1)
              clear hE hm ee hb g1 hkl hml
              go_wp2_with fail
              refine (ce2 _).mono ?_
              rintro e w2 ⟨rfl, rfl⟩
              go_wp2_with fail
              go_ret2
              exact ⟨ret_ii HZ.out.1.symm HZ.out.2.symm, Ext.refl _⟩
          · have HG : Hid (GoodL s.data.toList a k D) := by
              show GoodL _ _ _ _
              have HDo := HD.out
              rw [HDo]
              exact good_case1 HR.out (by omega) k HK.out (by omega) (by omega) (by omega)
            go_wp2_with fail
            go_meet
            case rel => exact ⟨D, rfl, HG, rfl⟩
        case rest =>
          obtain ⟨L, rfl, HG, rfl⟩ := hcut
          obtain ⟨_, g2, g3, _, _⟩ := HG.out
          rw [hl] at g2
          rw [← HD.out] at g3
          have l1 : (D : Int) ≤ L := by omega
          have l2 : (L : Int) ≤ s.size := by omega
          have l3 : (s.size : Int) ≤ 9223372036854775807 := by omega
          have a1 : a ≤ 1 := by rw [HM.out]; split <;> omega
          have l4 : (D : Int) ≤ 41 := by omega
          have HDg : Hid (∀ i (h : i < s.size), a ≤ i → i < L → i ≠ D → 48 ≤ s[i].toNat ∧ s[i].toNat ≤ 57) := by
            obtain ⟨_, _, _, q4, _⟩ := HG.out
            rw [← HD.out] at q4
            intro i h
            have := q4 i (by omega)
            rwa [get_list s i h] at this
          have HDa : Hid (a ≤ D) := by show a ≤ D; omega
          clear ce g3 a1 k1 k2 hb d1 hkl
          go_wp2_with fail
          go_loopw [8, 9] (fun g i wx => ∃ j : Nat, a ≤ j ∧ j ≤ D + 5 ∧ i = .int .i64 j ∧ g = .bool (grB (XN s.data.toList L D a j)) ∧ Hid (Ext wc wx ∧ Pair wx wc.heap.size (XN s.data.toList L D a j))) (fun _ i _ => D + 5 - (intOf i).toNat)
          case atStart => exact ⟨a, Nat.le_refl _, by have := HDa.out; omega, rfl, by rw [xn_zero]; rfl, (Ext.refl _).alloc _, by
            rw [xn_zero]; exact ⟨by simp, by simp; rfl, by simp; rfl, by simp, by simp⟩⟩
          case round =>
            obtain ⟨j, hj1, hj2, rfl, rfl, HP⟩ := hrel
            have hj3 : (j : Int) ≤ D + 5 := by omega
            by_cases hlt : j < D + 5
            · have hlt1 : (j : Int) < D + 5 := by omega
              by_cases hjD : j = D
              · have q1 : ((j : Int) == D) = true := by simp; omega
                have HX : Hid (XN s.data.toList L D a (j + 1) = XN s.data.toList L D a j) := by show _ = _; rw [hjD]; exact xn_dot HDa.out
                clear hjD
                go_wp2_with fail
                go_roundw
                case rel => exact ⟨j + 1, by omega, by omega, by go_num, by rw [HX.out], by rw [HX.out]; exact HP⟩
                case measure => simp [intOf]; omega
              · have q1 : ((j : Int) == D) = false := by simp; omega
                have HX : Hid (XN s.data.toList L D a (j + 1) = XN s.data.toList L D a j * 10 + fd s.data.toList L j) := xn_step hj1 hjD
                generalize XN s.data.toList L D a j = X at *
                have ct := fun W => times_w X W
                obtain ⟨z, c0, c1, f0, f1⟩ := HP.out.2
                by_cases hjL : j < L
                · have hjs : j < s.size := by omega
                  obtain ⟨e1, e2⟩ := HDg.out j hjs hj1 hjL hjD
                  have e3 : (48 : Int) ≤ s[j].toNat := by omega
                  have e4 : (s[j].toNat : Int) ≤ 57 := by omega
                  have hjL' : (j : Int) < L := by omega
                  have hF : fd s.data.toList L j = s[j].toNat - 48 := by rw [fd_digit hjL (by omega)]; rfl
                  rw [hF] at HX
                  have HG2 : Hid (grB (X * 10 + (s[j].toNat - 48)) = (grB X || decide ((1125899906842624 : Int) ≤ uhi ((X * 10 + (s[j].toNat - 48) : Nat) : Int)))) := gr_step X _ (by omega)
                  have cp := fun W => plusW_w ((X : Int) * 10) ((s[j].toNat - 48 : Nat) : Int) W
                  rw [(word_small (s[j].toNat - 48) (by omega)).1, (word_small (s[j].toNat - 48) (by omega)).2] at cp
                  have ed : ((s[j].toNat - 48 : Nat) : Int) = (s[j].toNat : Int) - 48 := by omega
                  have ex : (X : Int) * 10 + ((s[j].toNat : Int) - 48) = ((X * 10 + (s[j].toNat - 48) : Nat) : Int) := by omega
                  rw [ed, ex] at cp
                  generalize X * 10 + (s[j].toNat - 48) = Y at *
                  clear e1 e2 hF ed ex hjD hjL
                  go_wp2_with fail
                  refine (ct _).mono ?_
                  rintro e w2 ⟨rfl, E2⟩
                  go_wp2_with fail
                  refine (cp _).mono ?_
                  rintro e w3 ⟨rfl, E3⟩
                  have HP3 : Hid (Ext wc w3 ∧ Pair w3 wc.heap.size X) := ⟨(HP.out.1.trans E2).trans E3, (HP.out.2.ext E2).ext E3⟩
                  have HS : Hid (Ext wc ((w3.setCell ⟨wc.heap.size, 0, none⟩ (.int .u64 (uhi Y))).setCell ⟨wc.heap.size, 1, none⟩ (.int .u64 (loOf Y))) ∧ Pair ((w3.setCell ⟨wc.heap.size, 0, none⟩ (.int .u64 (uhi Y))).setCell ⟨wc.heap.size, 1, none⟩ (.int .u64 (loOf Y))) wc.heap.size Y) :=
                    ⟨(HP3.out.1.setCell (p := ⟨_, 0, none⟩) (Nat.le_refl _) _).setCell (p := ⟨_, 1, none⟩) (Nat.le_refl _) _, Pair.set HP3.out.2 _⟩
                  obtain ⟨z', c0', c1', f0', f1'⟩ := HP3.out.2
                  clear z c0 c1 f0 f1
                  cases hg : grB X
                  all_goals
                    rw [hg] at HG2
                    go_wp2_with fail
                    go_roundw
                    case rel => exact ⟨j + 1, by omega, by omega, by go_num, by rw [HX.out, HG2.out]; rfl, by rw [HX.out]; exact HS⟩
                    case measure => simp [intOf]; omega
                · have hjL' : ¬ (j : Int) < L := by omega
                  rw [fd_none hjL] at HX
                  have HG2 : Hid (grB (X * 10 + 0) = (grB X || decide ((1125899906842624 : Int) ≤ uhi ((X * 10 + 0 : Nat) : Int)))) := gr_step X 0 (by omega)
                  have cp := fun W => plusW_w ((X : Int) * 10) ((0 : Nat) : Int) W
                  rw [(word_small 0 (by omega)).1, (word_small 0 (by omega)).2, show ((0 : Nat) : Int) = 0 from rfl, show (X : Int) * 10 + 0 = ((X * 10 + 0 : Nat) : Int) by omega] at cp
                  generalize X * 10 + 0 = Y at *
                  clear hjD hjL
                  go_wp2_with fail
                  refine (ct _).mono ?_
                  rintro e w2 ⟨rfl, E2⟩
                  go_wp2_with fail
                  refine (cp _).mono ?_
                  rintro e w3 ⟨rfl, E3⟩
                  have HP3 : Hid (Ext wc w3 ∧ Pair w3 wc.heap.size X) := ⟨(HP.out.1.trans E2).trans E3, (HP.out.2.ext E2).ext E3⟩
                  have HS : Hid (Ext wc ((w3.setCell ⟨wc.heap.size, 0, none⟩ (.int .u64 (uhi Y))).setCell ⟨wc.heap.size, 1, none⟩ (.int .u64 (loOf Y))) ∧ Pair ((w3.setCell ⟨wc.heap.size, 0, none⟩ (.int .u64 (uhi Y))).setCell ⟨wc.heap.size, 1, none⟩ (.int .u64 (loOf Y))) wc.heap.size Y) :=
                    ⟨(HP3.out.1.setCell (p := ⟨_, 0, none⟩) (Nat.le_refl _) _).setCell (p := ⟨_, 1, none⟩) (Nat.le_refl _) _, Pair.set HP3.out.2 _⟩
                  obtain ⟨z', c0', c1', f0', f1'⟩ := HP3.out.2
                  clear z c0 c1 f0 f1
                  cases hg : grB X
                  all_goals
                    rw [hg] at HG2
                    go_wp2_with fail
                    go_roundw
                    case rel => exact ⟨j + 1, by omega, by omega, by go_num, by rw [HX.out, HG2.out]; rfl, by rw [HX.out]; exact HS⟩
                    case measure => simp [intOf]; omega
            · obtain rfl : j = D + 5 := by omega
              have HN : Hid (numB s.data.toList = true ∧ numN s.data.toList = XN s.data.toList L D a (D + 5) + (if D + 5 < L ∧ 53 ≤ (s.data.toList.getD (D + 5) 0).toNat then 1 else 0)) := by
                obtain ⟨q1, _, _, _, q5⟩ := HG.out
                refine ⟨q1, ?_⟩
                have HDo := HD.out
                unfold XN
                rw [q5, ← HDo, show D + 5 - a = k + 5 by omega]
              have HNeg : Hid (((a : Int) == 1) = minusB s.data.toList) := by
                show _ = _
                rw [HM.out]; cases minusB s.data.toList <;> rfl
              generalize XN s.data.toList L D a (D + 5) = X at *
              have hd5 : ((D + 5 : Nat) : Int) = (D : Int) + 5 := by omega
              obtain ⟨z, c0, c1, f0, f1⟩ := HP.out.2
              generalize hneg : ((a : Int) == 1) = neg at *
              by_cases h5 : D + 5 < L
              · have h5' : (D : Int) + 5 < L := by omega
                have hds : D + 5 < s.size := by omega
                have eg : (s.data.toList.getD (D + 5) 0) = s[D + 5] := by rw [getD_get _ _ (by omega)]; rfl
                rw [eg] at HN
                by_cases h53 : (53 : Int) ≤ s[D + 5].toNat
                · rw [if_pos ⟨h5, by omega⟩] at HN
                  have cS := fun W => signed_mod neg (X + 1) W
                  have HF1 : Hid (grB X = true → rdV s.data.toList = 0 ∧ rdK s.data.toList = 2) := fin_great HN.out.1 HN.out.2 (Nat.le_succ _)
                  have HF2 : Hid (grB X = false → sgnB ((X + 1) % 340282366920938463463374607431768211456) = false → rdV s.data.toList = 0 ∧ rdK s.data.toList = 2) := fin_not HN.out.1 HN.out.2 (Nat.le_refl _)
                  have HF3 : Hid (grB X = false → sgnB ((X + 1) % 340282366920938463463374607431768211456) = true → rdV s.data.toList = sgnV neg ((X + 1) % 340282366920938463463374607431768211456) ∧ rdK s.data.toList = 1) := fun h1 h2 => fin_is HN.out.1 HN.out.2 (Nat.le_refl _) h1 h2 HNeg.out
                  generalize sgnV neg ((X + 1) % 340282366920938463463374607431768211456) = V at *
                  generalize sgnB ((X + 1) % 340282366920938463463374607431768211456) = B at *
                  generalize grB X = G at *
                  have cp := fun W => plusW_w (X : Int) ((1 : Nat) : Int) W
                  rw [(word_small 1 (by omega)).1, (word_small 1 (by omega)).2, show ((1 : Nat) : Int) = 1 from rfl, show (X : Int) + 1 = ((X + 1 : Nat) : Int) by omega] at cp
                  generalize X + 1 = Y at *
                  go_wp2_with fail
                  refine (cp _).mono ?_
                  rintro e w3 ⟨rfl, E3⟩
                  have HP3 : Hid (Ext wc w3 ∧ Pair w3 wc.heap.size X) := ⟨HP.out.1.trans E3, HP.out.2.ext E3⟩
                  have HS : Hid (Ext wc ((w3.setCell ⟨wc.heap.size, 0, none⟩ (.int .u64 (uhi Y))).setCell ⟨wc.heap.size, 1, none⟩ (.int .u64 (loOf Y))) ∧ Pair ((w3.setCell ⟨wc.heap.size, 0, none⟩ (.int .u64 (uhi Y))).setCell ⟨wc.heap.size, 1, none⟩ (.int .u64 (loOf Y))) wc.heap.size Y) :=
                    ⟨(HP3.out.1.setCell (p := ⟨_, 0, none⟩) (Nat.le_refl _) _).setCell (p := ⟨_, 1, none⟩) (Nat.le_refl _) _, Pair.set HP3.out.2 _⟩
                  obtain ⟨z', c0', c1', f0', f1'⟩ := HP3.out.2
                  clear z c0 c1 f0 f1
                  go_wp2_with fail
                  refine (cS _).mono ?_
                  rintro e w4 ⟨rfl, E4⟩
                  cases G
                  · cases B
                    · have HFF := HF2.out rfl rfl
                      have HFH : Hid (rdV s.data.toList = 0 ∧ rdK s.data.toList = 2) := HFF
                      clear HFF HF1 HF2 HF3
                      go_wp2_with fail
                      go_ret2
                      exact ⟨ret_ii HFH.out.1.symm HFH.out.2.symm, HS.out.1.trans E4⟩
                    · have HFF := HF3.out rfl rfl
                      have HFH : Hid (rdV s.data.toList = V ∧ rdK s.data.toList = 1) := HFF
                      clear HFF HF1 HF2 HF3
                      go_wp2_with fail
                      go_ret2
                      exact ⟨ret_ii HFH.out.1.symm HFH.out.2.symm, HS.out.1.trans E4⟩
                  · have HFF := HF1.out rfl
                    have HFH : Hid (rdV s.data.toList = 0 ∧ rdK s.data.toList = 2) := HFF
                    clear HFF HF1 HF2 HF3
                    go_wp2_with fail
                    go_ret2
                    exact ⟨ret_ii HFH.out.1.symm HFH.out.2.symm, HS.out.1.trans E4⟩
                · rw [if_neg (fun h => h53 (by omega)), Nat.add_zero] at HN
                  have cS := fun W => signed_mod neg (X) W
                  have HF1 : Hid (grB X = true → rdV s.data.toList = 0 ∧ rdK s.data.toList = 2) := fin_great HN.out.1 HN.out.2 (Nat.le_refl _)
                  have HF2 : Hid (grB X = false → sgnB ((X) % 340282366920938463463374607431768211456) = false → rdV s.data.toList = 0 ∧ rdK s.data.toList = 2) := fin_not HN.out.1 HN.out.2 (by omega)
                  have HF3 : Hid (grB X = false → sgnB ((X) % 340282366920938463463374607431768211456) = true → rdV s.data.toList = sgnV neg ((X) % 340282366920938463463374607431768211456) ∧ rdK s.data.toList = 1) := fun h1 h2 => fin_is HN.out.1 HN.out.2 (by omega) h1 h2 HNeg.out
                  generalize sgnV neg ((X) % 340282366920938463463374607431768211456) = V at *
                  generalize sgnB ((X) % 340282366920938463463374607431768211456) = B at *
                  generalize grB X = G at *
                  go_wp2_with fail
                  refine (cS _).mono ?_
                  rintro e w4 ⟨rfl, E4⟩
                  cases G
                  · cases B
                    · have HFF := HF2.out rfl rfl
                      have HFH : Hid (rdV s.data.toList = 0 ∧ rdK s.data.toList = 2) := HFF
                      clear HFF HF1 HF2 HF3
                      go_wp2_with fail
                      go_ret2
                      exact ⟨ret_ii HFH.out.1.symm HFH.out.2.symm, HP.out.1.trans E4⟩
                    · have HFF := HF3.out rfl rfl
                      have HFH : Hid (rdV s.data.toList = V ∧ rdK s.data.toList = 1) := HFF
                      clear HFF HF1 HF2 HF3
                      go_wp2_with fail
                      go_ret2
                      exact ⟨ret_ii HFH.out.1.symm HFH.out.2.symm, HP.out.1.trans E4⟩
                  · have HFF := HF1.out rfl
                    have HFH : Hid (rdV s.data.toList = 0 ∧ rdK s.data.toList = 2) := HFF
                    clear HFF HF1 HF2 HF3
                    go_wp2_with fail
                    go_ret2
                    exact ⟨ret_ii HFH.out.1.symm HFH.out.2.symm, HP.out.1.trans E4⟩
              · have h5' : ¬ (D : Int) + 5 < L := by omega
                rw [if_neg (by omega), Nat.add_zero] at HN
                have cS := fun W => signed_mod neg (X) W
                have HF1 : Hid (grB X = true → rdV s.data.toList = 0 ∧ rdK s.data.toList = 2) := fin_great HN.out.1 HN.out.2 (Nat.le_refl _)
                have HF2 : Hid (grB X = false → sgnB ((X) % 340282366920938463463374607431768211456) = false → rdV s.data.toList = 0 ∧ rdK s.data.toList = 2) := fin_not HN.out.1 HN.out.2 (by omega)
                have HF3 : Hid (grB X = false → sgnB ((X) % 340282366920938463463374607431768211456) = true → rdV s.data.toList = sgnV neg ((X) % 340282366920938463463374607431768211456) ∧ rdK s.data.toList = 1) := fun h1 h2 => fin_is HN.out.1 HN.out.2 (by omega) h1 h2 HNeg.out
                generalize sgnV neg ((X) % 340282366920938463463374607431768211456) = V at *
                generalize sgnB ((X) % 340282366920938463463374607431768211456) = B at *
                generalize grB X = G at *
                go_wp2_with fail
                refine (cS _).mono ?_
                rintro e w4 ⟨rfl, E4⟩
                cases G
                · cases B
                  · have HFF := HF2.out rfl rfl
                    have HFH : Hid (rdV s.data.toList = 0 ∧ rdK s.data.toList = 2) := HFF
                    clear HFF HF1 HF2 HF3
                    go_wp2_with fail
                    go_ret2
                    exact ⟨ret_ii HFH.out.1.symm HFH.out.2.symm, HP.out.1.trans E4⟩
                  · have HFF := HF3.out rfl rfl
                    have HFH : Hid (rdV s.data.toList = V ∧ rdK s.data.toList = 1) := HFF
                    clear HFF HF1 HF2 HF3
                    go_wp2_with fail
                    go_ret2
                    exact ⟨ret_ii HFH.out.1.symm HFH.out.2.symm, HP.out.1.trans E4⟩
                · have HFF := HF1.out rfl
                  have HFH : Hid (rdV s.data.toList = 0 ∧ rdK s.data.toList = 2) := HFF
                  clear HFF HF1 HF2 HF3
                  go_wp2_with fail
                  go_ret2
                  exact ⟨ret_ii HFH.out.1.symm HFH.out.2.symm, HP.out.1.trans E4⟩
end Go.Proofs.YtfppjnigbodphaaDoor

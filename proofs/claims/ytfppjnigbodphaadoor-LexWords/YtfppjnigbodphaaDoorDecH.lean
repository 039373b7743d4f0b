/-
  A numeral read from place to place says what its two parts say. Plain mathematics.
-/
import Derived.Test.YtfppjnigbodphaaDoorDecG
namespace Go.Proofs.YtfppjnigbodphaaDoor
open Go.RowKit

/-- How many digits stand ahead in a list. -/
def runN (l : List UInt8) : Nat := (l.takeWhile dgB).length
theorem run_le (l : List UInt8) : runN l ≤ l.length := by
  have := (List.takeWhile_sublist dgB (l := l)).length_le; exact this
theorem split_len (A B : List UInt8) : (A ++ B).take A.length = A ∧ (A ++ B).drop A.length = B := by simp
theorem run_split (l : List UInt8) : l.take (runN l) = l.takeWhile dgB ∧ l.drop (runN l) = l.dropWhile dgB := by
  have h := List.takeWhile_append_dropWhile (p := dgB) (l := l)
  have := split_len (l.takeWhile dgB) (l.dropWhile dgB)
  rw [h] at this
  exact this
theorem run_all (l : List UInt8) : (l.takeWhile dgB).all dgB = true := by
  rw [List.all_eq_true]; intro x hx; induction l with
  | nil => cases hx
  | cons c l ih =>
    rw [List.takeWhile_cons] at hx
    split at hx
    · rcases List.mem_cons.1 hx with h | h
      · subst h; assumption
      · exact ih h
    · cases hx
theorem run_full (l : List UInt8) (h : l.all dgB = true) : runN l = l.length := by
  unfold runN; induction l with
  | nil => rfl
  | cons c l ih =>
    rw [List.all_cons, Bool.and_eq_true] at h
    rw [List.takeWhile_cons, h.1]; simp [ih h.2]
theorem all_of_run (l : List UInt8) (h : runN l = l.length) : l.all dgB = true := by
  have := (run_split l).1
  rw [h, List.take_length] at this
  rw [this]; exact run_all l
theorem dot_no {l : List UInt8} (h : l.all dgB = true) : dotB l = false ∧ cutA l = l ∧ cutB l = [] := by
  have hd : dotB l = false := by
    unfold dotB; rw [List.any_eq_false]; intro x hx hc
    have := List.all_eq_true.1 h x hx
    have e : x = 46 := by simpa using hc
    subst e; cases this
  exact ⟨hd, ((index_dot l).2 hd).2⟩
theorem dot_at {A B : List UInt8} (h : A.all dgB = true) : dotB (A ++ 46 :: B) = true ∧ cutA (A ++ 46 :: B) = A ∧ cutB (A ++ 46 :: B) = B := by
  induction A with
  | nil => simp [dotB, cutA, cutB]
  | cons c A ih =>
    rw [List.all_cons, Bool.and_eq_true] at h
    have hc : c ≠ 46 := by intro e; subst e; exact absurd h.1 (by decide)
    have hm : (c != 46) = true := by simpa using hc
    obtain ⟨_, i2, i3⟩ := ih h.2
    refine ⟨?_, ?_, ?_⟩
    · simp [dotB]
    · show List.takeWhile _ (c :: (A ++ 46 :: B)) = _
      rw [List.takeWhile_cons, hm]; simp only [if_true]; rw [show List.takeWhile (fun c => c != 46) (A ++ 46 :: B) = A from i2]
    · show (List.dropWhile _ (c :: (A ++ 46 :: B))).tail = _
      rw [List.dropWhile_cons, hm]; exact i3
theorem dot_other {A B : List UInt8} {c : UInt8} (h : A.all dgB = true) (hc : dgB c = false) (hc' : c ≠ 46) : okD (cutA (A ++ c :: B)) = false := by
  have hm : c ∈ cutA (A ++ c :: B) := by
    induction A with
    | nil =>
      have : (c != 46) = true := by simpa using hc'
      show c ∈ List.takeWhile _ (c :: B)
      rw [List.takeWhile_cons, this]; simp
    | cons d A ih =>
      rw [List.all_cons, Bool.and_eq_true] at h
      have hd : (d != 46) = true := by
        have : d ≠ 46 := by intro e; subst e; exact absurd h.1 (by decide)
        simpa using this
      show c ∈ List.takeWhile _ (d :: (A ++ c :: B))
      rw [List.takeWhile_cons, hd]; simp only [if_true]
      exact List.mem_cons_of_mem _ (ih h.2)
  unfold okD; rw [Bool.and_eq_false_iff]; right
  rw [List.all_eq_false]; exact ⟨c, hm, by rw [hc]; simp⟩
theorem ok_iff (l : List UInt8) : okD l = true ↔ (1 ≤ l.length ∧ l.length ≤ 40) ∧ runN l = l.length := by
  constructor
  · intro h; unfold okD at h; rw [Bool.and_eq_true] at h; exact ⟨by simpa using h.1, run_full l h.2⟩
  · intro h; unfold okD; rw [all_of_run l h.2]; simp; exact h.1

/-- What is read behind a sign: k digits; then the end, or a dot and m digits, and the end. -/
theorem num_short {R : List UInt8} (h : runN R = 0 ∨ 40 < runN R) : okD (cutA R) = false := by
  have hs := List.takeWhile_append_dropWhile (p := dgB) (l := R)
  have ha := run_all R
  rcases hd : R.dropWhile dgB with _ | ⟨c, B⟩
  · rw [hd, List.append_nil] at hs
    rw [hs] at ha
    rw [(dot_no ha).2.1]
    rcases Bool.eq_false_or_eq_true (okD R) with h' | h'
    · have := (ok_iff R).1 h'; omega
    · exact h'
  · have hc : dgB c = false := by
      have : ∀ l : List UInt8, ∀ c B, l.dropWhile dgB = c :: B → dgB c = false := by
        intro l; induction l with
        | nil => intro c B h; cases h
        | cons d l ih =>
          intro c B h; rw [List.dropWhile_cons] at h
          split at h
          · exact ih c B h
          · rename_i hh; obtain ⟨rfl, _⟩ := List.cons.inj h; exact Bool.eq_false_iff.2 hh
      exact this R c B hd
    rw [hd] at hs
    by_cases h46 : c = 46
    · subst h46
      rw [← hs, (dot_at ha).2.1]
      rcases Bool.eq_false_or_eq_true (okD (R.takeWhile dgB)) with h' | h'
      · have := (ok_iff _).1 h'; have e : (R.takeWhile dgB).length = runN R := rfl; omega
      · exact h'
    · rw [← hs]; exact dot_other ha hc h46

theorem drop_head {l : List UInt8} {c : UInt8} {B : List UInt8} (h : l.dropWhile dgB = c :: B) : dgB c = false := by
  induction l with
  | nil => cases h
  | cons d l ih =>
    rw [List.dropWhile_cons] at h
    split at h
    · exact ih h
    · rename_i hh; obtain ⟨rfl, _⟩ := List.cons.inj h; exact Bool.eq_false_iff.2 hh
/-- The list behind a sign, parted behind its digits. -/
theorem parted (R : List UInt8) (h : runN R < R.length) : R = R.take (runN R) ++ R[runN R] :: R.drop (runN R + 1) ∧ (R.take (runN R)).all dgB = true ∧ dgB R[runN R] = false ∧ (R.take (runN R)).length = runN R := by
  have e1 := (run_split R)
  have e2 : R.drop (runN R) = R[runN R] :: R.drop (runN R + 1) := List.drop_eq_getElem_cons h
  refine ⟨?_, by rw [e1.1]; exact run_all R, drop_head (l := R) (B := R.drop (runN R + 1)) (by rw [← e1.2, e2]), by rw [List.length_take]; omega⟩
  rw [← e2, List.take_append_drop]
theorem rest_bad {R : List UInt8} (h : runN R < R.length) (hb : R[runN R] ≠ 46 ∨ runN (R.drop (runN R + 1)) = 0 ∨ 40 < runN (R.drop (runN R + 1)) ∨ runN R + 1 + runN (R.drop (runN R + 1)) < R.length) :
    okD (cutA R) = false ∨ (dotB R = true ∧ okD (cutB R) = false) := by
  obtain ⟨p1, p2, p3, p4⟩ := parted R h
  generalize hA : R.take (runN R) = A at *
  generalize hB : R.drop (runN R + 1) = B at *
  by_cases hc : R[runN R] = 46
  · right
    rw [hc] at p1
    have hl : R.length = runN R + 1 + B.length := by rw [← hB, List.length_drop]; omega
    have e := dot_at (B := B) p2
    rw [← p1] at e
    refine ⟨e.1, ?_⟩
    rw [e.2.2]
    rcases Bool.eq_false_or_eq_true (okD B) with h' | h'
    · have := (ok_iff B).1 h'
      rcases hb with hb | hb | hb | hb
      · exact absurd hc hb
      · omega
      · omega
      · omega
    · exact h'
  · left
    generalize hcc : R[runN R] = c at *
    rw [p1]
    exact dot_other p2 p3 hc
theorem good_end {R : List UInt8} (h : runN R = R.length) : okD (cutA R) = okD R ∧ dotB R = false ∧ cutA R = R ∧ cutB R = [] := by
  obtain ⟨a, b, c⟩ := dot_no (all_of_run R h)
  exact ⟨by rw [b], a, b, c⟩
theorem good_dot {R : List UInt8} (h : runN R < R.length) (hc : R[runN R] = 46) : dotB R = true ∧ cutA R = R.take (runN R) ∧ cutB R = R.drop (runN R + 1) ∧ (R.take (runN R)).length = runN R ∧ (R.take (runN R)).all dgB = true := by
  obtain ⟨p1, p2, p3, p4⟩ := parted R h
  rw [hc] at p1
  have e := dot_at (B := R.drop (runN R + 1)) p2
  rw [← p1] at e
  exact ⟨e.1, e.2.1, e.2.2, p4, p2⟩

/-- The sum that is carried from place to place; the dot is passed by. -/
def accN (f : Nat → Nat) (D a : Nat) : Nat → Nat
  | 0 => 0
  | j + 1 => if a + j = D then accN f D a j else accN f D a j * 10 + f (a + j)
theorem acc_A (f : Nat → Nat) (a k : Nat) (A : List UInt8) (hA : A.length = k) (h : ∀ j (hj : j < A.length), f (a + j) = A[j].toNat - 48) : ∀ j, j ≤ k → accN f (a + k) a j = val (A.take j) := by
  intro j
  induction j with
  | zero => intro _; rfl
  | succ j ih =>
    intro hj
    rw [accN, if_neg (by omega), ih (by omega), val_take_succ A j (by omega), h j (by omega)]
theorem acc_B (f : Nat → Nat) (a k : Nat) (A C : List UInt8) (hA : A.length = k) (h : ∀ j (hj : j < A.length), f (a + j) = A[j].toNat - 48) (hC : ∀ t (ht : t < C.length), f (a + k + 1 + t) = C[t].toNat - 48) : ∀ t, t ≤ C.length → accN f (a + k) a (k + 1 + t) = val (A ++ C.take t) := by
  intro t
  induction t with
  | zero => intro _; rw [Nat.add_zero, accN, if_pos rfl, acc_A f a k A hA h k (Nat.le_refl _), ← hA]; simp
  | succ t ih =>
    intro ht
    rw [show k + 1 + (t + 1) = (k + 1 + t) + 1 by omega, accN, if_neg (by omega), ih (by omega), List.take_succ_eq_append_getElem (by omega), ← List.append_assoc, val_snoc, show a + (k + 1 + t) = a + k + 1 + t by omega, hC t (by omega)]
theorem zs_get (n i : Nat) (h : i < (zs n).length) : (zs n)[i] = 48 := List.getElem_replicate _
theorem four_get (B : List UInt8) (t : Nat) (h : t < (four B).length) : (four B)[t].toNat - 48 = if t < B.length then (B.getD t 0).toNat - 48 else 0 := by
  have h4 : t < 4 := by rw [four_len] at h; exact h
  simp only [four, List.getElem_take, List.getElem_append]
  by_cases hb : t < B.length
  · rw [dif_pos hb, if_pos hb, List.getD_eq_getElem?_getD, List.getElem?_eq_getElem hb]; rfl
  · rw [dif_neg hb, if_neg hb, zs_get]; rfl
theorem fifth_get (B : List UInt8) : rndN B = if 4 < B.length ∧ 53 ≤ (B.getD 4 0).toNat then 1 else 0 := by
  unfold rndN fifth
  rw [List.getD_eq_getElem?_getD, List.getElem?_append]
  by_cases hb : 4 < B.length
  · rw [if_pos hb, ← List.getD_eq_getElem?_getD]
    simp [hb]
  · rw [if_neg hb, if_neg (by omega : ¬ (4 < B.length ∧ _)), List.getElem?_eq_getElem (by rw [len_zs]; omega), zs_get]; rfl

theorem getD_drop (l : List UInt8) (a j : Nat) : (l.drop a).getD j 0 = l.getD (a + j) 0 := by
  rw [List.getD_eq_getElem?_getD, List.getElem?_drop, ← List.getD_eq_getElem?_getD]
theorem getD_get (l : List UInt8) (j : Nat) (h : j < l.length) : l.getD j 0 = l[j] := by
  rw [List.getD_eq_getElem?_getD, List.getElem?_eq_getElem h]; rfl
/-- The digit at a place, nought from L on. -/
def fd (l : List UInt8) (L i : Nat) : Nat := if i < L then (l.getD i 0).toNat - 48 else 0
/-- What is read of a list that is a numeral behind its sign: no dot. -/
theorem good1 (l : List UInt8) (a k : Nat) (ha : a ≤ l.length) (hk : runN (l.drop a) = k) (h : a + k = l.length) :
    nv (cutA (l.drop a)) (cutB (l.drop a)) = accN (fd l (a + k)) (a + k) a (k + 5) ∧ rndN (cutB (l.drop a)) = 0 := by
  have hl : (l.drop a).length = k := by rw [List.length_drop]; omega
  obtain ⟨_, _, c3, c4⟩ := good_end (R := l.drop a) (by rw [hk, hl])
  rw [c3, c4]
  refine ⟨?_, rfl⟩
  have hd : ∀ j (hj : j < (l.drop a).length), fd l (a + k) (a + j) = (l.drop a)[j].toNat - 48 := by
    intro j hj; unfold fd; rw [if_pos (by omega), ← getD_drop, getD_get _ _ hj]
  have hC : ∀ t (ht : t < (four []).length), fd l (a + k) (a + k + 1 + t) = (four [])[t].toNat - 48 := by
    intro t ht; rw [four_get]; unfold fd; rw [if_neg (by omega)]; rfl
  have := acc_B (fd l (a + k)) a k (l.drop a) (four []) hl hd hC 4 (by rw [four_len]; omega)
  rw [show k + 5 = k + 1 + 4 by omega, this, List.take_of_length_le (by rw [four_len]; omega)]
  rfl
/-- .. and with one. -/
theorem good2 (l : List UInt8) (a k : Nat) (ha : a ≤ l.length) (hk : runN (l.drop a) = k) (h : a + k < l.length) (hc : l[a + k] = 46) :
    nv (cutA (l.drop a)) (cutB (l.drop a)) = accN (fd l l.length) (a + k) a (k + 5) + (if a + k + 5 < l.length ∧ 53 ≤ (l.getD (a + k + 5) 0).toNat then 1 else 0) ∧ cutB (l.drop a) = l.drop (a + k + 1) ∧ cutA (l.drop a) = (l.drop a).take k := by
  have hl : (l.drop a).length = l.length - a := List.length_drop
  obtain ⟨_, c2, c3, c4, _⟩ := good_dot (R := l.drop a) (by rw [hk, hl]; omega) (by
    simp only [hk]; rw [List.getElem_drop]; exact hc)
  rw [hk] at c2 c3 c4
  rw [List.drop_drop, show a + (k + 1) = a + k + 1 by omega] at c3
  rw [c2, c3]
  refine ⟨?_, rfl, rfl⟩
  have hd : ∀ j (hj : j < ((l.drop a).take k).length), fd l l.length (a + j) = ((l.drop a).take k)[j].toNat - 48 := by
    intro j hj; rw [c4] at hj; unfold fd; rw [if_pos (by omega), ← getD_drop, getD_get _ _ (by omega), List.getElem_take]
  have hC : ∀ t (ht : t < (four (l.drop (a + k + 1))).length), fd l l.length (a + k + 1 + t) = (four (l.drop (a + k + 1)))[t].toNat - 48 := by
    intro t ht; rw [four_get]; unfold fd
    rw [getD_drop, List.length_drop]
    by_cases hb : a + k + 1 + t < l.length
    · rw [if_pos hb, if_pos (by omega)]
    · rw [if_neg hb, if_neg (by omega)]
  have := acc_B (fd l l.length) a k ((l.drop a).take k) (four (l.drop (a + k + 1))) c4 hd hC 4 (by rw [four_len]; omega)
  rw [List.take_of_length_le (l := four (l.drop (a + k + 1))) (by rw [four_len]; omega)] at this
  unfold nv
  rw [show k + 5 = k + 1 + 4 by omega, this, fifth_get, getD_drop, List.length_drop, show a + k + 1 + 4 = a + k + 5 by omega]
  by_cases hb : a + k + 5 < l.length
  · simp only [hb, true_and, show 4 < l.length - (a + k + 1) by omega]
  · rw [if_neg (by omega), if_neg (by omega)]
end Go.Proofs.YtfppjnigbodphaaDoor

/-
  References as the document reads them, and that the code's reading is the same. Plain mathematics: no program in sight.
-/
import Derived.Test.YtdklhgfkaablbaaDoorCooF
namespace Go.Proofs.YtdklhgfkaablbaaDoor
open Go.RowKit

theorem tw_of {p : UInt8 → Bool} {l A B : List UInt8} (e : A ++ B = l) (hA : A.all p = true) (hB : ∀ c, B.head? = some c → p c = false) : l.takeWhile p = A ∧ l.dropWhile p = B := by
  subst e
  induction A with
  | nil =>
    cases B with
    | nil => exact ⟨rfl, rfl⟩
    | cons c B =>
      have := hB c rfl
      constructor
      · show (c :: B).takeWhile p = []; rw [List.takeWhile_cons, this]; rfl
      · show (c :: B).dropWhile p = c :: B; rw [List.dropWhile_cons, this]; rfl
  | cons a A ih =>
    rw [List.all_cons, Bool.and_eq_true] at hA
    obtain ⟨i1, i2⟩ := ih hA.2
    constructor
    · show (a :: (A ++ B)).takeWhile p = a :: A; rw [List.takeWhile_cons, hA.1, i1]; rfl
    · show (a :: (A ++ B)).dropWhile p = B; rw [List.dropWhile_cons, hA.1, if_pos rfl, i2]
theorem dw_head {p : UInt8 → Bool} (l : List UInt8) (c : UInt8) (h : (l.dropWhile p).head? = some c) : p c = false := by
  have := List.head?_dropWhile_not p l
  rw [h] at this
  simpa using this
/-- The letters; what follows; its digits. -/
def nmR (l : List UInt8) : List UInt8 := (undl l).takeWhile ltB
def rsR (l : List UInt8) : List UInt8 := (undl l).dropWhile ltB
def dgR (l : List UInt8) : List UInt8 := undl (rsR l)
def okR (l : List UInt8) : Bool := rowOk (dgR l) && inB (val (dgR l)) (colN (nmR l))
theorem lt_sgn {c : UInt8} (h : ltB c = true) : sgns.contains c = false := by
  rw [sgn_eq]
  unfold ltB at h; simp at h
  have : (c == 36) = false := beq_eq_false_iff_ne.2 fun e => by
    rw [e] at h; have : (36 : UInt8).toNat = 36 := rfl; omega
  rw [this]; unfold dgB; simp; omega
theorem sgn_lt {c : UInt8} (h : sgns.contains c = true) : ltB c = false := by
  cases g : ltB c with
  | false => rfl
  | true => rw [lt_sgn g] at h; cases h
theorem par_one (l : List UInt8) (h : okP l = true) : nmR l = nmL l ∧ rsR l = rsL l ∧ okR l = true ∧ rowP l = val (dgR l) := by
  have hin := h
  unfold okP inB at hin
  simp at hin
  have hc : colN (nmL l) ≠ 0 := by unfold colP at hin; omega
  have hA := colN_letters _ hc
  have e : nmL l ++ rsL l = undl l := List.takeWhile_append_dropWhile
  have hB : ∀ c, (rsL l).head? = some c → ltB c = false := fun c hc => by
    have := dw_head (p := fun c => !sgns.contains c) (undl l) c hc
    exact sgn_lt (by simpa using this)
  obtain ⟨t1, t2⟩ := tw_of e hA hB
  have n1 : nmR l = nmL l := t1
  have n2 : rsR l = rsL l := t2
  obtain ⟨o1, o2⟩ := row_in (undl (rsL l)) (by unfold rowP at hin; omega) (by unfold rowP at hin; omega)
  have n3 : dgR l = undl (rsL l) := by unfold dgR; rw [n2]
  refine ⟨n1, n2, ?_, ?_⟩
  · unfold okR
    rw [n3, n1, o1, o2]
    exact h
  · rw [n3, o2]; rfl
theorem par_two (l : List UInt8) (h : okR l = true) : okP l = true := by
  unfold okR at h
  rw [Bool.and_eq_true] at h
  obtain ⟨h1, h2⟩ := h
  have hin := h2
  unfold inB at hin
  simp at hin
  have hA : (nmR l).all (fun c => !sgns.contains c) = true := by
    rw [List.all_eq_true]
    intro c hc
    have := List.all_eq_true.1 (List.all_takeWhile (p := ltB) (l := undl l)) c hc
    rw [lt_sgn this]; rfl
  have e : nmR l ++ rsR l = undl l := List.takeWhile_append_dropWhile
  have hne : dgR l ≠ [] := by
    intro k; rw [k] at hin
    have : val ([] : List UInt8) = 0 := rfl
    omega
  have hB : ∀ c, (rsR l).head? = some c → (!sgns.contains c) = false := by
    intro c hc
    rw [sgn_eq]
    by_cases g : c = 36
    · subst g; rfl
    · have hd : dlB (rsR l) = false := by unfold dlB; rw [hc]; simpa using g
      have e2 : dgR l = rsR l := by unfold dgR undl; rw [hd]; rfl
      unfold rowOk at h1
      rw [Bool.and_eq_true, Bool.and_eq_true, e2] at h1
      have := List.all_eq_true.1 h1.1.1 c (List.mem_of_mem_head? (by rw [hc]; rfl))
      rw [this]; simp
  obtain ⟨t1, t2⟩ := tw_of e hA hB
  have n1 : nmL l = nmR l := t1
  have n2 : rsL l = rsR l := t2
  have hr := row_ok (dgR l) h1 hne
  unfold okP rowP colP
  rw [n1, n2]
  show inB (rowC (dgR l)) _ = true
  rw [hr]; exact h2
theorem ok_eq (l : List UInt8) : okP l = okR l := by
  cases h : okR l with
  | true => exact par_two l h
  | false =>
    cases g : okP l with
    | false => rfl
    | true => rw [(par_one l g).2.2.1] at h; cases h
/-- The document's answer. -/
theorem prV_R (l : List UInt8) : prV l = if okR l then refD (val (dgR l)) (colN (nmR l)) (dlB (rsR l)) (dlB l) else refD 0 0 false false := by
  unfold prV
  rw [← ok_eq]
  cases g : okP l with
  | false => rfl
  | true =>
    obtain ⟨n1, n2, _, n4⟩ := par_one l g
    rw [if_pos rfl, if_pos rfl, n4, n1, n2]; rfl
end Go.Proofs.YtdklhgfkaablbaaDoor

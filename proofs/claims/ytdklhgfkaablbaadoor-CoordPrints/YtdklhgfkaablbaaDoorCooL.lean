/-
  There and back: a reference that is written is read as it was. Plain mathematics.
-/
import Derived.Test.YtdklhgfkaablbaaDoorCooK
namespace Go.Proofs.YtdklhgfkaablbaaDoor
open Go.RowKit

theorem name_let (c : Int) (h1 : 1 ≤ c) (h2 : c ≤ 52) : (nameL c).all ltB = true ∧ ∃ a t, nameL c = a :: t := by
  have all : ∀ c : Fin 53, 1 ≤ c.val → (nameL c.val).all ltB = true ∧ (nameL c.val) ≠ [] := by decide +kernel
  obtain ⟨g1, g2⟩ := all ⟨c.toNat, by omega⟩ (by show 1 ≤ c.toNat; omega)
  rw [show ((⟨c.toNat, by omega⟩ : Fin 53).val : Int) = c from by show ((c.toNat : Nat) : Int) = c; omega] at g1 g2
  exact ⟨g1, List.exists_cons_of_ne_nil g2⟩
theorem sign_read (b : Bool) (l : List UInt8) (h : dlB l = false) : dlB (signL b ++ l) = b ∧ undl (signL b ++ l) = l := by
  cases b with
  | true => exact ⟨rfl, rfl⟩
  | false =>
    have e : signL false ++ l = l := rfl
    rw [e]
    exact ⟨h, by unfold undl; rw [h]; rfl⟩
theorem dl_no {c : UInt8} {l : List UInt8} (h : c ≠ 36) : dlB (c :: l) = false := by unfold dlB; simpa using h
theorem print_read (r c : Int) (ar ac : Bool) (hin : inB r c = true) : okP (printR r c ar ac) = true ∧ prV (printR r c ar ac) = refD r c ar ac := by
  obtain ⟨r1, r2, c1, c2⟩ := in_bd hin
  obtain ⟨n, hn⟩ : ∃ n : Nat, r = n := ⟨r.toNat, by omega⟩
  obtain ⟨k, hk⟩ : ∃ k : Nat, c = k := ⟨c.toNat, by omega⟩
  obtain ⟨hl, a, t, ht⟩ := name_let c c1 c2
  have hd : Lib.itoa r = Lib.decDigits n := by rw [hn, itoa_nat]
  obtain ⟨x, y, hx, hx48⟩ := dec_head n (by omega)
  have hxd : dgB x = true := by
    have := dec_all n; rw [hx, List.all_cons, Bool.and_eq_true] at this; exact this.1
  have hx36 : x ≠ 36 := fun e => by rw [e] at hxd; exact absurd hxd (by decide)
  have ha : ltB a = true := by rw [ht, List.all_cons, Bool.and_eq_true] at hl; exact hl.1
  have ha36 : a ≠ 36 := fun e => by rw [e] at ha; exact absurd ha (by decide)
  have e0 : printR r c ar ac = signL ac ++ (nameL c ++ (signL ar ++ Lib.itoa r)) := by
    unfold printR; rw [if_pos hin, List.append_assoc, List.append_assoc]
  obtain ⟨p1, p2⟩ := sign_read ac (nameL c ++ (signL ar ++ Lib.itoa r)) (by rw [ht]; exact dl_no ha36)
  rw [← e0] at p1 p2
  obtain ⟨q1, q2⟩ := sign_read ar (Lib.itoa r) (by rw [hd, hx]; exact dl_no hx36)
  have hA : (nameL c).all (fun c => !sgns.contains c) = true := by
    rw [List.all_eq_true]
    intro z hz
    rw [lt_sgn (List.all_eq_true.1 hl z hz)]; rfl
  have hB : ∀ z, (signL ar ++ Lib.itoa r).head? = some z → (!sgns.contains z) = false := by
    intro z hz
    rw [sgn_eq]
    cases ar with
    | true =>
      have : (36 : UInt8) = z := Option.some.inj hz
      rw [← this]; rfl
    | false =>
      have e : signL false ++ Lib.itoa r = Lib.itoa r := rfl
      rw [e, hd, hx] at hz
      have : x = z := Option.some.inj hz
      rw [← this, hxd]; simp
  obtain ⟨t1, t2⟩ := tw_of (rfl : nameL c ++ (signL ar ++ Lib.itoa r) = _) hA hB
  rw [← p2] at t1 t2
  have n1 : nmL (printR r c ar ac) = nameL c := t1
  have n2 : rsL (printR r c ar ac) = signL ar ++ Lib.itoa r := t2
  have hro : rowP (printR r c ar ac) = r := by
    unfold rowP
    rw [n2, q2, hd]
    unfold rowC
    rw [rd_dec n (by omega), Int.mul_tdiv_cancel _ (by decide), itoa_nat, if_pos rfl, hn]
  have hco : colP (printR r c ar ac) = c := by
    unfold colP
    rw [n1, hk, colN_name k (by omega) (by omega)]
  have hok : okP (printR r c ar ac) = true := by unfold okP; rw [hro, hco]; exact hin
  refine ⟨hok, ?_⟩
  unfold prV
  rw [hok, if_pos rfl, hro, hco, n2, q1, p1]
theorem print_none (r c : Int) (ar ac : Bool) (hin : inB r c = false) : okP (printR r c ar ac) = false ∧ prV (printR r c ar ac) = refD 0 0 false false := by
  have e : printR r c ar ac = [] := by unfold printR; rw [hin]; rfl
  rw [e, prV_R, ok_eq]
  exact ⟨rfl, rfl⟩
theorem print_len (r c : Int) (ar ac : Bool) : (printR r c ar ac).length ≤ 8 := by
  cases hin : inB r c with
  | false => unfold printR; rw [hin]; simp
  | true =>
    obtain ⟨r1, r2, c1, c2⟩ := in_bd hin
    have s1 : ∀ b, (signL b).length ≤ 1 := fun b => by cases b <;> decide
    have h1 := s1 ar
    have h2 := s1 ac
    have h3 := name_len c
    have h4 := row_sz r r1 r2
    rw [← size_list] at h4
    unfold printR
    rw [hin, if_pos rfl]
    simp only [List.length_append]
    have h5 : (Lib.itoa r).length ≤ 4 := h4
    omega
end Go.Proofs.YtdklhgfkaablbaaDoor

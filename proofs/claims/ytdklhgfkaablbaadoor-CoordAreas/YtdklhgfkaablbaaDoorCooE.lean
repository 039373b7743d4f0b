/-
  References as texts, plain data; the contracts of package coord's rowNumber, sign and Parse.
-/
import Derived.Test.YtdklhgfkaablbaaDoorCooM
import Derived.Test.YtdklhgfkaablbaaDoorCooB
import Derived.Test.YtdklhgfkaablbaaDoorCooD
import Derived.Test.YtdklhgfkaablbaaDoorBlk4
namespace Go.Proofs.YtdklhgfkaablbaaDoor
open Go.RowKit
set_option maxHeartbeats 1000000

/-- A $ ahead; what stands behind it. -/
def dlB (l : List UInt8) : Bool := l.head? == some 36
def undl (l : List UInt8) : List UInt8 := if dlB l then l.tail else l
/-- A name, up to the first $ or digit; what follows. -/
def nmL (l : List UInt8) : List UInt8 := (undl l).takeWhile (fun c => !sgns.contains c)
def rsL (l : List UInt8) : List UInt8 := (undl l).dropWhile (fun c => !sgns.contains c)
/-- The place that a text names, as the code reads it. -/
def rowP (l : List UInt8) : Int := rowC (undl (rsL l))
def colP (l : List UInt8) : Int := colN (nmL l)
def okP (l : List UInt8) : Bool := inB (rowP l) (colP l)
/-- A reference as a struct. -/
def refD (r c : Int) (ar ac : Bool) : Value := .agg #[.int .i64 r, .int .i64 c, .bool ar, .bool ac]
def prV (l : List UInt8) : Value := if okP l then refD (rowP l) (colP l) (dlB (rsL l)) (dlB l) else refD 0 0 false false

theorem pre_dollar (l : List UInt8) : Lib.hasPrefix l [36] = dlB l ∧ Lib.trimPrefix l [36] = undl l := by
  cases l with
  | nil => exact ⟨rfl, rfl⟩
  | cons c l =>
    unfold undl dlB Lib.trimPrefix Lib.hasPrefix
    by_cases h : c = 36
    · subst h; exact ⟨rfl, rfl⟩
    · have h' : (36 == c) = false := beq_eq_false_iff_ne.2 fun e => h e.symm
      have h2 : (c == 36) = false := beq_eq_false_iff_ne.2 h
      simp [List.isPrefixOf, h', h]
theorem rd_bd (l : List UInt8) : -9223372036854775807 ≤ rdV l ∧ rdV l ≤ 9223372036854775807 := by
  unfold rdV
  split
  · rename_i h
    simp at h
    split <;> omega
  · omega
theorem tdiv_bd (a : Int) (h : -9223372036854775807 ≤ a ∧ a ≤ 9223372036854775807) : -922337203685477 ≤ Int.tdiv a 10000 ∧ Int.tdiv a 10000 ≤ 922337203685477 := by
  obtain ⟨h1, h2⟩ := h
  by_cases h0 : 0 ≤ a
  · rw [Int.tdiv_eq_ediv_of_nonneg h0]; omega
  · have e := Int.neg_tdiv (-a) 10000
    rw [Int.neg_neg] at e
    rw [e, Int.tdiv_eq_ediv_of_nonneg (by omega)]; omega
theorem rownumber_any (s : ByteArray) (w : World) (hs : s.size ≤ maxLen) (hT : Tab w) :
    Calls Tryd.prog 30 #[.string s] w fun e w' => e = .returned (.int .i64 (rowC s.data.toList)) ∧ Ext w w' := by
  have c1 := fun W => parse_any s W hs
  have hb := rd_bd s.data.toList
  have hq := tdiv_bd _ hb
  obtain ⟨b1, b2⟩ := hb
  obtain ⟨q1, q2⟩ := hq
  have c2 := fun W h => digitsc_any (Int.tdiv (rdV s.data.toList) 10000) ⟨by omega, by omega⟩ W h
  have HR0 : Hid (rowC s.data.toList = if Lib.itoa (Int.tdiv (rdV s.data.toList) 10000) = s.data.toList then Int.tdiv (rdV s.data.toList) 10000 else 0) := rfl
  have hE : ((⟨(Lib.itoa (Int.tdiv (rdV s.data.toList) 10000)).toArray⟩ : ByteArray).toList == s.toList) = decide (Lib.itoa (Int.tdiv (rdV s.data.toList) 10000) = s.data.toList) := by
    rw [ByteArray.toList_eq, ByteArray.toList_eq, Bool.eq_iff_iff, beq_iff_eq, decide_eq_true_eq]
  generalize (⟨(Lib.itoa (Int.tdiv (rdV s.data.toList) 10000)).toArray⟩ : ByteArray) = q at c2 hE
  by_cases h : Lib.itoa (Int.tdiv (rdV s.data.toList) 10000) = s.data.toList
  · rw [show decide (Lib.itoa (Int.tdiv (rdV s.data.toList) 10000) = s.data.toList) = true from by simpa using h] at hE
    have HR : Hid (rowC s.data.toList = Int.tdiv (rdV s.data.toList) 10000) := by show _ = _; rw [HR0.out, if_pos h]
    clear h HR0
    generalize rdV s.data.toList = x at *
    generalize rdK s.data.toList = y at *
    go_enter Tryd.func30, Tryd.ntmps30
    go_wp2_with fail
    refine (c1 _).mono ?_
    rintro e w1 ⟨rfl, E1⟩
    go_wp2_with fail
    refine (c2 _ (hT.ext E1)).mono ?_
    rintro e w2 ⟨rfl, E2⟩
    go_wp2_with fail
    go_ret
    exact ⟨ret_int HR.out.symm, E1.trans E2⟩
  · rw [show decide (Lib.itoa (Int.tdiv (rdV s.data.toList) 10000) = s.data.toList) = false from by simpa using h] at hE
    have HR : Hid (rowC s.data.toList = 0) := by show _ = _; rw [HR0.out, if_neg h]
    clear h HR0
    generalize rdV s.data.toList = x at *
    generalize rdK s.data.toList = y at *
    go_enter Tryd.func30, Tryd.ntmps30
    go_wp2_with fail
    refine (c1 _).mono ?_
    rintro e w1 ⟨rfl, E1⟩
    go_wp2_with fail
    refine (c2 _ (hT.ext E1)).mono ?_
    rintro e w2 ⟨rfl, E2⟩
    go_wp2_with fail
    go_ret
    exact ⟨ret_int HR.out.symm, E1.trans E2⟩

def signL (b : Bool) : List UInt8 := if b then [36] else []
theorem sign_any (b : Bool) (w : World) : Calls Tryd.prog 31 #[.bool b] w fun e w' => e = .returned (.string ⟨(signL b).toArray⟩) ∧ w' = w := by
  cases b <;>
  · go_enter Tryd.func31, Tryd.ntmps31
    go_wp2_with fail
    go_ret
    exact ⟨rfl, rfl⟩

/-- Where the first sign stands. -/
theorem idx_none (l : List UInt8) (h : l.dropWhile (fun c => !sgns.contains c) = []) : Lib.indexAny l sgns = -1 ∧ l.takeWhile (fun c => !sgns.contains c) = l := by
  have e := List.takeWhile_append_dropWhile (p := fun c => !sgns.contains c) (l := l)
  rw [h, List.append_nil] at e
  refine ⟨Lib.indexAny_none ?_, e⟩
  intro j b _ hb
  have := List.mem_of_getElem? hb
  rw [← e] at this
  have := List.all_eq_true.1 (List.all_takeWhile (p := fun c => !sgns.contains c) (l := l)) _ this
  simpa using this
theorem idx_some (l : List UInt8) (h : l.dropWhile (fun c => !sgns.contains c) ≠ []) : Lib.indexAny l sgns = ((l.takeWhile (fun c => !sgns.contains c)).length : Int) := by
  have e := List.takeWhile_append_dropWhile (p := fun c => !sgns.contains c) (l := l)
  obtain ⟨x, t, hx⟩ : ∃ x t, l.dropWhile (fun c => !sgns.contains c) = x :: t := List.exists_cons_of_ne_nil h
  have hxx : sgns.contains x = true := by
    have := List.head?_dropWhile_not (fun c => !sgns.contains c) l
    rw [hx] at this
    simpa using this
  refine Lib.indexAny_hit ?_ (x := x) ?_ hxx
  · intro j b hj hb
    rw [← e, List.getElem?_append_left hj] at hb
    have := List.all_eq_true.1 (List.all_takeWhile (p := fun c => !sgns.contains c) (l := l)) _ (List.mem_of_getElem? hb)
    simpa using this
  · have : l[(l.takeWhile (fun c => !sgns.contains c)).length]? = (l.takeWhile (fun c => !sgns.contains c) ++ l.dropWhile (fun c => !sgns.contains c))[(l.takeWhile (fun c => !sgns.contains c)).length]? := by rw [e]
    rw [this, List.getElem?_append_right (Nat.le_refl _), Nat.sub_self, hx]; rfl
end Go.Proofs.YtdklhgfkaablbaaDoor

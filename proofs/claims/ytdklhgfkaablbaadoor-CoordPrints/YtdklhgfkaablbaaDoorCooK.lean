/-
  There and back: a reference that was read is written as it was, one that is written is read as it was. Plain mathematics.
-/
import Derived.Test.YtdklhgfkaablbaaDoorCooJ
namespace Go.Proofs.YtdklhgfkaablbaaDoor
open Go.RowKit

theorem sign_undl (l : List UInt8) : signL (dlB l) ++ undl l = l := by
  cases l with
  | nil => rfl
  | cons c l =>
    unfold undl
    cases h : dlB (c :: l) with
    | false => rfl
    | true =>
      unfold dlB at h
      simp at h
      subst h; rfl
theorem print_list (l : List UInt8) (ho : okP l = true) : printR (rowP l) (colP l) (dlB (rsL l)) (dlB l) = l := by
  have hin := in_bd ho
  have e1 : nameL (colP l) = nmL l := name_colN (nmL l) (by unfold colP at hin; omega)
  have e2 : Lib.itoa (rowP l) = undl (rsL l) := by
    unfold rowP rowC at hin ⊢
    split
    · rename_i h; exact h
    · rename_i h; rw [if_neg h] at hin; omega
  unfold printR
  rw [show inB (rowP l) (colP l) = true from ho, if_pos rfl, e1, e2, List.append_assoc, sign_undl, List.append_assoc, show nmL l ++ rsL l = undl l from List.takeWhile_append_dropWhile, sign_undl]
theorem print_back (s : ByteArray) (ho : okP s.data.toList = true) : (⟨(printR (rowP s.data.toList) (colP s.data.toList) (dlB (rsL s.data.toList)) (dlB s.data.toList)).toArray⟩ : ByteArray) = s := by
  rw [print_list _ ho, Lib.mk_data]
end Go.Proofs.YtdklhgfkaablbaaDoor

/-
  The contracts of package value's truth and named.
-/
import Derived.Test.YtdmiddpfgmbbhaaGreatDoorValG
namespace Go.Proofs.YtdmiddpfgmbbhaaGreatDoor
open Go.RowKit
set_option maxHeartbeats 1000000

/-- The truth of a name. -/
def truR (s : ByteArray) : V := if s.data.toList = trueL then .tf true else if s.data.toList = falseL then .tf false else .blank
def truK (s : ByteArray) : Bool := decide (s.data.toList = trueL) || decide (s.data.toList = falseL)
theorem idx_0 (W : World) : (Instr.index 57 (.agg #[.string ⟨#[]⟩, .string ⟨#[35, 82, 69, 70, 33]⟩, .string ⟨#[35, 86, 65, 76, 85, 69, 33]⟩, .string ⟨#[35, 68, 73, 86, 47, 48, 33]⟩, .string ⟨#[35, 78, 85, 77, 33]⟩, .string ⟨#[35, 67, 89, 67, 76, 69, 33]⟩]) (.int .i64 0)).run Tryz.prog W = .ok (.string ⟨#[]⟩) W := by kernel_rfl
theorem idx_1 (W : World) : (Instr.index 57 (.agg #[.string ⟨#[]⟩, .string ⟨#[35, 82, 69, 70, 33]⟩, .string ⟨#[35, 86, 65, 76, 85, 69, 33]⟩, .string ⟨#[35, 68, 73, 86, 47, 48, 33]⟩, .string ⟨#[35, 78, 85, 77, 33]⟩, .string ⟨#[35, 67, 89, 67, 76, 69, 33]⟩]) (.int .i64 1)).run Tryz.prog W = .ok (.string ⟨#[35, 82, 69, 70, 33]⟩) W := by kernel_rfl
theorem idx_2 (W : World) : (Instr.index 57 (.agg #[.string ⟨#[]⟩, .string ⟨#[35, 82, 69, 70, 33]⟩, .string ⟨#[35, 86, 65, 76, 85, 69, 33]⟩, .string ⟨#[35, 68, 73, 86, 47, 48, 33]⟩, .string ⟨#[35, 78, 85, 77, 33]⟩, .string ⟨#[35, 67, 89, 67, 76, 69, 33]⟩]) (.int .i64 2)).run Tryz.prog W = .ok (.string ⟨#[35, 86, 65, 76, 85, 69, 33]⟩) W := by kernel_rfl
theorem idx_3 (W : World) : (Instr.index 57 (.agg #[.string ⟨#[]⟩, .string ⟨#[35, 82, 69, 70, 33]⟩, .string ⟨#[35, 86, 65, 76, 85, 69, 33]⟩, .string ⟨#[35, 68, 73, 86, 47, 48, 33]⟩, .string ⟨#[35, 78, 85, 77, 33]⟩, .string ⟨#[35, 67, 89, 67, 76, 69, 33]⟩]) (.int .i64 3)).run Tryz.prog W = .ok (.string ⟨#[35, 68, 73, 86, 47, 48, 33]⟩) W := by kernel_rfl
theorem idx_4 (W : World) : (Instr.index 57 (.agg #[.string ⟨#[]⟩, .string ⟨#[35, 82, 69, 70, 33]⟩, .string ⟨#[35, 86, 65, 76, 85, 69, 33]⟩, .string ⟨#[35, 68, 73, 86, 47, 48, 33]⟩, .string ⟨#[35, 78, 85, 77, 33]⟩, .string ⟨#[35, 67, 89, 67, 76, 69, 33]⟩]) (.int .i64 4)).run Tryz.prog W = .ok (.string ⟨#[35, 78, 85, 77, 33]⟩) W := by kernel_rfl
theorem idx_5 (W : World) : (Instr.index 57 (.agg #[.string ⟨#[]⟩, .string ⟨#[35, 82, 69, 70, 33]⟩, .string ⟨#[35, 86, 65, 76, 85, 69, 33]⟩, .string ⟨#[35, 68, 73, 86, 47, 48, 33]⟩, .string ⟨#[35, 78, 85, 77, 33]⟩, .string ⟨#[35, 67, 89, 67, 76, 69, 33]⟩]) (.int .i64 5)).run Tryz.prog W = .ok (.string ⟨#[35, 67, 89, 67, 76, 69, 33]⟩) W := by kernel_rfl
def nmdR (s : ByteArray) : V := if nameE s.data.toList ≠ 0 then .err (nameE s.data.toList) else .blank
def nmdK (s : ByteArray) : Bool := nameE s.data.toList != 0
end Go.Proofs.YtdmiddpfgmbbhaaGreatDoor

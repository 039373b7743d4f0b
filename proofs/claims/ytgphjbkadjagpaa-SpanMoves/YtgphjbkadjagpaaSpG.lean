/-
  slices.Concat of two lists of spans; package span's Union.
-/
import Derived.Test.YtgphjbkadjagpaaSpF
namespace Go.Proofs.Ytgphjbkadjagpaa
open Go.RowKit
set_option maxHeartbeats 1000000

theorem Rd.cell {w : World} {v : Value} {l : List Sp} (h : Rd w v l) : ∃ p c, v = .slice p l.length c := h.form

theorem rd_two_cells (W : World) (va vb : Value) : (W.alloc (.cells #[va, vb] 22)).cell? ⟨W.heap.size, 0, none⟩ = some va ∧ (W.alloc (.cells #[va, vb] 22)).cell? ⟨W.heap.size, 1, none⟩ = some vb := by
  constructor <;> simp [go_sem]
theorem AllI.append {a b : List Sp} (ha : AllI a) (hb : AllI b) : AllI (a ++ b) := by
  intro s hs
  rcases List.mem_append.mp hs with h | h
  · exact ha s h
  · exact hb s h

end Go.Proofs.Ytgphjbkadjagpaa

/-
  Small words that the laws of layer 5 share.
-/
import Derived.Test.YtgphjbkadjagpaaSpQ
namespace Go.Proofs.Ytgphjbkadjagpaa
theorem AllI.take {l : List Sp} (h : AllI l) : AllI (l.take 60) := fun s hs => h s (List.mem_of_mem_take hs)
theorem len60 (l : List Sp) : (l.take 60).length ≤ 60 := by rw [List.length_take]; omega
end Go.Proofs.Ytgphjbkadjagpaa

/-
  The contract of package lex's Words.
-/
import Derived.Test.YtfppjnigbodphaaDoorLexR
import Derived.BigQuiet
namespace Go.Proofs.YtfppjnigbodphaaDoor
open Go.RowKit
set_option maxHeartbeats 1000000

/-- What Words answers of a text. -/
def WordsQ (w : World) (l : List UInt8) (e : Ending) (w' : World) : Prop :=
  ∃ v, e = .returned (.tuple #[v, .int .i64 (lexR l).2.1, .int .i64 (lexR l).2.2]) ∧ RdT w' v (lexR l).1 ∧ Ext w w'
theorem words_any (s : ByteArray) (w : World) (hs : s.size ≤ maxLen) (hT : Tab7 w) :
    Calls Tryd.prog 7 #[.string s] w (WordsQ w s.data.toList) := by
  unfold maxLen at hs
  have hl := size_list s
  by_cases h : 300 < s.size
  · have hI : (300 : Int) < (s.size : Int) := by omega
    have HX : Hid (lexR s.data.toList = ([], 0, 2)) := by show _ = _; unfold lexR; rw [if_pos (by omega)]
    go_enter Tryd.func7, Tryd.ntmps7
    go_wp2_with fail
    go_ret3
    unfold WordsQ
    rw [HX.out]
    exact ⟨_, rfl, RdT.nil _, Ext.refl _⟩
  · have hI : ¬ (300 : Int) < (s.size : Int) := by omega
    have c1 := read_any s w (by omega) hT
    cases hw : W 0 s.data.toList with
    | ok ts =>
      have HX : Hid (lexR s.data.toList = (ts, 0, 0)) := by show _ = _; unfold lexR; rw [if_neg (by omega), hw]
      have C : Calls Tryd.prog 11 #[.string s] w fun e w' => ∃ v, e = .returned (.tuple #[v, .agg #[.int .i64 0, .int .i64 0]]) ∧ RdT w' v ts ∧ Ext w w' := by unfold ReadQ at c1; rw [hw] at c1; exact c1
      clear c1 hw hT
      go_enter Tryd.func7, Tryd.ntmps7
      go_wp2_with fail
      refine C.mono ?_
      rintro e w1 ⟨v, rfl, hR, hE⟩
      have HR : Hid (RdT w1 v ts ∧ Ext w w1) := ⟨hR, hE⟩
      clear hR hE
      go_wp2_with fail
      have b0 : (w1.alloc (.cells #[.int .i64 0, .int .i64 0] 34)).cell? ⟨w1.heap.size, 0, none⟩ = some (.int .i64 0) := by simp [go_sem]
      have b1 : (w1.alloc (.cells #[.int .i64 0, .int .i64 0] 34)).cell? ⟨w1.heap.size, 1, none⟩ = some (.int .i64 0) := by simp [go_sem]
      have HW : Hid (Ext w1 (w1.alloc (.cells #[.int .i64 0, .int .i64 0] 34))) := (Ext.refl _).alloc _
      generalize w1.alloc (.cells #[.int .i64 0, .int .i64 0] 34) = w2 at *
      go_quiet (fail)
      go_wp2_with fail
      go_ret3
      unfold WordsQ
      rw [HX.out]
      exact ⟨_, rfl, HR.out.1.ext (HW.out.drewN _), HR.out.2.trans (HW.out.drewN _)⟩
    | error x =>
      obtain ⟨x0, x1⟩ := x
      have HX : Hid (lexR s.data.toList = ([], (x0 : Int), x1)) := by show _ = _; unfold lexR; rw [if_neg (by omega), hw]
      have C : Calls Tryd.prog 11 #[.string s] w fun e w' => e = .returned (.tuple #[.slice none 0 0, .agg #[.int .i64 (x0 : Int), .int .i64 x1]]) ∧ Ext w w' := by unfold ReadQ at c1; rw [hw] at c1; exact c1
      clear c1 hw hT
      go_enter Tryd.func7, Tryd.ntmps7
      go_wp2_with fail
      refine C.mono ?_
      rintro e w1 ⟨rfl, hE⟩
      have HR : Hid (Ext w w1) := hE
      clear hE
      go_wp2_with fail
      have b0 : (w1.alloc (.cells #[.int .i64 (x0 : Int), .int .i64 x1] 34)).cell? ⟨w1.heap.size, 0, none⟩ = some (.int .i64 (x0 : Int)) := by simp [go_sem]
      have b1 : (w1.alloc (.cells #[.int .i64 (x0 : Int), .int .i64 x1] 34)).cell? ⟨w1.heap.size, 1, none⟩ = some (.int .i64 x1) := by simp [go_sem]
      have HW : Hid (Ext w1 (w1.alloc (.cells #[.int .i64 (x0 : Int), .int .i64 x1] 34))) := (Ext.refl _).alloc _
      generalize w1.alloc (.cells #[.int .i64 (x0 : Int), .int .i64 x1] 34) = w2 at *
      go_quiet (fail)
      go_wp2_with fail
      go_ret3
      unfold WordsQ
      rw [HX.out]
      exact ⟨_, rfl, RdT.nil _, HR.out.trans (HW.out.drewN _)⟩
end Go.Proofs.YtfppjnigbodphaaDoor

/-
  Contracts of the document's answers: a sum and a number, a sum less a number (128 bits).
-/
import Derived.Test.YtdmiddpfgmbbhaaGreatDoorFixA
namespace Go.Proofs.YtdmiddpfgmbbhaaGreatDoor
open Go.RowKit
set_option maxHeartbeats 400000

theorem rplus_acc (x a : Int) (h3 : I64 a) (w : World) : Calls Tryz.prog 41 #[.agg #[.int .i64 (hiOf x), .int .u64 (loOf x)], .int .i64 a] w fun e w' => e = .returned (.agg #[.int .i64 (hiOf (x + a)), .int .u64 (loOf (x + a))]) ∧ Ext w w' := by
  have p1 := uhi_hiOf x
  have p2 := hiOf_uhi (x + a)
  obtain ⟨a1, a2⟩ := hi_bd x; obtain ⟨b1, b2⟩ := lo_bd x
  go_enter Tryz.func41, Tryz.ntmps41
  go_wp2
  go_region_held3 (fun w' => (Ext w w' ∧ w.heap.size + 1 < w'.heap.size) ∧ w'.cell? ⟨w.heap.size, 0, none⟩ = some (.int .i64 (hiOf x)) ∧ w'.cell? ⟨w.heap.size, 1, none⟩ = some (.int .u64 (loOf x)))
    (first
      | assumption
      | (refine keep2 ?_ ((Ext.refl _).alloc _); assumption)
      | (refine keep2 ?_ ((Ext.refl _).drew); assumption)
      | (refine ⟨⟨((Ext.refl _).alloc _).alloc _ |>.drew, ?_⟩, ?_, ?_⟩ <;> simp [go_sem, World.cell?_alloc_past])
      | (refine ⟨⟨(((Ext.refl _).alloc _).alloc _).alloc _ |>.drew, ?_⟩, ?_, ?_⟩ <;> simp [go_sem, World.cell?_alloc_past])
      | (refine keepS (keepS ?_ ?_ ?_) ?_ ?_; assumption; all_goals (first | omega | (simp; omega))))
    (first
      | (go_at_call 58; refine (word_any a h3 _).mono ?_; rintro e w' ⟨rfl, hE⟩; have hS := keep2 (by assumption) hE; obtain ⟨hc, hf⟩ := hE.cell; have hz := hE.sz; (try simp at hz); (try have hz3 : w.heap.size + 2 < w'.heap.size := by omega); have hz4 : w.heap.size < w'.heap.size := by omega)
      | (go_at_call 59; refine (plusW_w x a _).mono ?_; rintro e w' ⟨rfl, hE⟩; have hS := keep2 (by assumption) hE; obtain ⟨hc, hf⟩ := hE.cell; have hz := hE.sz; (try simp at hz); (try have hz3 : w.heap.size + 2 < w'.heap.size := by omega); have hz4 : w.heap.size < w'.heap.size := by omega))
  go_wp2
  all_goals
    simp [bodyPost, results, Tryz.results41, go_sem, *]
    repeat (first | exact hS.1.1 | apply Ext.alloc | refine Ext.setCell ?_ (by first | (simp; done) | (simp; omega) | (dsimp only; omega)) _)
end Go.Proofs.YtdmiddpfgmbbhaaGreatDoor

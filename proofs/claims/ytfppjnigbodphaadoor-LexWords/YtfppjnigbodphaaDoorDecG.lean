/-
  The contracts of the document's end and times.
-/
import Derived.Test.YtfppjnigbodphaaDoorDecF
import Derived.Test.YtfppjnigbodphaaDoorRSigned
namespace Go.Proofs.YtfppjnigbodphaaDoor
open Go.RowKit
set_option maxHeartbeats 1000000

/-- Where digits end. -/
def endN (l : List UInt8) (k : Nat) : Nat := k + ((l.drop k).takeWhile dgB).length
theorem end_stop (l : List UInt8) (k : Nat) (h : ∀ hk : k < l.length, dgB l[k] = false) : endN l k = k := by
  unfold endN
  by_cases hk : k < l.length
  · rw [List.drop_eq_getElem_cons hk, List.takeWhile_cons, h hk]; rfl
  · rw [List.drop_of_length_le (by omega)]; rfl
theorem end_step (l : List UInt8) (k : Nat) (hk : k < l.length) (h : dgB l[k] = true) : endN l k = endN l (k + 1) := by
  unfold endN
  rw [List.drop_eq_getElem_cons hk, List.takeWhile_cons, h]
  simp; omega
theorem end_any (s : ByteArray) (a : Nat) (ha : a ≤ s.size) (hs : s.size ≤ maxLen) (w : World) :
    Calls Tryd.prog 37 #[.string s, .int .i64 a] w fun e w' => e = .returned (.int .i64 (endN s.data.toList a)) ∧ w' = w := by
  unfold maxLen at hs
  have hl := size_list s
  go_enter Tryd.func37, Tryd.ntmps37
  go_wp2_with fail
  go_loop [1] (fun i => ∃ k : Nat, k ≤ s.size ∧ i = .int .i64 k ∧ Hid (endN s.data.toList a = endN s.data.toList k)) (fun i => s.size - (intOf i).toNat)
  case atStart => exact ⟨a, ha, rfl, rfl⟩
  case round =>
    obtain ⟨k, hk, rfl, HE⟩ := hrel
    by_cases hlt : k < s.size
    · by_cases c1 : (48 : Int) ≤ s[k].toNat
      · by_cases c2 : (s[k].toNat : Int) ≤ 57
        · have HS : Hid (endN s.data.toList k = endN s.data.toList (k + 1)) := end_step s.data.toList k (by omega) (by unfold dgB; simp [get_list s k hlt]; omega)
          go_wp2_with fail
          go_round
          case rel => exact ⟨k + 1, by omega, by go_num, by show _ = _; rw [HE.out, HS.out]⟩
          case measure => simp [intOf]; omega
        · have HS : Hid (endN s.data.toList k = k) := end_stop s.data.toList k (fun _ => dg_no (c := s[k]) (.inr (by omega)))
          go_wp2_with fail
          go_ret
          exact ⟨ret_int (by rw [HE.out, HS.out]), rfl⟩
      · have HS : Hid (endN s.data.toList k = k) := end_stop s.data.toList k (fun _ => dg_no (c := s[k]) (.inl (by omega)))
        go_wp2_with fail
        go_ret
        exact ⟨ret_int (by rw [HE.out, HS.out]), rfl⟩
    · have HS : Hid (endN s.data.toList k = k) := end_stop s.data.toList k (fun h => by omega)
      go_wp2_with fail
      go_ret
      exact ⟨ret_int (by rw [HE.out, HS.out]), rfl⟩

theorem times_w (x : Int) (w : World) : Calls Tryd.prog 39 #[.agg #[.int .u64 (uhi x), .int .u64 (loOf x)]] w fun e w' => e = .returned (.agg #[.int .u64 (uhi (x * 10)), .int .u64 (loOf (x * 10))]) ∧ Ext w w' := by
  have c1 := fun W => up_w x W
  go_enter Tryd.func39, Tryd.ntmps39
  go_wp2_with fail
  refine (c1 _).mono ?_
  rintro e w1 ⟨rfl, E1⟩
  go_wp2_with fail
  have hs1 : w.heap.size + 2 ≤ w1.heap.size := by have := E1.size; simp at this; omega
  obtain ⟨W2, hW2⟩ : ∃ W2, W2 = w1.alloc (Obj.cells #[Value.int IntKind.u64 (uhi (x * 2)), Value.int IntKind.u64 (loOf (x * 2))] 60) := ⟨_, rfl⟩
  have P3 : Pair W2 w1.heap.size (x * 2) := by rw [hW2]; exact ⟨by simp, by simp, by simp, by simp, by simp⟩
  have P2 : Pair W2 (w.heap.size + 1) 0 := by
    rw [hW2]
    exact Pair.ext (Pair.ext ⟨by simp, by simp; rfl, by simp; rfl, by simp, by simp⟩ E1) ((Ext.refl _).alloc _)
  have EW : Ext w W2 := by rw [hW2]; exact ((((Ext.refl _).alloc _).alloc _).trans E1).alloc _
  rw [← hW2]
  have hK : Hid (∀ W, Ext W2 W → Pair W w1.heap.size (x * 2) ∧ Pair W (w.heap.size + 1) 0) := fun W h => ⟨P3.ext h, P2.ext h⟩
  obtain ⟨⟨z3, x1, x2, x3, x4⟩, ⟨z2, y1, y2, y3, y4⟩⟩ := hK.out W2 (Ext.refl _)
  generalize w1.heap.size = b3 at *
  have hb2 : w.heap.size ≤ w.heap.size + 1 := by omega
  generalize w.heap.size + 1 = b2 at *
  clear hW2 P3 P2 E1 c1
  set_option maxRecDepth 100000 in
  go_region_with (first | (go_at_call 47; refine (up_w _ _).mono ?_; rintro e w5 ⟨rfl, E5⟩; have X5 : Ext W2 w5 := (by first | exact ((Ext.refl _).drew).trans E5 | exact Ext.trans (by assumption) E5 | exact Ext.trans (Ext.drew (by assumption)) E5); obtain ⟨⟨z3, x1, x2, x3, x4⟩, ⟨z2, y1, y2, y3, y4⟩⟩ := hK.out w5 X5) | (go_at_call 38; refine (plusW_w _ _ _).mono ?_; rintro e w5 ⟨rfl, E5⟩; have X5 : Ext W2 w5 := (by first | exact ((Ext.refl _).drew).trans E5 | exact Ext.trans (by assumption) E5 | exact Ext.trans (Ext.drew (by assumption)) E5); obtain ⟨⟨z3, x1, x2, x3, x4⟩, ⟨z2, y1, y2, y3, y4⟩⟩ := hK.out w5 X5))
  all_goals
    have PF := Pair.set (w := w5) ⟨z2, y1, y2, y3, y4⟩ (x * 2 + x * 2 * 2 * 2)
    have EF : Ext w ((w5.setCell ⟨b2, 0, none⟩ (.int .u64 (uhi (x * 2 + x * 2 * 2 * 2)))).setCell ⟨b2, 1, none⟩ (.int .u64 (loOf (x * 2 + x * 2 * 2 * 2)))) := ((EW.trans X5).setCell (p := ⟨b2, 0, none⟩) hb2 _).setCell (p := ⟨b2, 1, none⟩) hb2 _
    generalize ((w5.setCell ⟨b2, 0, none⟩ (.int .u64 (uhi (x * 2 + x * 2 * 2 * 2)))).setCell ⟨b2, 1, none⟩ (.int .u64 (loOf (x * 2 + x * 2 * 2 * 2)))) = WF at *
    obtain ⟨f1, f2, f3, f4, f5⟩ := PF
    rw [show x * 2 + x * 2 * 2 * 2 = x * 10 by omega] at f2 f3
    go_wp2_with fail
    exact bodyPost_ret (v := .agg #[.int .u64 (uhi (x * 10)), .int .u64 (loOf (x * 10))]) (by simp [results, Tryd.results39, go_sem, f2, f3]) rfl ⟨rfl, EF⟩
end Go.Proofs.YtfppjnigbodphaaDoor

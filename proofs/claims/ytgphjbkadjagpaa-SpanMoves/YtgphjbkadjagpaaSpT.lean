/-
  The document's Opened and Closed.
-/
import Derived.Test.YtgphjbkadjagpaaSpP
import Derived.Test.YtgphjbkadjagpaaSpK
import Derived.Deep.CutBlock
import Derived.Deep.DeepCutAuto
namespace Go.Proofs.Ytgphjbkadjagpaa
open Go.RowKit
set_option maxHeartbeats 4000000

theorem opn_is {a s1 s2 x y : Int} (h1 : (if a ≤ s1 then mor s1 else s1) = x) (h2 : (if a < s2 then mor s2 else s2) = y) : opn a (s1, s2) = (x, y) := by unfold opn; rw [h1, h2]
theorem cls_is {a s1 s2 x y : Int} (h1 : (if a < s1 then s1 - 1 else s1) = x) (h2 : (if a < s2 then s2 - 1 else s2) = y) : cls a (s1, s2) = (x, y) := by unfold cls; rw [h1, h2]

set_option maxRecDepth 100000 in
theorem ropened_any (w : World) (v : Value) (l p : List Sp) (a : Int) (h : Ra w v l) (hl : l.length ≤ 60) (hA : AllI l) (ia : I64 a) (hp : Plain p) (hpl : ∀ n, hasB p n = hasB l n) :
    Calls Try.prog 8 #[v, .int .i64 a] w (SetQ w 240 (fun n => hasB (p.map (opn a)) n)) := by
  have c1 := by_any w 0 v (.slice none 0 0) l [] (.inl rfl) h (.inl (Rd.nil w)) (by omega) (by simp) hA (by intro s hs; simp at hs)
  have HL : Hid (l.length ≤ 60) := hl
  have HP : Hid (Plain p ∧ (∀ n, hasB p n = hasB l n) ∧ I64 a) := ⟨hp, hpl, ia⟩
  clear h hl hA hp hpl
  obtain ⟨ia1, ia2⟩ := ia
  go_enter Try.func8, Try.ntmps8
  go_wp2_with fail
  refine c1.mono ?_
  rintro e w1 ⟨v1, r, rfl, k1, k2, k3, k4, k5, k6⟩
  have hrp : r = p := plain_one k2 HP.out.1 fun n => by rw [k3, HP.out.2.1]; exact Bool.or_false _
  subst hrp
  obtain ⟨q, c, rfl⟩ := k1.rd.form
  have HR : Hid (Rd w1 (.slice q r.length c) r) := k1.rd
  have HA : Hid (AllI r ∧ r.length ≤ 120 ∧ Ext w w1) := ⟨k4, by have := HL.out; simp at k5; omega, k6⟩
  clear k1 k2 k3 k4 k5 k6 c1
  go_wp2
  go_loopw [7, 6] (fun x u wr => ∃ k : Nat, x = .int .i64 (k : Int) ∧ k ≤ r.length ∧ Ow wr w1.heap.size u ((r.take k).map (opn a)) ∧ Ext w1 wr) (fun x _ _ => r.length - (intOf x).toNat)
  case atStart => exact ⟨0, rfl, Nat.zero_le _, ow_new w1 w1 (Nat.le_refl _), (Ext.refl _).alloc _⟩
  case round =>
    obtain ⟨k, rfl, hk, hO, hE⟩ := hrel
    have HO : Hid (Ow wr w1.heap.size u6 ((r.take k).map (opn a)) ∧ Ext w1 wr) := ⟨hO, hE⟩
    clear hO hE
    rcases Nat.lt_or_ge k r.length with hlt | hge
    · have hltI : (k : Int) < (r.length : Int) := by omega
      obtain ⟨b, off, s, rfl, hs, _, _, hc⟩ := HR.out.at hlt
      obtain ⟨d1, d2⟩ := hc _ HO.out.2
      have HSS : Hid (r.take (k + 1) = r.take k ++ [s]) := take_snoc hs
      have wk := wrap_succ k (by have := HA.out.2.1; omega)
      have HI : Hid (I64 s.1 ∧ I64 s.2) := HA.out.1 s (List.mem_of_getElem? hs)
      have HLL : Hid (((r.take k).map (opn a)).length ≤ 120) := by have := HA.out.2.1; show _ ≤ 120; simp; omega
      clear hs hc
      obtain ⟨s1, s2⟩ := s
      obtain ⟨⟨i1, i2⟩, ⟨i3, i4⟩⟩ := HI.out
      by_cases x1 : a ≤ s1
      · by_cases x2 : s1 < 9223372036854775807
        · have x3 : ¬ s1 = 9223372036854775807 := by omega
          by_cases y1 : a < s2
          · by_cases y2 : s2 < 9223372036854775807
            · have y3 : ¬ s2 = 9223372036854775807 := by omega
              have HF : Hid (opn a (s1, s2) = (s1 + 1, s2 + 1)) := opn_is (by unfold mor; (repeat' split) <;> omega) (by unfold mor; (repeat' split) <;> omega)
              go_upto_region 10 with fail
              have E7 : Ext wr (wr.alloc (.cells #[.int .i64 (s1 + 1), .int .i64 (s2 + 1)] 28)) := (Ext.refl _).alloc _
              have m0 : (wr.alloc (.cells #[.int .i64 (s1 + 1), .int .i64 (s2 + 1)] 28)).cell? ⟨wr.heap.size, 0, none⟩ = some (.int .i64 (s1 + 1)) := by simp [go_sem]
              have m1 : (wr.alloc (.cells #[.int .i64 (s1 + 1), .int .i64 (s2 + 1)] 28)).cell? ⟨wr.heap.size, 1, none⟩ = some (.int .i64 (s2 + 1)) := by simp [go_sem]
              generalize wr.alloc (.cells #[.int .i64 (s1 + 1), .int .i64 (s2 + 1)] 28) = W7 at *
              generalize wr.heap.size = nb at *
              go_wp2_with (at_builtin; refine bk_append_any _ w1 _ _ _ _ ((r.take k).map (opn a)) [(s1 + 1, s2 + 1)] rfl rfl (by rfl) (by rfl) ((HO.out.1.ext E7).ext ((Ext.refl _).alloc _)) (rd_one _ _ _).ra (by have := HLL.out; simp at this ⊢; omega) ((HO.out.2.trans E7).alloc _) ?_; intro v' W' k1 k2)
              have HO' : Hid (Ow W' w1.heap.size v' ((r.take (k + 1)).map (opn a)) ∧ Ext w1 W') := by
                refine ⟨?_, k2⟩
                rw [HSS.out, List.map_append]
                simp only [List.map_cons, List.map_nil]
                rw [HF.out]; exact k1
              clear k1 k2
              go_wp2
              go_roundw
              case rel => exact ⟨k + 1, by rw [wk], hlt, HO'.out.1, HO'.out.2⟩
              case measure => rw [wk]; simp [intOf]; omega
            · have y3 : s2 = 9223372036854775807 := by omega
              subst y3
              have HF : Hid (opn a (s1, 9223372036854775807) = (s1 + 1, 9223372036854775807)) := opn_is (by unfold mor; (repeat' split) <;> omega) (by unfold mor; (repeat' split) <;> omega)
              go_upto_region 10 with fail
              have E7 : Ext wr (wr.alloc (.cells #[.int .i64 (s1 + 1), .int .i64 (9223372036854775807)] 28)) := (Ext.refl _).alloc _
              have m0 : (wr.alloc (.cells #[.int .i64 (s1 + 1), .int .i64 (9223372036854775807)] 28)).cell? ⟨wr.heap.size, 0, none⟩ = some (.int .i64 (s1 + 1)) := by simp [go_sem]
              have m1 : (wr.alloc (.cells #[.int .i64 (s1 + 1), .int .i64 (9223372036854775807)] 28)).cell? ⟨wr.heap.size, 1, none⟩ = some (.int .i64 (9223372036854775807)) := by simp [go_sem]
              generalize wr.alloc (.cells #[.int .i64 (s1 + 1), .int .i64 (9223372036854775807)] 28) = W7 at *
              generalize wr.heap.size = nb at *
              go_wp2_with (at_builtin; refine bk_append_any _ w1 _ _ _ _ ((r.take k).map (opn a)) [(s1 + 1, 9223372036854775807)] rfl rfl (by rfl) (by rfl) ((HO.out.1.ext E7).ext ((Ext.refl _).alloc _)) (rd_one _ _ _).ra (by have := HLL.out; simp at this ⊢; omega) ((HO.out.2.trans E7).alloc _) ?_; intro v' W' k1 k2)
              have HO' : Hid (Ow W' w1.heap.size v' ((r.take (k + 1)).map (opn a)) ∧ Ext w1 W') := by
                refine ⟨?_, k2⟩
                rw [HSS.out, List.map_append]
                simp only [List.map_cons, List.map_nil]
                rw [HF.out]; exact k1
              clear k1 k2
              go_wp2
              go_roundw
              case rel => exact ⟨k + 1, by rw [wk], hlt, HO'.out.1, HO'.out.2⟩
              case measure => rw [wk]; simp [intOf]; omega
          · skip
            have HF : Hid (opn a (s1, s2) = (s1 + 1, s2)) := opn_is (by unfold mor; (repeat' split) <;> omega) (by unfold mor; (repeat' split) <;> omega)
            go_upto_region 10 with fail
            have E7 : Ext wr (wr.alloc (.cells #[.int .i64 (s1 + 1), .int .i64 (s2)] 28)) := (Ext.refl _).alloc _
            have m0 : (wr.alloc (.cells #[.int .i64 (s1 + 1), .int .i64 (s2)] 28)).cell? ⟨wr.heap.size, 0, none⟩ = some (.int .i64 (s1 + 1)) := by simp [go_sem]
            have m1 : (wr.alloc (.cells #[.int .i64 (s1 + 1), .int .i64 (s2)] 28)).cell? ⟨wr.heap.size, 1, none⟩ = some (.int .i64 (s2)) := by simp [go_sem]
            generalize wr.alloc (.cells #[.int .i64 (s1 + 1), .int .i64 (s2)] 28) = W7 at *
            generalize wr.heap.size = nb at *
            go_wp2_with (at_builtin; refine bk_append_any _ w1 _ _ _ _ ((r.take k).map (opn a)) [(s1 + 1, s2)] rfl rfl (by rfl) (by rfl) ((HO.out.1.ext E7).ext ((Ext.refl _).alloc _)) (rd_one _ _ _).ra (by have := HLL.out; simp at this ⊢; omega) ((HO.out.2.trans E7).alloc _) ?_; intro v' W' k1 k2)
            have HO' : Hid (Ow W' w1.heap.size v' ((r.take (k + 1)).map (opn a)) ∧ Ext w1 W') := by
              refine ⟨?_, k2⟩
              rw [HSS.out, List.map_append]
              simp only [List.map_cons, List.map_nil]
              rw [HF.out]; exact k1
            clear k1 k2
            go_wp2
            go_roundw
            case rel => exact ⟨k + 1, by rw [wk], hlt, HO'.out.1, HO'.out.2⟩
            case measure => rw [wk]; simp [intOf]; omega
        · have x3 : s1 = 9223372036854775807 := by omega
          subst x3
          by_cases y1 : a < s2
          · by_cases y2 : s2 < 9223372036854775807
            · have y3 : ¬ s2 = 9223372036854775807 := by omega
              have HF : Hid (opn a (9223372036854775807, s2) = (9223372036854775807, s2 + 1)) := opn_is (by unfold mor; (repeat' split) <;> omega) (by unfold mor; (repeat' split) <;> omega)
              go_upto_region 10 with fail
              have E7 : Ext wr (wr.alloc (.cells #[.int .i64 (9223372036854775807), .int .i64 (s2 + 1)] 28)) := (Ext.refl _).alloc _
              have m0 : (wr.alloc (.cells #[.int .i64 (9223372036854775807), .int .i64 (s2 + 1)] 28)).cell? ⟨wr.heap.size, 0, none⟩ = some (.int .i64 (9223372036854775807)) := by simp [go_sem]
              have m1 : (wr.alloc (.cells #[.int .i64 (9223372036854775807), .int .i64 (s2 + 1)] 28)).cell? ⟨wr.heap.size, 1, none⟩ = some (.int .i64 (s2 + 1)) := by simp [go_sem]
              generalize wr.alloc (.cells #[.int .i64 (9223372036854775807), .int .i64 (s2 + 1)] 28) = W7 at *
              generalize wr.heap.size = nb at *
              go_wp2_with (at_builtin; refine bk_append_any _ w1 _ _ _ _ ((r.take k).map (opn a)) [(9223372036854775807, s2 + 1)] rfl rfl (by rfl) (by rfl) ((HO.out.1.ext E7).ext ((Ext.refl _).alloc _)) (rd_one _ _ _).ra (by have := HLL.out; simp at this ⊢; omega) ((HO.out.2.trans E7).alloc _) ?_; intro v' W' k1 k2)
              have HO' : Hid (Ow W' w1.heap.size v' ((r.take (k + 1)).map (opn a)) ∧ Ext w1 W') := by
                refine ⟨?_, k2⟩
                rw [HSS.out, List.map_append]
                simp only [List.map_cons, List.map_nil]
                rw [HF.out]; exact k1
              clear k1 k2
              go_wp2
              go_roundw
              case rel => exact ⟨k + 1, by rw [wk], hlt, HO'.out.1, HO'.out.2⟩
              case measure => rw [wk]; simp [intOf]; omega
            · have y3 : s2 = 9223372036854775807 := by omega
              subst y3
              have HF : Hid (opn a (9223372036854775807, 9223372036854775807) = (9223372036854775807, 9223372036854775807)) := opn_is (by unfold mor; (repeat' split) <;> omega) (by unfold mor; (repeat' split) <;> omega)
              go_upto_region 10 with fail
              have E7 : Ext wr (wr.alloc (.cells #[.int .i64 (9223372036854775807), .int .i64 (9223372036854775807)] 28)) := (Ext.refl _).alloc _
              have m0 : (wr.alloc (.cells #[.int .i64 (9223372036854775807), .int .i64 (9223372036854775807)] 28)).cell? ⟨wr.heap.size, 0, none⟩ = some (.int .i64 (9223372036854775807)) := by simp [go_sem]
              have m1 : (wr.alloc (.cells #[.int .i64 (9223372036854775807), .int .i64 (9223372036854775807)] 28)).cell? ⟨wr.heap.size, 1, none⟩ = some (.int .i64 (9223372036854775807)) := by simp [go_sem]
              generalize wr.alloc (.cells #[.int .i64 (9223372036854775807), .int .i64 (9223372036854775807)] 28) = W7 at *
              generalize wr.heap.size = nb at *
              go_wp2_with (at_builtin; refine bk_append_any _ w1 _ _ _ _ ((r.take k).map (opn a)) [(9223372036854775807, 9223372036854775807)] rfl rfl (by rfl) (by rfl) ((HO.out.1.ext E7).ext ((Ext.refl _).alloc _)) (rd_one _ _ _).ra (by have := HLL.out; simp at this ⊢; omega) ((HO.out.2.trans E7).alloc _) ?_; intro v' W' k1 k2)
              have HO' : Hid (Ow W' w1.heap.size v' ((r.take (k + 1)).map (opn a)) ∧ Ext w1 W') := by
                refine ⟨?_, k2⟩
                rw [HSS.out, List.map_append]
                simp only [List.map_cons, List.map_nil]
                rw [HF.out]; exact k1
              clear k1 k2
              go_wp2
              go_roundw
              case rel => exact ⟨k + 1, by rw [wk], hlt, HO'.out.1, HO'.out.2⟩
              case measure => rw [wk]; simp [intOf]; omega
          · skip
            have HF : Hid (opn a (9223372036854775807, s2) = (9223372036854775807, s2)) := opn_is (by unfold mor; (repeat' split) <;> omega) (by unfold mor; (repeat' split) <;> omega)
            go_upto_region 10 with fail
            have E7 : Ext wr (wr.alloc (.cells #[.int .i64 (9223372036854775807), .int .i64 (s2)] 28)) := (Ext.refl _).alloc _
            have m0 : (wr.alloc (.cells #[.int .i64 (9223372036854775807), .int .i64 (s2)] 28)).cell? ⟨wr.heap.size, 0, none⟩ = some (.int .i64 (9223372036854775807)) := by simp [go_sem]
            have m1 : (wr.alloc (.cells #[.int .i64 (9223372036854775807), .int .i64 (s2)] 28)).cell? ⟨wr.heap.size, 1, none⟩ = some (.int .i64 (s2)) := by simp [go_sem]
            generalize wr.alloc (.cells #[.int .i64 (9223372036854775807), .int .i64 (s2)] 28) = W7 at *
            generalize wr.heap.size = nb at *
            go_wp2_with (at_builtin; refine bk_append_any _ w1 _ _ _ _ ((r.take k).map (opn a)) [(9223372036854775807, s2)] rfl rfl (by rfl) (by rfl) ((HO.out.1.ext E7).ext ((Ext.refl _).alloc _)) (rd_one _ _ _).ra (by have := HLL.out; simp at this ⊢; omega) ((HO.out.2.trans E7).alloc _) ?_; intro v' W' k1 k2)
            have HO' : Hid (Ow W' w1.heap.size v' ((r.take (k + 1)).map (opn a)) ∧ Ext w1 W') := by
              refine ⟨?_, k2⟩
              rw [HSS.out, List.map_append]
              simp only [List.map_cons, List.map_nil]
              rw [HF.out]; exact k1
            clear k1 k2
            go_wp2
            go_roundw
            case rel => exact ⟨k + 1, by rw [wk], hlt, HO'.out.1, HO'.out.2⟩
            case measure => rw [wk]; simp [intOf]; omega
      · skip
        by_cases y1 : a < s2
        · by_cases y2 : s2 < 9223372036854775807
          · have y3 : ¬ s2 = 9223372036854775807 := by omega
            have HF : Hid (opn a (s1, s2) = (s1, s2 + 1)) := opn_is (by unfold mor; (repeat' split) <;> omega) (by unfold mor; (repeat' split) <;> omega)
            go_upto_region 10 with fail
            have E7 : Ext wr (wr.alloc (.cells #[.int .i64 (s1), .int .i64 (s2 + 1)] 28)) := (Ext.refl _).alloc _
            have m0 : (wr.alloc (.cells #[.int .i64 (s1), .int .i64 (s2 + 1)] 28)).cell? ⟨wr.heap.size, 0, none⟩ = some (.int .i64 (s1)) := by simp [go_sem]
            have m1 : (wr.alloc (.cells #[.int .i64 (s1), .int .i64 (s2 + 1)] 28)).cell? ⟨wr.heap.size, 1, none⟩ = some (.int .i64 (s2 + 1)) := by simp [go_sem]
            generalize wr.alloc (.cells #[.int .i64 (s1), .int .i64 (s2 + 1)] 28) = W7 at *
            generalize wr.heap.size = nb at *
            go_wp2_with (at_builtin; refine bk_append_any _ w1 _ _ _ _ ((r.take k).map (opn a)) [(s1, s2 + 1)] rfl rfl (by rfl) (by rfl) ((HO.out.1.ext E7).ext ((Ext.refl _).alloc _)) (rd_one _ _ _).ra (by have := HLL.out; simp at this ⊢; omega) ((HO.out.2.trans E7).alloc _) ?_; intro v' W' k1 k2)
            have HO' : Hid (Ow W' w1.heap.size v' ((r.take (k + 1)).map (opn a)) ∧ Ext w1 W') := by
              refine ⟨?_, k2⟩
              rw [HSS.out, List.map_append]
              simp only [List.map_cons, List.map_nil]
              rw [HF.out]; exact k1
            clear k1 k2
            go_wp2
            go_roundw
            case rel => exact ⟨k + 1, by rw [wk], hlt, HO'.out.1, HO'.out.2⟩
            case measure => rw [wk]; simp [intOf]; omega
          · have y3 : s2 = 9223372036854775807 := by omega
            subst y3
            have HF : Hid (opn a (s1, 9223372036854775807) = (s1, 9223372036854775807)) := opn_is (by unfold mor; (repeat' split) <;> omega) (by unfold mor; (repeat' split) <;> omega)
            go_upto_region 10 with fail
            have E7 : Ext wr (wr.alloc (.cells #[.int .i64 (s1), .int .i64 (9223372036854775807)] 28)) := (Ext.refl _).alloc _
            have m0 : (wr.alloc (.cells #[.int .i64 (s1), .int .i64 (9223372036854775807)] 28)).cell? ⟨wr.heap.size, 0, none⟩ = some (.int .i64 (s1)) := by simp [go_sem]
            have m1 : (wr.alloc (.cells #[.int .i64 (s1), .int .i64 (9223372036854775807)] 28)).cell? ⟨wr.heap.size, 1, none⟩ = some (.int .i64 (9223372036854775807)) := by simp [go_sem]
            generalize wr.alloc (.cells #[.int .i64 (s1), .int .i64 (9223372036854775807)] 28) = W7 at *
            generalize wr.heap.size = nb at *
            go_wp2_with (at_builtin; refine bk_append_any _ w1 _ _ _ _ ((r.take k).map (opn a)) [(s1, 9223372036854775807)] rfl rfl (by rfl) (by rfl) ((HO.out.1.ext E7).ext ((Ext.refl _).alloc _)) (rd_one _ _ _).ra (by have := HLL.out; simp at this ⊢; omega) ((HO.out.2.trans E7).alloc _) ?_; intro v' W' k1 k2)
            have HO' : Hid (Ow W' w1.heap.size v' ((r.take (k + 1)).map (opn a)) ∧ Ext w1 W') := by
              refine ⟨?_, k2⟩
              rw [HSS.out, List.map_append]
              simp only [List.map_cons, List.map_nil]
              rw [HF.out]; exact k1
            clear k1 k2
            go_wp2
            go_roundw
            case rel => exact ⟨k + 1, by rw [wk], hlt, HO'.out.1, HO'.out.2⟩
            case measure => rw [wk]; simp [intOf]; omega
        · skip
          have HF : Hid (opn a (s1, s2) = (s1, s2)) := opn_is (by unfold mor; (repeat' split) <;> omega) (by unfold mor; (repeat' split) <;> omega)
          go_upto_region 10 with fail
          have E7 : Ext wr (wr.alloc (.cells #[.int .i64 (s1), .int .i64 (s2)] 28)) := (Ext.refl _).alloc _
          have m0 : (wr.alloc (.cells #[.int .i64 (s1), .int .i64 (s2)] 28)).cell? ⟨wr.heap.size, 0, none⟩ = some (.int .i64 (s1)) := by simp [go_sem]
          have m1 : (wr.alloc (.cells #[.int .i64 (s1), .int .i64 (s2)] 28)).cell? ⟨wr.heap.size, 1, none⟩ = some (.int .i64 (s2)) := by simp [go_sem]
          generalize wr.alloc (.cells #[.int .i64 (s1), .int .i64 (s2)] 28) = W7 at *
          generalize wr.heap.size = nb at *
          go_wp2_with (at_builtin; refine bk_append_any _ w1 _ _ _ _ ((r.take k).map (opn a)) [(s1, s2)] rfl rfl (by rfl) (by rfl) ((HO.out.1.ext E7).ext ((Ext.refl _).alloc _)) (rd_one _ _ _).ra (by have := HLL.out; simp at this ⊢; omega) ((HO.out.2.trans E7).alloc _) ?_; intro v' W' k1 k2)
          have HO' : Hid (Ow W' w1.heap.size v' ((r.take (k + 1)).map (opn a)) ∧ Ext w1 W') := by
            refine ⟨?_, k2⟩
            rw [HSS.out, List.map_append]
            simp only [List.map_cons, List.map_nil]
            rw [HF.out]; exact k1
          clear k1 k2
          go_wp2
          go_roundw
          case rel => exact ⟨k + 1, by rw [wk], hlt, HO'.out.1, HO'.out.2⟩
          case measure => rw [wk]; simp [intOf]; omega
    · obtain rfl : k = r.length := by omega
      have hO := HO.out.1
      rw [List.take_length] at hO
      obtain ⟨q', c', hv⟩ := hO.rd.form
      rw [List.length_map] at hv
      subst hv
      have HB : Hid (Calls Try.prog 11 #[.int .i64 0, .slice q' r.length c', .slice none 0 0] wr (SetQ wr (2 * ((r.map (opn a)).length + ([] : List Sp).length)) (fOf 0 (r.map (opn a)) []))) := by_any wr 0 _ (.slice none 0 0) (r.map (opn a)) [] (.inl rfl) hO.rd.ra (.inl (Rd.nil wr)) (by have := HA.out.2.1; simp; omega) (by simp) (by
        intro s hs
        obtain ⟨t, ht, rfl⟩ := List.mem_map.1 hs
        obtain ⟨j1, j2⟩ := HA.out.1 t ht
        exact opened_bd a t HP.out.2.2 j1 j2) (by intro s hs; simp at hs)
      clear hO
      go_wp2_with fail
      refine HB.out.mono ?_
      rintro e w2 ⟨v2, z, rfl, z1, z2, z3, z4, z5, z6⟩
      go_wp2_with fail
      go_ret
      refine ⟨_, z, rfl, z1.mono ?_, z2, ?_, z4, ?_, (HA.out.2.2.trans HO.out.2).trans z6⟩
      · have h1 := HA.out.2.2.size; have h2 := HO.out.2.size; omega
      · intro n; rw [z3 n]; exact Bool.or_false _
      · have := HA.out.2.1; simp at z5; omega

set_option maxRecDepth 100000 in
theorem rclosed_any (w : World) (v : Value) (l p : List Sp) (a : Int) (h : Ra w v l) (hl : l.length ≤ 60) (hA : AllI l) (ia : I64 a) (hp : Plain p) (hpl : ∀ n, hasB p n = hasB l n) :
    Calls Try.prog 10 #[v, .int .i64 a] w (SetQ w 240 (fun n => hasB (p.map (cls a)) n)) := by
  have c1 := by_any w 0 v (.slice none 0 0) l [] (.inl rfl) h (.inl (Rd.nil w)) (by omega) (by simp) hA (by intro s hs; simp at hs)
  have HL : Hid (l.length ≤ 60) := hl
  have HP : Hid (Plain p ∧ (∀ n, hasB p n = hasB l n) ∧ I64 a) := ⟨hp, hpl, ia⟩
  clear h hl hA hp hpl
  obtain ⟨ia1, ia2⟩ := ia
  go_enter Try.func10, Try.ntmps10
  go_wp2_with fail
  refine c1.mono ?_
  rintro e w1 ⟨v1, r, rfl, k1, k2, k3, k4, k5, k6⟩
  have hrp : r = p := plain_one k2 HP.out.1 fun n => by rw [k3, HP.out.2.1]; exact Bool.or_false _
  subst hrp
  obtain ⟨q, c, rfl⟩ := k1.rd.form
  have HR : Hid (Rd w1 (.slice q r.length c) r) := k1.rd
  have HA : Hid (AllI r ∧ r.length ≤ 120 ∧ Ext w w1) := ⟨k4, by have := HL.out; simp at k5; omega, k6⟩
  clear k1 k2 k3 k4 k5 k6 c1
  go_wp2
  go_loopw [7, 6] (fun x u wr => ∃ k : Nat, x = .int .i64 (k : Int) ∧ k ≤ r.length ∧ Ow wr w1.heap.size u ((r.take k).map (cls a)) ∧ Ext w1 wr) (fun x _ _ => r.length - (intOf x).toNat)
  case atStart => exact ⟨0, rfl, Nat.zero_le _, ow_new w1 w1 (Nat.le_refl _), (Ext.refl _).alloc _⟩
  case round =>
    obtain ⟨k, rfl, hk, hO, hE⟩ := hrel
    have HO : Hid (Ow wr w1.heap.size u6 ((r.take k).map (cls a)) ∧ Ext w1 wr) := ⟨hO, hE⟩
    clear hO hE
    rcases Nat.lt_or_ge k r.length with hlt | hge
    · have hltI : (k : Int) < (r.length : Int) := by omega
      obtain ⟨b, off, s, rfl, hs, _, _, hc⟩ := HR.out.at hlt
      obtain ⟨d1, d2⟩ := hc _ HO.out.2
      have HSS : Hid (r.take (k + 1) = r.take k ++ [s]) := take_snoc hs
      have wk := wrap_succ k (by have := HA.out.2.1; omega)
      have HI : Hid (I64 s.1 ∧ I64 s.2) := HA.out.1 s (List.mem_of_getElem? hs)
      have HLL : Hid (((r.take k).map (cls a)).length ≤ 120) := by have := HA.out.2.1; show _ ≤ 120; simp; omega
      clear hs hc
      obtain ⟨s1, s2⟩ := s
      obtain ⟨⟨i1, i2⟩, ⟨i3, i4⟩⟩ := HI.out
      by_cases x1 : a < s1
      · by_cases y1 : a < s2
        · skip
          have HF : Hid (cls a (s1, s2) = (s1 - 1, s2 - 1)) := cls_is (by (repeat' split) <;> omega) (by (repeat' split) <;> omega)
          go_upto_region 10 with fail
          have E7 : Ext wr (wr.alloc (.cells #[.int .i64 (s1 - 1), .int .i64 (s2 - 1)] 28)) := (Ext.refl _).alloc _
          have m0 : (wr.alloc (.cells #[.int .i64 (s1 - 1), .int .i64 (s2 - 1)] 28)).cell? ⟨wr.heap.size, 0, none⟩ = some (.int .i64 (s1 - 1)) := by simp [go_sem]
          have m1 : (wr.alloc (.cells #[.int .i64 (s1 - 1), .int .i64 (s2 - 1)] 28)).cell? ⟨wr.heap.size, 1, none⟩ = some (.int .i64 (s2 - 1)) := by simp [go_sem]
          generalize wr.alloc (.cells #[.int .i64 (s1 - 1), .int .i64 (s2 - 1)] 28) = W7 at *
          generalize wr.heap.size = nb at *
          go_wp2_with (at_builtin; refine bk_append_any _ w1 _ _ _ _ ((r.take k).map (cls a)) [(s1 - 1, s2 - 1)] rfl rfl (by rfl) (by rfl) ((HO.out.1.ext E7).ext ((Ext.refl _).alloc _)) (rd_one _ _ _).ra (by have := HLL.out; simp at this ⊢; omega) ((HO.out.2.trans E7).alloc _) ?_; intro v' W' k1 k2)
          have HO' : Hid (Ow W' w1.heap.size v' ((r.take (k + 1)).map (cls a)) ∧ Ext w1 W') := by
            refine ⟨?_, k2⟩
            rw [HSS.out, List.map_append]
            simp only [List.map_cons, List.map_nil]
            rw [HF.out]; exact k1
          clear k1 k2
          go_wp2
          go_roundw
          case rel => exact ⟨k + 1, by rw [wk], hlt, HO'.out.1, HO'.out.2⟩
          case measure => rw [wk]; simp [intOf]; omega
        · skip
          have HF : Hid (cls a (s1, s2) = (s1 - 1, s2)) := cls_is (by (repeat' split) <;> omega) (by (repeat' split) <;> omega)
          go_upto_region 10 with fail
          have E7 : Ext wr (wr.alloc (.cells #[.int .i64 (s1 - 1), .int .i64 (s2)] 28)) := (Ext.refl _).alloc _
          have m0 : (wr.alloc (.cells #[.int .i64 (s1 - 1), .int .i64 (s2)] 28)).cell? ⟨wr.heap.size, 0, none⟩ = some (.int .i64 (s1 - 1)) := by simp [go_sem]
          have m1 : (wr.alloc (.cells #[.int .i64 (s1 - 1), .int .i64 (s2)] 28)).cell? ⟨wr.heap.size, 1, none⟩ = some (.int .i64 (s2)) := by simp [go_sem]
          generalize wr.alloc (.cells #[.int .i64 (s1 - 1), .int .i64 (s2)] 28) = W7 at *
          generalize wr.heap.size = nb at *
          go_wp2_with (at_builtin; refine bk_append_any _ w1 _ _ _ _ ((r.take k).map (cls a)) [(s1 - 1, s2)] rfl rfl (by rfl) (by rfl) ((HO.out.1.ext E7).ext ((Ext.refl _).alloc _)) (rd_one _ _ _).ra (by have := HLL.out; simp at this ⊢; omega) ((HO.out.2.trans E7).alloc _) ?_; intro v' W' k1 k2)
          have HO' : Hid (Ow W' w1.heap.size v' ((r.take (k + 1)).map (cls a)) ∧ Ext w1 W') := by
            refine ⟨?_, k2⟩
            rw [HSS.out, List.map_append]
            simp only [List.map_cons, List.map_nil]
            rw [HF.out]; exact k1
          clear k1 k2
          go_wp2
          go_roundw
          case rel => exact ⟨k + 1, by rw [wk], hlt, HO'.out.1, HO'.out.2⟩
          case measure => rw [wk]; simp [intOf]; omega
      · by_cases y1 : a < s2
        · skip
          have HF : Hid (cls a (s1, s2) = (s1, s2 - 1)) := cls_is (by (repeat' split) <;> omega) (by (repeat' split) <;> omega)
          go_upto_region 10 with fail
          have E7 : Ext wr (wr.alloc (.cells #[.int .i64 (s1), .int .i64 (s2 - 1)] 28)) := (Ext.refl _).alloc _
          have m0 : (wr.alloc (.cells #[.int .i64 (s1), .int .i64 (s2 - 1)] 28)).cell? ⟨wr.heap.size, 0, none⟩ = some (.int .i64 (s1)) := by simp [go_sem]
          have m1 : (wr.alloc (.cells #[.int .i64 (s1), .int .i64 (s2 - 1)] 28)).cell? ⟨wr.heap.size, 1, none⟩ = some (.int .i64 (s2 - 1)) := by simp [go_sem]
          generalize wr.alloc (.cells #[.int .i64 (s1), .int .i64 (s2 - 1)] 28) = W7 at *
          generalize wr.heap.size = nb at *
          go_wp2_with (at_builtin; refine bk_append_any _ w1 _ _ _ _ ((r.take k).map (cls a)) [(s1, s2 - 1)] rfl rfl (by rfl) (by rfl) ((HO.out.1.ext E7).ext ((Ext.refl _).alloc _)) (rd_one _ _ _).ra (by have := HLL.out; simp at this ⊢; omega) ((HO.out.2.trans E7).alloc _) ?_; intro v' W' k1 k2)
          have HO' : Hid (Ow W' w1.heap.size v' ((r.take (k + 1)).map (cls a)) ∧ Ext w1 W') := by
            refine ⟨?_, k2⟩
            rw [HSS.out, List.map_append]
            simp only [List.map_cons, List.map_nil]
            rw [HF.out]; exact k1
          clear k1 k2
          go_wp2
          go_roundw
          case rel => exact ⟨k + 1, by rw [wk], hlt, HO'.out.1, HO'.out.2⟩
          case measure => rw [wk]; simp [intOf]; omega
        · skip
          have HF : Hid (cls a (s1, s2) = (s1, s2)) := cls_is (by (repeat' split) <;> omega) (by (repeat' split) <;> omega)
          go_upto_region 10 with fail
          have E7 : Ext wr (wr.alloc (.cells #[.int .i64 (s1), .int .i64 (s2)] 28)) := (Ext.refl _).alloc _
          have m0 : (wr.alloc (.cells #[.int .i64 (s1), .int .i64 (s2)] 28)).cell? ⟨wr.heap.size, 0, none⟩ = some (.int .i64 (s1)) := by simp [go_sem]
          have m1 : (wr.alloc (.cells #[.int .i64 (s1), .int .i64 (s2)] 28)).cell? ⟨wr.heap.size, 1, none⟩ = some (.int .i64 (s2)) := by simp [go_sem]
          generalize wr.alloc (.cells #[.int .i64 (s1), .int .i64 (s2)] 28) = W7 at *
          generalize wr.heap.size = nb at *
          go_wp2_with (at_builtin; refine bk_append_any _ w1 _ _ _ _ ((r.take k).map (cls a)) [(s1, s2)] rfl rfl (by rfl) (by rfl) ((HO.out.1.ext E7).ext ((Ext.refl _).alloc _)) (rd_one _ _ _).ra (by have := HLL.out; simp at this ⊢; omega) ((HO.out.2.trans E7).alloc _) ?_; intro v' W' k1 k2)
          have HO' : Hid (Ow W' w1.heap.size v' ((r.take (k + 1)).map (cls a)) ∧ Ext w1 W') := by
            refine ⟨?_, k2⟩
            rw [HSS.out, List.map_append]
            simp only [List.map_cons, List.map_nil]
            rw [HF.out]; exact k1
          clear k1 k2
          go_wp2
          go_roundw
          case rel => exact ⟨k + 1, by rw [wk], hlt, HO'.out.1, HO'.out.2⟩
          case measure => rw [wk]; simp [intOf]; omega
    · obtain rfl : k = r.length := by omega
      have hO := HO.out.1
      rw [List.take_length] at hO
      obtain ⟨q', c', hv⟩ := hO.rd.form
      rw [List.length_map] at hv
      subst hv
      have HB : Hid (Calls Try.prog 11 #[.int .i64 0, .slice q' r.length c', .slice none 0 0] wr (SetQ wr (2 * ((r.map (cls a)).length + ([] : List Sp).length)) (fOf 0 (r.map (cls a)) []))) := by_any wr 0 _ (.slice none 0 0) (r.map (cls a)) [] (.inl rfl) hO.rd.ra (.inl (Rd.nil wr)) (by have := HA.out.2.1; simp; omega) (by simp) (by
        intro s hs
        obtain ⟨t, ht, rfl⟩ := List.mem_map.1 hs
        obtain ⟨j1, j2⟩ := HA.out.1 t ht
        exact closed_bd a t HP.out.2.2 j1 j2) (by intro s hs; simp at hs)
      clear hO
      go_wp2_with fail
      refine HB.out.mono ?_
      rintro e w2 ⟨v2, z, rfl, z1, z2, z3, z4, z5, z6⟩
      go_wp2_with fail
      go_ret
      refine ⟨_, z, rfl, z1.mono ?_, z2, ?_, z4, ?_, (HA.out.2.2.trans HO.out.2).trans z6⟩
      · have h1 := HA.out.2.2.size; have h2 := HO.out.2.size; omega
      · intro n; rw [z3 n]; exact Bool.or_false _
      · have := HA.out.2.1; simp at z5; omega
end Go.Proofs.Ytgphjbkadjagpaa

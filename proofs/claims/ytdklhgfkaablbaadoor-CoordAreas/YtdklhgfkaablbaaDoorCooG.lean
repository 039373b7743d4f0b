/-
  How references are written: the contracts of package coord's and the document's Print.
-/
import Derived.Test.YtdklhgfkaablbaaDoorCooF
import Derived.Deep.CutBlock
import Derived.Deep.DeepCutAuto
namespace Go.Proofs.YtdklhgfkaablbaaDoor
open Go.RowKit
set_option maxHeartbeats 1000000

/-- A reference's text. -/
def printR (r c : Int) (ar ac : Bool) : List UInt8 := if inB r c then signL ac ++ nameL c ++ signL ar ++ Lib.itoa r else []
theorem in_bd {r c : Int} (h : inB r c = true) : 1 ≤ r ∧ r ≤ 1000 ∧ 1 ≤ c ∧ c ≤ 52 := by
  unfold inB at h; simp at h; omega
theorem sign_sz (b : Bool) : (⟨(signL b).toArray⟩ : ByteArray).size ≤ 1 := by cases b <;> decide
theorem name_sz (c : Int) : (⟨(nameL c).toArray⟩ : ByteArray).size ≤ 2 := by rw [← size_list]; exact name_len c
theorem row_sz (r : Int) (h1 : 1 ≤ r) (h2 : r ≤ 1000) : (⟨(Lib.itoa r).toArray⟩ : ByteArray).size ≤ 4 := by
  obtain ⟨n, rfl⟩ : ∃ n : Nat, r = n := ⟨r.toNat, by omega⟩
  rw [itoa_nat, ← size_list]; exact dec_len4 n (by omega)

set_option maxRecDepth 100000 in
theorem cprint_any (r c : Int) (ar ac : Bool) (hr : I64 r) (hc : I64 c) (w : World) (hT : Tab w) :
    Calls Tryd.prog 11 #[.agg #[.int .i64 r, .int .i64 c, .bool ar, .bool ac]] w fun e w' => e = .returned (.string ⟨(printR r c ar ac).toArray⟩) ∧ Ext w w' := by
  have c0 := fun W => in_any r c W
  have HP : Hid (printR r c ar ac = if inB r c then signL ac ++ nameL c ++ signL ar ++ Lib.itoa r else []) := rfl
  obtain ⟨W0, hW0⟩ : ∃ W0, W0 = w.alloc (.cells #[.int .i64 r, .int .i64 c, .bool ar, .bool ac] 23) := ⟨_, rfl⟩
  have XW : Ext w W0 := by rw [hW0]; exact (Ext.refl _).alloc _
  have B0 : Blk W0 w.heap.size (.int .i64 r) (.int .i64 c) (.bool ar) (.bool ac) := by rw [hW0]; exact blk_top rfl (Ext.refl _)
  have mkS : Hid (∀ W, Ext W0 W → (W.cell? ⟨w.heap.size, 0, none⟩ = some (.int .i64 r) ∧ W.cell? ⟨w.heap.size, 1, none⟩ = some (.int .i64 c) ∧ W.cell? ⟨w.heap.size, 2, none⟩ = some (.bool ar) ∧ W.cell? ⟨w.heap.size, 3, none⟩ = some (.bool ac)) ∧ Ext W0 W) := by
    intro W E
    exact ⟨(B0.ext E).2.1, E⟩
  have hT0 : Tab W0 := hT.ext XW
  have HTT : Hid (∀ W, Ext W0 W → Tab W) := fun W E => hT0.ext E
  cases hin : inB r c
  · rw [hin] at c0 HP
    have HP' : Hid (printR r c ar ac = []) := HP.out
    clear HP mkS HTT hT0 B0
    go_enter Tryd.func11, Tryd.ntmps11
    go_wp2_with fail
    refine (c0 _).mono ?_
    rintro e w1 ⟨rfl, rfl⟩
    go_wp2_with fail
    go_ret
    exact ⟨ret_s (by rw [HP'.out]), (Ext.refl _).alloc _⟩
  · obtain ⟨r1, r2, d1, d2⟩ := in_bd hin
    rw [hin] at c0 HP
    have HP' : Hid (printR r c ar ac = signL ac ++ nameL c ++ signL ar ++ Lib.itoa r) := HP.out
    have cN := fun W => colname_any c hc W
    have cD := fun W h => digitsc_any r hr W h
    have zN := name_sz c
    have zD := row_sz r r1 r2
    have cS := fun b W => sign_any b W
    obtain ⟨sg, hsg⟩ : ∃ sg : Bool → ByteArray, ∀ b, (⟨(signL b).toArray⟩ : ByteArray) = sg b := ⟨_, fun _ => rfl⟩
    have zA : (sg ac).size ≤ 1 := by rw [← hsg]; exact sign_sz ac
    have zB : (sg ar).size ≤ 1 := by rw [← hsg]; exact sign_sz ar
    have HA : Hid (∀ b, (sg b).data.toList = signL b) := fun b => by rw [← hsg]
    simp only [hsg] at cS
    have HN : Hid ((⟨(nameL c).toArray⟩ : ByteArray).data.toList = nameL c) := rfl
    have HD : Hid ((⟨(Lib.itoa r).toArray⟩ : ByteArray).data.toList = Lib.itoa r) := rfl
    generalize (⟨(nameL c).toArray⟩ : ByteArray) = N at cN zN HN
    generalize (⟨(Lib.itoa r).toArray⟩ : ByteArray) = D at cD zD HD
    have n1 : ¬ 9223372036854775807 < (sg ac).size + N.size := by omega
    have n2 : ¬ 9223372036854775807 < (sg ac).size + N.size + (sg ar).size := by omega
    have n3 : ¬ 9223372036854775807 < (sg ac).size + N.size + (sg ar).size + D.size := by omega
    clear HP hsg hin r1 r2 d1 d2 hT hT0 B0
    go_enter Tryd.func11, Tryd.ntmps11
    go_wp2_with fail
    rw [← hW0]
    clear hW0
    refine (c0 _).mono ?_
    rintro e w1 ⟨rfl, rfl⟩
    have B0 := mkS.out w1 (Ext.refl _)
    obtain ⟨⟨k0, k1, k2, k3⟩, _⟩ := B0
    go_wp2_with fail
    go_region_held3 (fun W => (W.cell? ⟨w.heap.size, 0, none⟩ = some (.int .i64 r) ∧ W.cell? ⟨w.heap.size, 1, none⟩ = some (.int .i64 c) ∧ W.cell? ⟨w.heap.size, 2, none⟩ = some (.bool ar) ∧ W.cell? ⟨w.heap.size, 3, none⟩ = some (.bool ac)) ∧ Ext w1 W)
      ((refine mkS.out _ ?_; ((with_reducible (repeat (first | assumption | exact Ext.refl _ | apply Ext.alloc | apply Ext.drew | apply Ext.drewN))); done)))
      (first | (go_at_call 31; refine Calls.mono (cS _ _) ?_; rintro e y1 ⟨rfl, rfl⟩) | (go_at_call 16; refine Calls.mono (cN _) ?_; rintro e y2 ⟨rfl, rfl⟩) | (go_at_call 32; refine Calls.mono (cD _ (HTT.out _ ?hh)) ?_; (case hh => ((with_reducible (repeat (first | assumption | exact Ext.refl _ | apply Ext.alloc | apply Ext.drew | apply Ext.drewN))); done)); rintro e y3 ⟨rfl, E3⟩; have Z3 : Ext w1 y3 := Ext.trans (by ((with_reducible (repeat (first | assumption | exact Ext.refl _ | apply Ext.alloc | apply Ext.drew | apply Ext.drewN))); done)) E3))
    go_wp2_with fail
    go_ret
    exact ⟨ret_s (mkL _ _ (by rw [HP'.out, app_list, app_list, app_list, HN.out, HD.out, HA.out, HA.out])), XW.trans (by assumption)⟩

set_option maxRecDepth 100000 in
theorem rprint6_any (r c : Int) (ar ac : Bool) (hr : I64 r) (hc : I64 c) (w : World) :
    Calls Tryd.prog 14 #[.agg #[.int .i64 r, .int .i64 c, .bool ar, .bool ac]] w fun e w' => e = .returned (.string ⟨(printR r c ar ac).toArray⟩) ∧ Ext w w' := by
  have c0 := fun W => rin_any r c W
  have HP : Hid (printR r c ar ac = if inB r c then signL ac ++ nameL c ++ signL ar ++ Lib.itoa r else []) := rfl
  obtain ⟨W0, hW0⟩ : ∃ W0, W0 = w.alloc (.cells #[.int .i64 r, .int .i64 c, .bool ar, .bool ac] 23) := ⟨_, rfl⟩
  have XW : Ext w W0 := by rw [hW0]; exact (Ext.refl _).alloc _
  have B0 : Blk W0 w.heap.size (.int .i64 r) (.int .i64 c) (.bool ar) (.bool ac) := by rw [hW0]; exact blk_top rfl (Ext.refl _)
  have mkS : Hid (∀ W, Ext W0 W → (W.cell? ⟨w.heap.size, 0, none⟩ = some (.int .i64 r) ∧ W.cell? ⟨w.heap.size, 1, none⟩ = some (.int .i64 c) ∧ W.cell? ⟨w.heap.size, 2, none⟩ = some (.bool ar) ∧ W.cell? ⟨w.heap.size, 3, none⟩ = some (.bool ac)) ∧ Ext W0 W) := by
    intro W E
    exact ⟨(B0.ext E).2.1, E⟩
  cases hin : inB r c
  · rw [hin] at c0 HP
    have HP' : Hid (printR r c ar ac = []) := HP.out
    clear HP mkS B0
    go_enter Tryd.func14, Tryd.ntmps14
    go_wp2_with fail
    refine (c0 _).mono ?_
    rintro e w1 ⟨rfl, rfl⟩
    go_wp2_with fail
    go_ret
    exact ⟨ret_s (by rw [HP'.out]), (Ext.refl _).alloc _⟩
  · obtain ⟨r1, r2, d1, d2⟩ := in_bd hin
    rw [hin] at c0 HP
    have HP' : Hid (printR r c ar ac = signL ac ++ nameL c ++ signL ar ++ Lib.itoa r) := HP.out
    have cN := fun W => rcolname_any c hc W
    have cD := fun W => rdigits_any r hr W
    have zN := name_sz c
    have zD := row_sz r r1 r2
    have HN : Hid ((⟨(nameL c).toArray⟩ : ByteArray).data.toList = nameL c) := rfl
    have HD : Hid ((⟨(Lib.itoa r).toArray⟩ : ByteArray).data.toList = Lib.itoa r) := rfl
    generalize (⟨(nameL c).toArray⟩ : ByteArray) = N at cN zN HN
    generalize (⟨(Lib.itoa r).toArray⟩ : ByteArray) = D at cD zD HD
    clear HP hin r1 r2 d1 d2 B0
    obtain ⟨A, hA⟩ : ∃ A : ByteArray, (⟨#[36]⟩ : ByteArray) = A := ⟨_, rfl⟩
    obtain ⟨B, hB⟩ : ∃ B : ByteArray, (⟨#[]⟩ : ByteArray) = B := ⟨_, rfl⟩
    have zA : A.size = 1 := by rw [← hA]; rfl
    have zB : B.size = 0 := by rw [← hB]; rfl
    have HA : Hid (A.data.toList = [36]) := by show _ = _; rw [← hA]
    have HB : Hid (B.data.toList = []) := by show _ = _; rw [← hB]
    cases ac <;> cases ar
    · have n1 : ¬ 9223372036854775807 < B.size + N.size := by omega
      have n2 : ¬ 9223372036854775807 < B.size + N.size + B.size := by omega
      have n3 : ¬ 9223372036854775807 < B.size + N.size + B.size + D.size := by omega
      clear zA zB
      go_enter Tryd.func14, Tryd.ntmps14
      go_wp2_with fail
      rw [← hW0]
      clear hW0
      refine (c0 _).mono ?_
      rintro e w1 ⟨rfl, rfl⟩
      have B0 := mkS.out w1 (Ext.refl _)
      obtain ⟨⟨k0, k1, k2, k3⟩, _⟩ := B0
      go_wp2_with fail
      go_region_held3 (fun W => (W.cell? ⟨w.heap.size, 0, none⟩ = some (.int .i64 r) ∧ W.cell? ⟨w.heap.size, 1, none⟩ = some (.int .i64 c) ∧ W.cell? ⟨w.heap.size, 2, none⟩ = some (.bool false) ∧ W.cell? ⟨w.heap.size, 3, none⟩ = some (.bool false)) ∧ Ext w1 W)
        ((refine mkS.out _ ?_; ((with_reducible (repeat (first | assumption | exact Ext.refl _ | apply Ext.alloc | apply Ext.drew | apply Ext.drewN))); done)))
        (first | (go_at_call 17; refine Calls.mono (cN _) ?_; rintro e y2 ⟨rfl, E2⟩; have Z2 : Ext w1 y2 := Ext.trans (by ((with_reducible (repeat (first | assumption | exact Ext.refl _ | apply Ext.alloc | apply Ext.drew | apply Ext.drewN))); done)) E2) | (go_at_call 33; refine Calls.mono (cD _) ?_; rintro e y3 ⟨rfl, E3⟩; have Z3 : Ext w1 y3 := Ext.trans (by ((with_reducible (repeat (first | assumption | exact Ext.refl _ | apply Ext.alloc | apply Ext.drew | apply Ext.drewN))); done)) E3))
      go_wp2_with fail
      go_ret
      exact ⟨ret_s (mkL _ _ (by rw [HP'.out, app_list, app_list, app_list, HN.out, HD.out, HB.out]; rfl)), XW.trans (by assumption)⟩
    · have n1 : ¬ 9223372036854775807 < B.size + N.size := by omega
      have n2 : ¬ 9223372036854775807 < B.size + N.size + A.size := by omega
      have n3 : ¬ 9223372036854775807 < B.size + N.size + A.size + D.size := by omega
      clear zA zB
      go_enter Tryd.func14, Tryd.ntmps14
      go_wp2_with fail
      rw [← hW0]
      clear hW0
      refine (c0 _).mono ?_
      rintro e w1 ⟨rfl, rfl⟩
      have B0 := mkS.out w1 (Ext.refl _)
      obtain ⟨⟨k0, k1, k2, k3⟩, _⟩ := B0
      go_wp2_with fail
      go_region_held3 (fun W => (W.cell? ⟨w.heap.size, 0, none⟩ = some (.int .i64 r) ∧ W.cell? ⟨w.heap.size, 1, none⟩ = some (.int .i64 c) ∧ W.cell? ⟨w.heap.size, 2, none⟩ = some (.bool true) ∧ W.cell? ⟨w.heap.size, 3, none⟩ = some (.bool false)) ∧ Ext w1 W)
        ((refine mkS.out _ ?_; ((with_reducible (repeat (first | assumption | exact Ext.refl _ | apply Ext.alloc | apply Ext.drew | apply Ext.drewN))); done)))
        (first | (go_at_call 17; refine Calls.mono (cN _) ?_; rintro e y2 ⟨rfl, E2⟩; have Z2 : Ext w1 y2 := Ext.trans (by ((with_reducible (repeat (first | assumption | exact Ext.refl _ | apply Ext.alloc | apply Ext.drew | apply Ext.drewN))); done)) E2) | (go_at_call 33; refine Calls.mono (cD _) ?_; rintro e y3 ⟨rfl, E3⟩; have Z3 : Ext w1 y3 := Ext.trans (by ((with_reducible (repeat (first | assumption | exact Ext.refl _ | apply Ext.alloc | apply Ext.drew | apply Ext.drewN))); done)) E3))
      go_wp2_with fail
      go_ret
      exact ⟨ret_s (mkL _ _ (by rw [HP'.out, app_list, app_list, app_list, HN.out, HD.out, HB.out, HA.out]; rfl)), XW.trans (by assumption)⟩
    · have n1 : ¬ 9223372036854775807 < A.size + N.size := by omega
      have n2 : ¬ 9223372036854775807 < A.size + N.size + B.size := by omega
      have n3 : ¬ 9223372036854775807 < A.size + N.size + B.size + D.size := by omega
      clear zA zB
      go_enter Tryd.func14, Tryd.ntmps14
      go_wp2_with fail
      rw [← hW0]
      clear hW0
      refine (c0 _).mono ?_
      rintro e w1 ⟨rfl, rfl⟩
      have B0 := mkS.out w1 (Ext.refl _)
      obtain ⟨⟨k0, k1, k2, k3⟩, _⟩ := B0
      go_wp2_with fail
      go_region_held3 (fun W => (W.cell? ⟨w.heap.size, 0, none⟩ = some (.int .i64 r) ∧ W.cell? ⟨w.heap.size, 1, none⟩ = some (.int .i64 c) ∧ W.cell? ⟨w.heap.size, 2, none⟩ = some (.bool false) ∧ W.cell? ⟨w.heap.size, 3, none⟩ = some (.bool true)) ∧ Ext w1 W)
        ((refine mkS.out _ ?_; ((with_reducible (repeat (first | assumption | exact Ext.refl _ | apply Ext.alloc | apply Ext.drew | apply Ext.drewN))); done)))
        (first | (go_at_call 17; refine Calls.mono (cN _) ?_; rintro e y2 ⟨rfl, E2⟩; have Z2 : Ext w1 y2 := Ext.trans (by ((with_reducible (repeat (first | assumption | exact Ext.refl _ | apply Ext.alloc | apply Ext.drew | apply Ext.drewN))); done)) E2) | (go_at_call 33; refine Calls.mono (cD _) ?_; rintro e y3 ⟨rfl, E3⟩; have Z3 : Ext w1 y3 := Ext.trans (by ((with_reducible (repeat (first | assumption | exact Ext.refl _ | apply Ext.alloc | apply Ext.drew | apply Ext.drewN))); done)) E3))
      go_wp2_with fail
      go_ret
      exact ⟨ret_s (mkL _ _ (by rw [HP'.out, app_list, app_list, app_list, HN.out, HD.out, HA.out, HB.out]; rfl)), XW.trans (by assumption)⟩
    · have n1 : ¬ 9223372036854775807 < A.size + N.size := by omega
      have n2 : ¬ 9223372036854775807 < A.size + N.size + A.size := by omega
      have n3 : ¬ 9223372036854775807 < A.size + N.size + A.size + D.size := by omega
      clear zA zB
      go_enter Tryd.func14, Tryd.ntmps14
      go_wp2_with fail
      rw [← hW0]
      clear hW0
      refine (c0 _).mono ?_
      rintro e w1 ⟨rfl, rfl⟩
      have B0 := mkS.out w1 (Ext.refl _)
      obtain ⟨⟨k0, k1, k2, k3⟩, _⟩ := B0
      go_wp2_with fail
      go_region_held3 (fun W => (W.cell? ⟨w.heap.size, 0, none⟩ = some (.int .i64 r) ∧ W.cell? ⟨w.heap.size, 1, none⟩ = some (.int .i64 c) ∧ W.cell? ⟨w.heap.size, 2, none⟩ = some (.bool true) ∧ W.cell? ⟨w.heap.size, 3, none⟩ = some (.bool true)) ∧ Ext w1 W)
        ((refine mkS.out _ ?_; ((with_reducible (repeat (first | assumption | exact Ext.refl _ | apply Ext.alloc | apply Ext.drew | apply Ext.drewN))); done)))
        (first | (go_at_call 17; refine Calls.mono (cN _) ?_; rintro e y2 ⟨rfl, E2⟩; have Z2 : Ext w1 y2 := Ext.trans (by ((with_reducible (repeat (first | assumption | exact Ext.refl _ | apply Ext.alloc | apply Ext.drew | apply Ext.drewN))); done)) E2) | (go_at_call 33; refine Calls.mono (cD _) ?_; rintro e y3 ⟨rfl, E3⟩; have Z3 : Ext w1 y3 := Ext.trans (by ((with_reducible (repeat (first | assumption | exact Ext.refl _ | apply Ext.alloc | apply Ext.drew | apply Ext.drewN))); done)) E3))
      go_wp2_with fail
      go_ret
      exact ⟨ret_s (mkL _ _ (by rw [HP'.out, app_list, app_list, app_list, HN.out, HD.out, HA.out]; rfl)), XW.trans (by assumption)⟩

end Go.Proofs.YtdklhgfkaablbaaDoor

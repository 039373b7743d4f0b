/-
  strings.IndexRune at a rune that is not ASCII over an ASCII text: none.
-/
import Derived.Test.YtdklhgfkaablbaaDoorCooA
import Derived.Test.YtdklhgfkaablbaaDoorShelf
import Derived.Laws.Runes
import Derived.Laws.RangeAny
import Derived.Lib.IndexAny
import Derived.WalkMore
namespace Go.Proofs.YtdklhgfkaablbaaDoor
open Go.RowKit
set_option maxHeartbeats 1000000

theorem ext_iter (w : World) (s : ByteArray) (p : Nat) : Ext w (w.iter s p) := (Ext.refl w).alloc _
theorem vr_eq (r : Int) : Lib.validRune r = Utf8.valid r := by
  rw [validRune_eq]
  first | rfl | (unfold Lib.validRune validRune; rw [Bool.eq_iff_iff]; simp; omega)
theorem index_none (l : List UInt8) (c : UInt8) (h : ∀ b ∈ l, b ≠ c) : Lib.indexByte l c = -1 := by
  have h1 := Lib.indexAny_one c l
  rw [← h1]
  refine Lib.indexAny_none ?_
  intro j b hj hb
  have := h b (List.mem_of_getElem? hb)
  simpa using this

set_option maxRecDepth 100000 in
theorem irune_err (S : ByteArray) (w : World) (hS : ∀ k (h : k < S.size), (S[k]'h).toNat < 128) :
    Calls Tryd.prog 39 #[.string S, .int .i32 65533] w fun e w' => e = .returned (.int .i64 (-1)) ∧ Ext w w' := by
  have HS : Hid (∀ k (h : k < S.size), (S[k]'h).toNat < 128) := hS
  clear hS
  go_enter Tryd.func39, Tryd.ntmps39
  go_wp2_with fail
  go_loopw [5, 6] (fun _ _ wx => ∃ i : Nat, i ≤ S.size ∧ wx = w.iter S i) (fun _ _ wx => S.size - wx.iterPos w.heap.size)
  case atStart => exact ⟨0, Nat.zero_le _, rfl⟩
  case round =>
    obtain ⟨i, hi, rfl⟩ := hrel
    by_cases hlt : i < S.size
    · have hx := HS.out i hlt
      have hnx := fun ty => run_next_ascii (P := Tryd.prog) w S i ty hlt hx
      have h5 : ((S[i].toNat : Int) == 65533) = false := beq_eq_false_iff_ne.2 (by omega)
      have h6 : (S[i].toNat : Int) < 128 := by omega
      clear hx
      go_wp2_with fail
      go_roundw
      case rel => exact ⟨i + 1, by omega, rfl⟩
      case measure => rw [World.iterPos_iter, World.iterPos_iter]; omega
    · obtain rfl : i = S.size := by omega
      have hnx := fun ty => run_next_end (P := Tryd.prog) w S S.size ty hlt
      go_wp2_with fail
      go_ret
      exact ⟨rfl, ext_iter _ _ _⟩

set_option maxRecDepth 100000 in
theorem irune_high (r : Int) (S : ByteArray) (w : World) (h1 : 128 ≤ r) (h2 : r ≤ 2147483647) (h3 : r ≠ 65533) (hm : S.size = 11) (hS : ∀ k (h : k < S.size), (S[k]'h).toNat < 128) :
    Calls Tryd.prog 39 #[.string S, .int .i32 r] w fun e w' => e = .returned (.int .i64 (-1)) ∧ Ext w w' := by
  have c := fun W => Tryd.utf8_ValidRune r W
  rw [vr_eq] at c
  have h4 : (r == 65533) = false := beq_eq_false_iff_ne.2 h3
  have h5 : decide (0 ≤ r) = true := decide_eq_true (by omega)
  have h6 : decide (r < 128) = false := decide_eq_false (by omega)
  have h7 : ¬ r < 128 := by omega
  have h8 : 0 ≤ r := by omega
  cases hv : Utf8.valid r
  · rw [hv] at c
    go_enter Tryd.func39, Tryd.ntmps39
    go_wp2_with fail
    refine (c _).mono ?_
    rintro e w' ⟨rfl, rfl⟩
    go_wp2_with fail
    go_ret
    exact ⟨rfl, Ext.refl _⟩
  · rw [hv] at c
    obtain ⟨f1, f2, f3⟩ := encode_facts r hv h1
    obtain ⟨R, hR⟩ : ∃ R : ByteArray, Utf8.encode r = R := ⟨_, rfl⟩
    rw [hR] at f1 f2
    have f4 : ∀ h : R.size - 1 < R.size, 128 ≤ (R[R.size - 1]'h).toNat := by subst hR; exact f3
    obtain ⟨n, hn⟩ : ∃ n : Nat, R.size = n + 1 := ⟨R.size - 1, by omega⟩
    have hnl : n < R.size := by omega
    have f5 : 128 ≤ (R[n]'hnl).toNat := by
      have := f4 (by omega)
      have e : R.size - 1 = n := by omega
      simpa [e] using this
    have hnS : n < S.size := by omega
    have f6 := hS n hnS
    have hne : ((S[n].toNat : Int) == (R[n].toNat : Int)) = false := beq_eq_false_iff_ne.2 (by omega)
    have hne2 : ((S[n].toNat : Int) != (R[n].toNat : Int)) = true := by rw [bne, hne]; rfl
    have cI := fun W => Tryd.strings_IndexByte (S.extract (n + 1) 11) (R[n].toNat : Int) W
    rw [index_none _ _ (fun b hb e => by
      have hb2 := mem_extract hb
      obtain ⟨k, hk, hkb⟩ := List.getElem_of_mem hb2
      have := hS k (by rw [← size_list]; exact hk)
      have e2 : (S[k]'(by rw [← size_list]; exact hk)) = b := hkb
      rw [e2, e] at this
      simp at this
      omega)] at cI
    have n1 : (n : Int) ≤ 3 := by omega
    have n0 : (0 : Int) ≤ n := by omega
    have hn2 : (R.size : Int) - 1 = n := by omega
    have hnw : IntKind.i64.wrap ((n : Int) + 1) = (n : Int) + 1 := wrap_small _ (by omega) (by omega)
    have hnw1 : 0 ≤ (n : Int) + 1 := by omega
    have hnw2 : (n : Int) + 1 ≤ 11 := by omega
    have hm2 : (S.size : Int) = 11 := by omega
    have f7 : ¬ (R[n].toNat : Int) < 128 := by omega
    clear f3 f4 hS hv f1 f2 hn h1 h2 h3 
    go_enter Tryd.func39, Tryd.ntmps39
    go_wp2_with fail
    refine (c _).mono ?_
    rintro e w' ⟨rfl, rfl⟩
    go_wp2_with fail
    go_step3
    go_wp2_with fail
    go_loopw [9] (fun v9 wx => v9 = .int .i64 (n : Int) ∧ wx = w') (fun _ _ => 0)
    case atStart => exact ⟨rfl, rfl⟩
    case round =>
      obtain ⟨rfl, rfl⟩ := hrel
      go_wp2_with fail
      go_step3
      go_wp2_with fail
      go_quiet (fail)
      go_wp2_with fail
      go_quiet (first | (go_at_call 48; refine Calls.mono (cI _) ?_; rintro e w1 ⟨rfl, rfl⟩; exact ⟨rfl, _, rfl⟩))
      go_wp2_with fail
      rw [Exit.noGoto_ret]
      refine id (α := bodyPost Tryd.prog Tryd.f39 (fun e w' => e = Ending.returned (Value.int IntKind.i64 (-1)) ∧ Ext wr w') Exit.ret _ _) ?_
      go_ret
      exact ⟨rfl, (Ext.refl _).drewN _⟩
end Go.Proofs.YtdklhgfkaablbaaDoor

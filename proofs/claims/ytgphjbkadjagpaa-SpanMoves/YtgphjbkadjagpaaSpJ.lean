/-
  Whether a number is in a list, and how many there are (package span's Has and Count).
-/
import Derived.Test.YtgphjbkadjagpaaSpI
namespace Go.Proofs.Ytgphjbkadjagpaa
open Go.RowKit
set_option maxHeartbeats 2000000

theorem has_closure (s : Sp) (n : Int) (B : Nat) (W : World) (hB : B < W.heap.size) (hc : W.cell? ⟨B, 0, none⟩ = some (.int .i64 n)) :
    Calls Try.prog 28 #[.agg #[.int .i64 s.1, .int .i64 s.2], .pointer (some ⟨B, 0, none⟩)] W fun e w' => e = .returned (.bool (inB s n)) ∧ Ext W w' := by
  have c0 : ∀ o, (W.alloc o).cell? ⟨B, 0, none⟩ = some (.int .i64 n) := fun o => (((Ext.refl W).alloc o).cell.1 B 0 hB).trans hc
  clear hc hB
  obtain ⟨s1, s2⟩ := s
  go_enter Try.func28, Try.ntmps28
  by_cases h1 : s1 ≤ n
  · by_cases h2 : n < s2
    · go_wp2
      go_ret
      exact ⟨ret_bool (by simp [inB, h1, h2]), (Ext.refl _).alloc _⟩
    · go_wp2
      go_ret
      exact ⟨ret_bool (by simp [inB, h1, h2]), (Ext.refl _).alloc _⟩
  · have HX : Hid (inB (s1, s2) n = false) := by show _ = _; simp [inB, h1]
    go_wp2
    go_ret
    exact ⟨ret_bool HX.out.symm, (Ext.refl _).alloc _⟩

theorem index_nil (fv : Value) (w : World) : Calls Try.prog 32 #[.slice none 0 0, fv] w fun e w' => e = .returned (.int .i64 (-1)) ∧ w' = w := by
  go_enter Try.func32, Try.ntmps32
  go_wp2
  refine wp_loop_rounds 1 ?_
  rw [rounds_succ]
  go_wp2
  go_ret
  exact ⟨rfl, rfl⟩
theorem contains_nil (fv : Value) (w : World) : Calls Try.prog 27 #[.slice none 0 0, fv] w fun e w' => e = .returned (.bool false) ∧ w' = w := by
  have c := fun W => index_nil fv W
  go_enter Try.func27, Try.ntmps27
  go_wp2_with fail
  refine (c _).mono ?_
  rintro e w' ⟨rfl, rfl⟩
  go_wp2
  go_ret
  exact ⟨rfl, rfl⟩
theorem contains_any (w : World) (v : Value) (l : List Sp) (n : Int) (B : Nat) (h : Rd w v l) (hl : l.length ≤ 10000) (hB : B < w.heap.size) (hc : w.cell? ⟨B, 0, none⟩ = some (.int .i64 n)) :
    Calls Try.prog 27 #[v, .func (.func 28) #[] #[.pointer (some ⟨B, 0, none⟩)]] w fun e w' => e = .returned (.bool (hasB l n)) ∧ Ext w w' := by
  rcases h with ⟨rfl, rfl⟩ | ⟨b, off, c, rfl, h1, h2, h3⟩
  · refine (contains_nil _ w).mono ?_
    rintro e w' ⟨rfl, rfl⟩
    exact ⟨rfl, Ext.refl _⟩
  · have eg : ∀ args w, (callFunc 28 args).run Try.prog w = .ok (.enter 28 args) w := enters_of Try.func28 (by kernel_rfl) rfl
    have hp : PredBelow Try.prog 28 #[.pointer (some ⟨B, 0, none⟩)] (fun x => .agg (encS x).toArray) (fun s => inB s n) w := fun W x hb => by
      have hE : Ext w W := hb
      exact (has_closure x n B W (Nat.lt_of_lt_of_le hB hE.size) ((hE.cell.1 B 0 hB).trans hc)).mono fun e w' ⟨he, hE'⟩ => ⟨he, hE.trans hE'⟩
    have hcon := AnyQ.slices_ContainsFunc Try.laysContains 2 Try.isAgg28 Try.sizeOf28 encS encS_len (fun s => inB s n) 28 #[.pointer (some ⟨B, 0, none⟩)] eg b off l.length c l w hp (Nat.le_refl _) (by omega) h2 (fun j hj i v hv => by
      have hd : l[j]! = l[j] := getElem!_pos l j hj
      rw [hd] at hv
      have k := h3 j l[j] (List.getElem?_eq_getElem hj)
      match i with
      | 0 => simp [encS] at hv; subst hv; exact k.1
      | 1 => simp [encS] at hv; subst hv; exact k.2
      | i + 2 => simp [encS] at hv)
    rw [List.take_length] at hcon
    exact hcon
theorem has_any (w : World) (v : Value) (l : List Sp) (n : Int) (h : Rd w v l) (hl : l.length ≤ 10000) :
    Calls Try.prog 20 #[v, .int .i64 n] w fun e w' => e = .returned (.bool (hasB l n)) ∧ Ext w w' := by
  have c := contains_any (w.alloc (.cells #[.int .i64 n] 3)) v l n w.heap.size (h.ext ((Ext.refl _).alloc _)) hl (by simp) (by simp [go_sem])
  clear h
  go_enter Try.func20, Try.ntmps20
  go_wp2_with fail
  refine c.mono ?_
  rintro e w' ⟨rfl, E⟩
  have HE : Hid (Ext w w') := ((Ext.refl w).alloc _).trans E
  clear c E
  go_wp2
  go_ret
  exact ⟨rfl, HE.out⟩

theorem cnt_snoc {r : List Sp} {k : Nat} {s : Sp} (h : r[k]? = some s) : cnt (r.take (k + 1)) = cnt (r.take k) + (s.2 - s.1) := by
  rw [take_snoc h, cnt_append]; simp [cnt]

end Go.Proofs.Ytgphjbkadjagpaa

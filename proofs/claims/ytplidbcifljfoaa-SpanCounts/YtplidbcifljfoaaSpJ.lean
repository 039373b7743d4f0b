/-
  Whether a number is in a list, and how many there are (package span's Has and Count).
-/
import Derived.Test.YtplidbcifljfoaaSpI
namespace Go.Proofs.Ytplidbcifljfoaa
open Go.RowKit
set_option maxHeartbeats 2000000

theorem has_closure (s : Sp) (n : Int) (B : Nat) (W : World) (hB : B < W.heap.size) (hc : W.cell? ⟨B, 0, none⟩ = some (.int .i64 n)) :
    Calls Try.prog 35 #[.agg #[.int .i64 s.1, .int .i64 s.2], .pointer (some ⟨B, 0, none⟩)] W fun e w' => e = .returned (.bool (inB s n)) ∧ Ext W w' := by
  have c0 : ∀ o, (W.alloc o).cell? ⟨B, 0, none⟩ = some (.int .i64 n) := fun o => (((Ext.refl W).alloc o).cell.1 B 0 hB).trans hc
  clear hc hB
  obtain ⟨s1, s2⟩ := s
  go_enter Try.func35, Try.ntmps35
  by_cases h1 : s1 ≤ n
  · by_cases h2 : n < s2
    · go_wp2
      go_ret
      exact ⟨ret_bool (by simp [inB, h1, h2]), (Ext.refl _).alloc _⟩
    · go_wp2
      go_ret
      exact ⟨ret_bool (by simp [inB, h1, h2]), (Ext.refl _).alloc _⟩
  · have HX : Hid (inB (s1, s2) n = false) := by show _ = _; simp [inB, h1]
    go_wp2
    go_ret
    exact ⟨ret_bool HX.out.symm, (Ext.refl _).alloc _⟩

theorem index_nil (fv : Value) (w : World) : Calls Try.prog 45 #[.slice none 0 0, fv] w fun e w' => e = .returned (.int .i64 (-1)) ∧ w' = w := by
  go_enter Try.func45, Try.ntmps45
  go_wp2
  refine wp_loop_rounds 1 ?_
  rw [rounds_succ]
  go_wp2
  go_ret
  exact ⟨rfl, rfl⟩
theorem contains_nil (fv : Value) (w : World) : Calls Try.prog 34 #[.slice none 0 0, fv] w fun e w' => e = .returned (.bool false) ∧ w' = w := by
  have c := fun W => index_nil fv W
  go_enter Try.func34, Try.ntmps34
  go_wp2_with fail
  refine (c _).mono ?_
  rintro e w' ⟨rfl, rfl⟩
  go_wp2
  go_ret
  exact ⟨rfl, rfl⟩
theorem contains_any (w : World) (v : Value) (l : List Sp) (n : Int) (B : Nat) (h : Rd w v l) (hl : l.length ≤ 10000) (hB : B < w.heap.size) (hc : w.cell? ⟨B, 0, none⟩ = some (.int .i64 n)) :
    Calls Try.prog 34 #[v, .func (.func 35) #[] #[.pointer (some ⟨B, 0, none⟩)]] w fun e w' => e = .returned (.bool (hasB l n)) ∧ Ext w w' := by
  rcases h with ⟨rfl, rfl⟩ | ⟨b, off, c, rfl, h1, h2, h3⟩
  · refine (contains_nil _ w).mono ?_
    rintro e w' ⟨rfl, rfl⟩
    exact ⟨rfl, Ext.refl _⟩
  · have eg : ∀ args w, (callFunc 35 args).run Try.prog w = .ok (.enter 35 args) w := enters_of Try.func35 (by kernel_rfl) rfl
    have hp : PredBelow Try.prog 35 #[.pointer (some ⟨B, 0, none⟩)] (fun x => .agg (encS x).toArray) (fun s => inB s n) w := fun W x hb => by
      have hE : Ext w W := hb
      exact (has_closure x n B W (Nat.lt_of_lt_of_le hB hE.size) ((hE.cell.1 B 0 hB).trans hc)).mono fun e w' ⟨he, hE'⟩ => ⟨he, hE.trans hE'⟩
    have hcon := AnyQ.slices_ContainsFunc Try.laysContains 2 Try.isAgg32 Try.sizeOf32 encS encS_len (fun s => inB s n) 35 #[.pointer (some ⟨B, 0, none⟩)] eg b off l.length c l w hp (Nat.le_refl _) (by omega) h2 (fun j hj i v hv => by
      have hd : l[j]! = l[j] := getElem!_pos l j hj
      rw [hd] at hv
      have k := h3 j l[j] (List.getElem?_eq_getElem hj)
      match i with
      | 0 => simp [encS] at hv; subst hv; exact k.1
      | 1 => simp [encS] at hv; subst hv; exact k.2
      | i + 2 => simp [encS] at hv)
    rw [List.take_length] at hcon
    exact hcon
theorem has_any (w : World) (v : Value) (l : List Sp) (n : Int) (h : Rd w v l) (hl : l.length ≤ 10000) :
    Calls Try.prog 19 #[v, .int .i64 n] w fun e w' => e = .returned (.bool (hasB l n)) ∧ Ext w w' := by
  have c := contains_any (w.alloc (.cells #[.int .i64 n] 3)) v l n w.heap.size (h.ext ((Ext.refl _).alloc _)) hl (by simp) (by simp [go_sem])
  clear h
  go_enter Try.func19, Try.ntmps19
  go_wp2_with fail
  refine c.mono ?_
  rintro e w' ⟨rfl, E⟩
  have HE : Hid (Ext w w') := ((Ext.refl w).alloc _).trans E
  clear c E
  go_wp2
  go_ret
  exact ⟨rfl, HE.out⟩

theorem cnt_snoc {r : List Sp} {k : Nat} {s : Sp} (h : r[k]? = some s) : cnt (r.take (k + 1)) = cnt (r.take k) + (s.2 - s.1) := by
  rw [take_snoc h, cnt_append]; simp [cnt]

set_option maxRecDepth 100000 in
/-- Count: the plain form's numbers, modulo 2^64. -/
theorem count_any (w : World) (v : Value) (l : List Sp) (h : Rd w v l) (hl : l.length ≤ 1000) (hA : AllI l) :
    Calls Try.prog 24 #[v] w fun e w' => ∃ r, e = .returned (.int .u64 (cnt r % 18446744073709551616)) ∧ Plain r ∧ AllI r ∧ (∀ n, hasB r n = hasB l n) ∧ Ext w w' := by
  have c1 := norm_any w v l h (by omega) hA
  have HL : Hid (l.length ≤ 1000) := hl
  clear h hl hA
  go_enter Try.func24, Try.ntmps24
  go_wp2_with fail
  refine c1.mono ?_
  rintro e w1 ⟨v1, r, rfl, k1, k2, k3, k4, k5, k6⟩
  obtain ⟨p, c, rfl⟩ := k1.rd.form
  have HR : Hid (Rd w1 (.slice p r.length c) r) := k1.rd
  have HP : Hid (Plain r ∧ (∀ n, hasB r n = hasB l n) ∧ AllI r ∧ r.length ≤ l.length ∧ Ext w w1) := ⟨k2, k3, k4, k5, k6⟩
  clear k1 k2 k3 k4 k5 k6 c1
  go_wp2
  go_loopw [9, 3] (fun x u wr => ∃ k : Nat, x = .int .i64 (k : Int) ∧ k ≤ r.length ∧ u = .int .u64 (cnt (r.take k) % 18446744073709551616) ∧ Ext w1 wr) (fun x _ _ => r.length - (intOf x).toNat)
  case atStart => exact ⟨0, rfl, Nat.zero_le _, rfl, Ext.refl _⟩
  case round =>
    obtain ⟨k, rfl, hk, rfl, hE⟩ := hrel
    have HE : Hid (Ext w1 wr) := hE
    clear hE
    rcases Nat.lt_or_ge k r.length with hlt | hge
    · have hltI : (k : Int) < (r.length : Int) := by omega
      obtain ⟨b, off, s, rfl, hs, _, _, hc⟩ := HR.out.at hlt
      obtain ⟨c1, c2⟩ := hc _ HE.out
      have HC : Hid (cnt (r.take (k + 1)) = cnt (r.take k) + (s.2 - s.1)) := cnt_snoc hs
      have wk := wrap_succ k (by have := HL.out; have := HP.out.2.2.2.1; omega)
      clear hs hc
      obtain ⟨s1, s2⟩ := s
      generalize cnt (r.take k) = C at *
      go_wp2
      refine ⟨⟨k + 1, by rw [wk], hlt, ?_, HE.out.alloc _⟩, by rw [wk]; simp [intOf]; omega⟩
      have := HC.out
      rw [this, wrapU, wrapU, wrapU, wrapU]
      congr 1
      omega
    · have hltI : ¬ (k : Int) < (r.length : Int) := by omega
      have HC : Hid (r.take k = r) := List.take_of_length_le hge
      go_wp2
      go_ret
      obtain ⟨p1, p2, p3, p4, p5⟩ := HP.out
      exact ⟨r, by rw [HC.out]; rfl, p1, p3, p2, p5.trans HE.out⟩
end Go.Proofs.Ytplidbcifljfoaa

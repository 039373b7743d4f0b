/-
  The document's Count; how many numbers two lists have together.
-/
import Derived.Test.YtplidbcifljfoaaSpP
import Derived.Test.YtplidbcifljfoaaSpR
namespace Go.Proofs.Ytplidbcifljfoaa
open Go.RowKit
set_option maxHeartbeats 2000000

theorem cnt_two {a b u m : List Sp} (ha : Plain a) (hb : Plain b) (hu : Plain u) (hm : Plain m) (ia : AllI a) (ib : AllI b) (iu : AllI u) (im : AllI m)
    (eu : ∀ n, hasB u n = (hasB a n || hasB b n)) (em : ∀ n, hasB m n = (hasB a n && hasB b n)) : cnt u + cnt m = cnt a + cnt b := by
  obtain ⟨k, hk⟩ : ∃ k : Nat, (k : Int) = 18446744073709551616 := ⟨18446744073709551616, rfl⟩
  have bd : ∀ l : List Sp, AllI l → ∀ s ∈ l, (-9223372036854775808 : Int) ≤ s.1 ∧ s.2 ≤ -9223372036854775808 + (k : Int) := fun l h s hs => by
    obtain ⟨⟨_, _⟩, ⟨_, _⟩⟩ := h s hs
    constructor <;> omega
  have h := card_two (p := hasB a) (q := hasB b) (-9223372036854775808) k
  rw [card_plain ha (bd a ia), card_plain hb (bd b ib), ← card_congr _ eu, ← card_congr _ em, card_plain hu (bd u iu), card_plain hm (bd m im)] at h
  exact h

set_option maxRecDepth 100000 in
theorem rcount_any (w : World) (v : Value) (l : List Sp) (h : Ra w v l) (hl : l.length ≤ 400) (hA : AllI l) :
    Calls Try.prog 25 #[v] w fun e w' => ∃ r, e = .returned (.int .u64 (cnt r % 18446744073709551616)) ∧ Plain r ∧ AllI r ∧ (∀ n, hasB r n = hasB l n) ∧ Ext w w' := by
  have c1 := by_any w 0 v (.slice none 0 0) l [] (.inl rfl) h (.inl (Rd.nil w)) hl (by simp) hA (by intro s hs; simp at hs)
  have HL : Hid (l.length ≤ 400) := hl
  clear h hl hA
  go_enter Try.func25, Try.ntmps25
  go_wp2_with fail
  refine c1.mono ?_
  rintro e w1 ⟨v1, r, rfl, k1, k2, k3, k4, k5, k6⟩
  obtain ⟨p, c, rfl⟩ := k1.rd.form
  have HR : Hid (Rd w1 (.slice p r.length c) r) := k1.rd
  have HP : Hid (Plain r ∧ (∀ n, hasB r n = hasB l n) ∧ AllI r ∧ r.length ≤ 2 * l.length ∧ Ext w w1) := ⟨k2, fun n => by rw [k3]; exact Bool.or_false _, k4, by simpa using k5, k6⟩
  clear k1 k2 k3 k4 k5 k6 c1
  go_wp2
  go_loopw [5, 3] (fun x u wr => ∃ k : Nat, x = .int .i64 (k : Int) ∧ k ≤ r.length ∧ u = .int .u64 (cnt (r.take k) % 18446744073709551616) ∧ Ext w1 wr) (fun x _ _ => r.length - (intOf x).toNat)
  case atStart => exact ⟨0, rfl, Nat.zero_le _, rfl, Ext.refl _⟩
  case round =>
    obtain ⟨k, rfl, hk, rfl, hE⟩ := hrel
    have HE : Hid (Ext w1 wr) := hE
    clear hE
    rcases Nat.lt_or_ge k r.length with hlt | hge
    · have hltI : (k : Int) < (r.length : Int) := by omega
      obtain ⟨b, off, s, rfl, hs, _, _, hc⟩ := HR.out.at hlt
      obtain ⟨c1, c2⟩ := hc _ HE.out
      have HC : Hid (cnt (r.take (k + 1)) = cnt (r.take k) + (s.2 - s.1)) := cnt_snoc hs
      have wk := wrap_succ k (by have := HL.out; have := HP.out.2.2.2.1; omega)
      clear hs hc
      obtain ⟨s1, s2⟩ := s
      generalize cnt (r.take k) = C at *
      go_upto_region 6 with fail
      go_quiet (fail)
      go_wp2
      refine ⟨⟨k + 1, by rw [wk], hlt, ?_, HE.out.drewN _⟩, by rw [wk]; simp [intOf]; omega⟩
      have := HC.out
      rw [this, wrapU, wrapU, wrapU, wrapU]
      congr 1
      omega
    · have hltI : ¬ (k : Int) < (r.length : Int) := by omega
      have HC : Hid (r.take k = r) := List.take_of_length_le hge
      go_wp2
      go_ret
      obtain ⟨p1, p2, p3, p4, p5⟩ := HP.out
      exact ⟨r, by rw [HC.out]; rfl, p1, p3, p2, p5.trans HE.out⟩
end Go.Proofs.Ytplidbcifljfoaa

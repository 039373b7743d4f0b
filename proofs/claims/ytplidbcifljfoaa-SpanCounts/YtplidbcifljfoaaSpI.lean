/-
  The numbers outside a list, and those of the first list alone (package span's outside and Minus).
-/
import Derived.Test.YtplidbcifljfoaaSpH
namespace Go.Proofs.Ytplidbcifljfoaa
open Go.RowKit
set_option maxHeartbeats 2000000

/-- The gaps ahead of fr, k spans having been read. -/
def OutP (r gl : List Sp) (fr : Int) (k : Nat) : Prop :=
  Plain gl ∧ AllI gl ∧ gl.length ≤ k ∧ I64 fr ∧ (∀ n, hasB gl n = (decide (-9223372036854775808 ≤ n) && decide (n < fr) && !hasB (r.take k) n)) ∧ (∀ t ∈ gl, t.1 ≤ fr) ∧ (∀ s ∈ r.take k, s.2 ≤ fr) ∧ (∀ s ∈ r.drop k, fr ≤ s.1)
theorem has_past {l : List Sp} {fr n : Int} (h : ∀ s ∈ l, s.2 ≤ fr) (hn : fr ≤ n) : hasB l n = false := by
  cases hh : hasB l n
  · rfl
  · obtain ⟨s, hs, _, h2⟩ := hasB_iff.mp hh
    have := h s hs; omega
theorem OutP.step {r gl : List Sp} {fr : Int} {k : Nat} {s : Sp} (h : OutP r gl fr k) (hp : Plain r) (hA : AllI r) (hs : r[k]? = some s) : OutP r (lay gl (fr, s.1)) s.2 (k + 1) := by
  obtain ⟨h1, h2, h3, h4, h5, h6, h7, h8⟩ := h
  have hc := drop_cons hs
  have hf := h8 s (by rw [hc]; simp)
  obtain ⟨l1, l2, l3⟩ := lay_plain (s := (fr, s.1)) h1 h6
  have hm : s ∈ r := List.mem_of_getElem? hs
  have hse := hp.2 s hm
  have hd : Plain (s :: r.drop (k + 1)) := by
    rw [← hc]; exact ⟨hp.1.sublist (List.drop_sublist _ _), fun t ht => hp.2 t (List.mem_of_mem_drop ht)⟩
  refine ⟨l1, lay_all h2 h4 (hA s hm).1, by have := (lay_len gl (fr, s.1)).2; omega, (hA s hm).2, fun n => ?_, fun t ht => ?_, fun u hu => ?_, fun u hu => ?_⟩
  · rw [l2, h5, take_snoc hs, hasB_append, hasB_one]
    obtain ⟨g1, g2⟩ := h4
    rcases Int.lt_or_le n fr with hn | hn
    · have e1 : inB (fr, s.1) n = false := by
        cases hh : inB (fr, s.1) n
        · rfl
        · have := inB_iff.mp hh; simp at this; omega
      have e2 : inB s n = false := by
        cases hh : inB s n
        · rfl
        · have := inB_iff.mp hh; omega
      have e3 : decide (n < fr) = true := by simp [hn]
      have e4 : decide (n < s.2) = true := by simp; omega
      rw [e1, e2, e3, e4, Bool.or_false, Bool.or_false]
    · rw [has_past h7 hn]
      apply bool_ext
      simp [inB]
      omega
  · have := l3 t ht
    simp at this
    omega
  · rw [take_snoc hs] at hu
    rcases List.mem_append.mp hu with hu | hu
    · have := h7 u hu; omega
    · simp at hu; subst hu; exact Int.le_refl _
  · have := (plain_cons.mp hd).1 u hu; omega
theorem OutP.last {r gl : List Sp} {fr : Int} {k : Nat} (h : OutP r gl fr k) (hk : r.length ≤ k) :
    Plain (lay gl (fr, 9223372036854775807)) ∧ AllI (lay gl (fr, 9223372036854775807)) ∧ (lay gl (fr, 9223372036854775807)).length ≤ k + 1 ∧ ∀ n, hasB (lay gl (fr, 9223372036854775807)) n = (decide (-9223372036854775808 ≤ n) && decide (n < 9223372036854775807) && !hasB r n) := by
  obtain ⟨h1, h2, h3, h4, h5, h6, h7, h8⟩ := h
  rw [List.take_of_length_le hk] at h5 h7
  obtain ⟨l1, l2, l3⟩ := lay_plain (s := (fr, 9223372036854775807)) h1 h6
  refine ⟨l1, lay_all h2 h4 ⟨by simp, by simp⟩, by have := (lay_len gl (fr, 9223372036854775807)).2; omega, fun n => ?_⟩
  obtain ⟨g1, g2⟩ := h4
  rw [l2, h5]
  rcases Int.lt_or_le n fr with hn | hn
  · have e1 : inB (fr, 9223372036854775807) n = false := by
      cases hh : inB (fr, 9223372036854775807) n
      · rfl
      · have := inB_iff.mp hh; simp at this; omega
    have e3 : decide (n < fr) = true := by simp [hn]
    have e4 : decide (n < 9223372036854775807) = true := by simp; omega
    rw [e1, e3, e4, Bool.or_false]
  · rw [has_past h7 hn]
    apply bool_ext
    simp [inB]
    omega

theorem Bk.new {w : World} {base n : Nat} {v : Value} {l : List Sp} {rst : List Value} (h : Bk w base v l rst) (hn : w.heap.size ≤ n) : v.ownBlock ≠ some n := by
  rcases h with ⟨rfl, _⟩ | ⟨g, cap, cur, rfl, _, hg, _⟩
  · intro e; cases e
  · intro e
    simp [Value.ownBlock] at e
    have := blk_lt hg
    omega
def outB (l : List Sp) (n : Int) : Bool := decide (-9223372036854775808 ≤ n) && decide (n < 9223372036854775807) && !hasB l n
set_option maxRecDepth 100000 in
theorem outside_any (w : World) (v : Value) (l : List Sp) (h : Rd w v l) (hl : l.length ≤ 400) (hA : AllI l) : Calls Try.prog 33 #[v] w (SetQ w (l.length + 1) (outB l)) := by
  have c1 := norm_any w v l h (by omega) hA
  have HL : Hid (l.length ≤ 400) := hl
  clear h hl hA
  go_enter Try.func33, Try.ntmps33
  go_wp2_with fail
  refine c1.mono ?_
  rintro e w1 ⟨v1, r, rfl, k1, k2, k3, k4, k5, k6⟩
  obtain ⟨p, c, rfl⟩ := k1.rd.form
  have HR : Hid (Rd w1 (.slice p r.length c) r) := k1.rd
  have HP : Hid (Plain r ∧ (∀ n, hasB r n = hasB l n) ∧ AllI r ∧ r.length ≤ l.length ∧ Ext w w1) := ⟨k2, k3, k4, k5, k6⟩
  clear k1 k2 k3 k4 k5 k6 c1
  go_wp2
  go_loopw [10, 3, 4] (fun x ug uf wr => ∃ (k : Nat) (gl : List Sp) (fr : Int), x = .int .i64 (k : Int) ∧ k ≤ r.length ∧ uf = .int .i64 fr ∧ Ow wr w1.heap.size ug gl ∧ OutP r gl fr k ∧ Ext w1 wr) (fun x _ _ _ => r.length - (intOf x).toNat)
  case atStart =>
    refine ⟨0, [], -9223372036854775808, rfl, Nat.zero_le _, rfl, ⟨[], .inl ⟨rfl, rfl, rfl⟩⟩, ⟨plain_nil, by intro s hs; simp at hs, by simp, ⟨by simp, by simp⟩, fun n => ?_, by simp, by simp, fun s hs => (HP.out.2.2.1 s (by simpa using hs)).1.1⟩, Ext.refl _⟩
    rw [hasB_nil]
    symm
    simp
    omega
  case round =>
    obtain ⟨k, gl, fr, rfl, hk, rfl, hO, hQ, hE⟩ := hrel
    have HO : Hid (Ow wr w1.heap.size u3 gl ∧ OutP r gl fr k ∧ Ext w1 wr) := ⟨hO, hQ, hE⟩
    clear hO hQ hE
    rcases Nat.lt_or_ge k r.length with hlt | hge
    · have hltI : (k : Int) < (r.length : Int) := by omega
      obtain ⟨b, off, s, rfl, hs, _, _, hc⟩ := HR.out.at hlt
      obtain ⟨c1, c2⟩ := hc _ HO.out.2.2
      have HSS : Hid (r[k]? = some s) := hs
      clear hs hc
      obtain ⟨s1, s2⟩ := s
      go_wp2_with fail
      obtain ⟨⟨rst, hB⟩, hQ, hE⟩ := HO.out
      refine (laid_any w1 _ _ gl rst fr s1 (hB.ext ((Ext.refl wr).alloc _)) (hE.alloc _) (by have := HL.out; have := HP.out.2.2.2.1; have := hQ.2.2.1; omega)).mono ?_
      rintro e w' ⟨v', rst', rfl, q1, q2, _, q4⟩
      have wk := wrap_succ k (by have := HL.out; have := HP.out.2.2.2.1; omega)
      have HO' : Hid (Ow w' w1.heap.size v' (lay gl (fr, s1)) ∧ OutP r (lay gl (fr, s1)) s2 (k + 1) ∧ Ext w1 w') := ⟨⟨rst', q1⟩, hQ.step HP.out.1 HP.out.2.2.1 HSS.out, q2⟩
      have d2 : w'.cell? ⟨wr.heap.size, 1, none⟩ = some (.int .i64 s2) := by
        rw [q4 wr.heap.size 1 (by simp) (hB.new (Nat.le_refl _))]
        simp [go_sem]
      clear q1 q2 q4 hB hQ hE HO
      go_wp2
      go_roundw
      case rel => exact ⟨k + 1, lay gl (fr, s1), s2, by rw [wk], hlt, rfl, HO'.out.1, HO'.out.2.1, HO'.out.2.2⟩
      case measure => rw [wk]; simp [intOf]; omega
    · have hltI : ¬ (k : Int) < (r.length : Int) := by omega
      obtain ⟨⟨rst, hB⟩, hQ, hE⟩ := HO.out
      have cL := laid_any w1 wr u3 gl rst fr 9223372036854775807 hB hE (by have := HL.out; have := HP.out.2.2.2.1; have := hQ.2.2.1; omega)
      clear hB hQ hE
      go_wp2_with fail
      refine cL.mono ?_
      rintro e w' ⟨v', rst', rfl, q1, q2, _, _⟩
      have HQ : Hid (SetQ w (l.length + 1) (outB l) (.returned v') w') := by
        obtain ⟨p1, p2, p3, p4, p5⟩ := HP.out
        obtain ⟨m1, m2, m3, m4⟩ := HO.out.2.1.last hge
        exact ⟨v', _, rfl, Ow.mono ⟨rst', q1⟩ p5.size, m1, fun n => by rw [m4, p2]; rfl, m2, by omega, p5.trans q2⟩
      clear cL q1 q2
      go_wp2
      go_ret
      exact HQ.out

theorem minus_any (w : World) (va vb : Value) (a b : List Sp) (ha : Rd w va a) (hb : Rd w vb b) (la : a.length ≤ 400) (lb : b.length ≤ 400) (Aa : AllI a) (Ab : AllI b) :
    Calls Try.prog 16 #[va, vb] w (SetQ w (a.length + b.length + 1) (fun n => hasB a n && !hasB b n)) := by
  have c1 := outside_any w vb b hb lb Ab
  have HA : Hid (Rd w va a ∧ AllI a) := ⟨ha, Aa⟩
  have HL : Hid (a.length ≤ 400 ∧ b.length ≤ 400) := ⟨la, lb⟩
  clear ha hb la lb Aa Ab
  go_enter Try.func16, Try.ntmps16
  go_wp2_with fail
  refine c1.mono ?_
  rintro e w1 ⟨v1, r, rfl, k1, k2, k3, k4, k5, k6⟩
  have c2 := meet_any w1 va v1 a r (HA.out.1.ext k6) k1.rd (by have := HL.out; omega) (by have := HL.out; omega) HA.out.2 k4
  have HE : Hid (Ext w w1 ∧ (∀ n, hasB r n = outB b n) ∧ r.length ≤ b.length + 1) := ⟨k6, k3, k5⟩
  clear k1 k2 k3 k4 k5 k6 c1
  go_wp2_with fail
  refine c2.mono ?_
  rintro e w2 ⟨v2, r2, rfl, k1, k2, k3, k4, k5, k6⟩
  have HQ : Hid (SetQ w (a.length + b.length + 1) (fun n => hasB a n && !hasB b n) (.returned v2) w2) := by
    obtain ⟨e1, e2, e3⟩ := HE.out
    refine ⟨v2, r2, rfl, k1.mono e1.size, k2, fun n => ?_, k4, by omega, e1.trans k6⟩
    rw [k3]
    show (hasB a n && hasB r n) = (hasB a n && !hasB b n)
    rw [e2]
    cases hh : hasB a n
    · rfl
    · obtain ⟨s, hs, h1, h2⟩ := hasB_iff.mp hh
      obtain ⟨⟨i1, i2⟩, ⟨i3, i4⟩⟩ := HA.out.2 s hs
      have e4 : decide (-9223372036854775808 ≤ n) = true := by simp; omega
      have e5 : decide (n < 9223372036854775807) = true := by simp; omega
      unfold outB
      rw [e4, e5]; rfl
  clear k1 k2 k3 k4 k5 k6 c2
  go_wp2
  go_ret
  exact HQ.out
end Go.Proofs.Ytplidbcifljfoaa

/-
  The numbers of both lists (package span's Meet).
-/
import Derived.Test.YtplidbcifljfoaaSpG
namespace Go.Proofs.Ytplidbcifljfoaa
open Go.RowKit
set_option maxHeartbeats 2000000

theorem Rd.head {w : World} {v : Value} {s : Sp} {l : List Sp} (h : Rd w v (s :: l)) : ∃ b off c, v = .slice (some ⟨b, off, none⟩) (l.length + 1) (c + 1) ∧ l.length ≤ c ∧ b < w.heap.size ∧
    (∀ W, Ext w W → W.cell? ⟨b, off, none⟩ = some (.int .i64 s.1) ∧ W.cell? ⟨b, off + 1, none⟩ = some (.int .i64 s.2)) ∧ Rd w (.slice (if c = 0 then some ⟨b, off, none⟩ else some ⟨b, off + 2, none⟩) l.length c) l := by
  rcases h with ⟨_, h2⟩ | ⟨b, off, c, rfl, h1, h2, h3⟩
  · cases h2
  · simp at h1
    obtain ⟨c', rfl⟩ : ∃ c', c = c' + 1 := ⟨c - 1, by omega⟩
    refine ⟨b, off, c', rfl, by omega, h2, fun W e => ?_, ?_⟩
    · have := h3 0 s rfl
      simp at this
      exact ⟨(e.cell.1 b _ h2).trans this.1, (e.cell.1 b _ h2).trans this.2⟩
    by_cases hc : c' = 0
    · rw [if_pos hc]
      have hl : l = [] := List.eq_nil_of_length_eq_zero (by omega)
      subst hl
      exact .inr ⟨b, off, c', rfl, by simp, h2, fun i t ht => by simp at ht⟩
    · rw [if_neg hc]
      refine .inr ⟨b, off + 2, c', rfl, by omega, h2, fun i t ht => ?_⟩
      have := h3 (i + 1) t (by simpa using ht)
      have e1 : off + (i + 1) * 2 = off + 2 + i * 2 := by omega
      rw [e1] at this
      exact this

def lenV : Value → Nat
  | .slice _ n _ => n
  | _ => 0
/-- The rounds of Meet. -/
def MeetR (w w2 : World) (N : Nat) (f : Int → Bool) (ua ub ur : Value) (wr : World) : Prop :=
  ∃ a b r, Rd w2 ua a ∧ Rd w2 ub b ∧ Ow wr w2.heap.size ur r ∧ Ext w2 wr ∧ Ext w w2 ∧ Plain a ∧ Plain b ∧ AllI a ∧ AllI b ∧ Plain r ∧ AllI r ∧ (∀ n, (hasB r n || (hasB a n && hasB b n)) = f n) ∧ (∀ t ∈ r, ∀ s ∈ a, ∀ u ∈ b, t.1 ≤ max s.1 u.1) ∧ r.length + a.length + b.length ≤ N

theorem MeetR.drewN {w w2 : World} {N : Nat} {f : Int → Bool} {ua ub ur : Value} {wr : World} (h : MeetR w w2 N f ua ub ur wr) (n : Nat) : MeetR w w2 N f ua ub ur (wr.drewN n) := by
  obtain ⟨a, b, r, h1, h2, h3, h4, h5⟩ := h
  exact ⟨a, b, r, h1, h2, h3.ext ((Ext.refl _).drewN n), h4.drewN n, h5⟩
theorem meet_step {a b r : List Sp} {s u : Sp} (pa : Plain (s :: a)) (pb : Plain (u :: b)) (pr : Plain r) (ho : ∀ t ∈ r, ∀ s' ∈ s :: a, ∀ u' ∈ u :: b, t.1 ≤ max s'.1 u'.1) :
    Plain (lay r (max s.1 u.1, min s.2 u.2)) ∧
    (s.2 < u.2 → (∀ n, (hasB (lay r (max s.1 u.1, min s.2 u.2)) n || (hasB a n && hasB (u :: b) n)) = (hasB r n || (hasB (s :: a) n && hasB (u :: b) n))) ∧ ∀ t ∈ lay r (max s.1 u.1, min s.2 u.2), ∀ s' ∈ a, ∀ u' ∈ u :: b, t.1 ≤ max s'.1 u'.1) ∧
    (¬ s.2 < u.2 → (∀ n, (hasB (lay r (max s.1 u.1, min s.2 u.2)) n || (hasB (s :: a) n && hasB b n)) = (hasB r n || (hasB (s :: a) n && hasB (u :: b) n))) ∧ ∀ t ∈ lay r (max s.1 u.1, min s.2 u.2), ∀ s' ∈ s :: a, ∀ u' ∈ b, t.1 ≤ max s'.1 u'.1) := by
  obtain ⟨l1, l2, l3⟩ := lay_plain (s := (max s.1 u.1, min s.2 u.2)) pr (fun t ht => ho t ht s (by simp) u (by simp))
  obtain ⟨a1, a2, a3⟩ := plain_cons.mp pa
  obtain ⟨b1, b2, b3⟩ := plain_cons.mp pb
  refine ⟨l1, fun hlt => ⟨fun n => ?_, fun t ht s' hs u' hu => ?_⟩, fun hlt => ⟨fun n => ?_, fun t ht s' hs u' hu => ?_⟩⟩
  · rw [l2, Bool.or_assoc]
    congr 1
    rw [hasB_cons s a]
    apply bool_ext
    simp only [Bool.or_eq_true, Bool.and_eq_true, inB_iff, hasB_iff]
    constructor
    · rintro (h | h)
      · exact ⟨.inl (by omega), u, by simp, by omega⟩
      · exact ⟨.inr h.1, h.2⟩
    · rintro ⟨h1 | h1, x, hx, h2⟩
      · rcases List.mem_cons.mp hx with rfl | hx
        · left; omega
        · have := b1 x hx; omega
      · exact .inr ⟨h1, x, hx, h2⟩
  · have := l3 t ht
    have h3 := a1 s' hs
    have h4 : u.1 ≤ u'.1 := by
      rcases List.mem_cons.mp hu with rfl | hu
      · omega
      · have := b1 u' hu; omega
    omega
  · rw [l2, Bool.or_assoc]
    congr 1
    rw [hasB_cons u b]
    apply bool_ext
    simp only [Bool.or_eq_true, Bool.and_eq_true, inB_iff, hasB_iff]
    constructor
    · rintro (h | h)
      · exact ⟨⟨s, by simp, by omega⟩, .inl (by omega)⟩
      · exact ⟨h.1, .inr h.2⟩
    · rintro ⟨⟨x, hx, h2⟩, h1 | h1⟩
      · rcases List.mem_cons.mp hx with rfl | hx
        · left; omega
        · have := a1 x hx; omega
      · exact .inr ⟨⟨x, hx, h2⟩, h1⟩
  · have := l3 t ht
    have h3 := b1 u' hu
    have h4 : s.1 ≤ s'.1 := by
      rcases List.mem_cons.mp hs with rfl | hs
      · omega
      · have := a1 s' hs; omega
    omega

set_option maxRecDepth 100000 in
theorem meet_any (w : World) (va vb : Value) (a b : List Sp) (ha : Rd w va a) (hb : Rd w vb b) (la : a.length ≤ 450) (lb : b.length ≤ 450) (Aa : AllI a) (Ab : AllI b) :
    Calls Try.prog 15 #[va, vb] w (SetQ w (a.length + b.length) (fun n => hasB a n && hasB b n)) := by
  have c1 := norm_any w va a ha (by omega) Aa
  have HB : Hid (Rd w vb b ∧ AllI b) := ⟨hb, Ab⟩
  have HL : Hid (a.length ≤ 450 ∧ b.length ≤ 450) := ⟨la, lb⟩
  clear ha hb la lb Aa Ab
  generalize hf : (fun n => hasB a n && hasB b n) = f
  generalize hN : a.length + b.length = N
  have HF : Hid ((fun n => hasB a n && hasB b n) = f ∧ a.length + b.length = N) := ⟨hf, hN⟩
  clear hf hN
  go_enter Try.func15, Try.ntmps15
  go_wp2_with fail
  refine c1.mono ?_
  rintro e w1 ⟨v1, r1, rfl, k1, k2, k3, k4, k5, k6⟩
  have H1 : Hid (Ow w1 w.heap.size v1 r1 ∧ Plain r1 ∧ (∀ n, hasB r1 n = hasB a n) ∧ AllI r1 ∧ r1.length ≤ a.length ∧ Ext w w1) := ⟨k1, k2, k3, k4, k5, k6⟩
  have c2 := norm_any w1 vb b (HB.out.1.ext k6) (by have := HL.out; omega) HB.out.2
  clear k1 k2 k3 k4 k5 k6 c1
  go_wp2_with fail
  refine c2.mono ?_
  rintro e w2 ⟨v2, r2, rfl, k1, k2, k3, k4, k5, k6⟩
  have HM : Hid (MeetR w w2 N f v1 v2 (.slice none 0 0) w2) := by
    obtain ⟨hf, hN⟩ := HF.out
    subst hf hN
    obtain ⟨j1, j2, j3, j4, j5, j6⟩ := H1.out
    exact ⟨r1, r2, [], (j1.ext k6).rd, k1.rd, ⟨[], .inl ⟨rfl, rfl, rfl⟩⟩, Ext.refl _, j6.trans k6, j2, k2, j4, k4, plain_nil, by intro s hs; simp at hs, fun n => by rw [j3, k3]; rfl, by intro t ht; simp at ht, by simp; omega⟩
  clear k1 k2 k3 k4 k5 k6 c2 H1 HB
  have HN : Hid (N ≤ 900) := by have := HL.out; have := HF.out.2; show N ≤ 900; omega
  clear HF HL
  go_wp2
  go_loopw [0, 1, 5] (fun ua ub ur wr => MeetR w w2 N f ua ub ur wr) (fun ua ub _ _ => lenV ua + lenV ub)
  case atStart => exact HM.out
  case round =>
    obtain ⟨a', b', r, ra, rb, ro, e1, e0, pa, pb, ia, ib, pr, ir, hf, ho, hn⟩ := hrel
    have fin : (∀ n, hasB r n = f n) → SetQ w N f (.returned u5) wr := fun h => ⟨u5, r, rfl, ro.mono e0.size, pr, h, ir, by omega, e0.trans e1⟩
    cases a' with
    | nil =>
      have HQ : Hid (SetQ w N f (.returned u5) wr) := fin fun n => by rw [← hf n]; simp [hasB_nil]
      obtain ⟨p, c, rfl⟩ := ra.form
      clear ra rb ro e1 e0 pa pb ia ib pr ir hf ho hn fin HM
      go_wp2
      go_ret
      exact HQ.out
    | cons s a' =>
      cases b' with
      | nil =>
        have HQ : Hid (SetQ w N f (.returned u5) wr) := fin fun n => by rw [← hf n]; simp [hasB_nil]
        obtain ⟨p, c, rfl⟩ := ra.form
        obtain ⟨q, d, rfl⟩ := rb.form
        clear ra rb ro e1 e0 pa pb ia ib pr ir hf ho hn fin HM
        have h0 : (0 : Int) < ((s :: a').length : Int) := by simp
        go_wp2
        go_ret
        exact HQ.out
      | cons u b' =>
        obtain ⟨ba, oa, ca, rfl, hca, hba, ca', rta⟩ := ra.head
        obtain ⟨bb, ob, cb, rfl, hcb, hbb, cb', rtb⟩ := rb.head
        obtain ⟨s1, s2⟩ := s
        obtain ⟨t1, t2⟩ := u
        have HS := meet_step pa pb pr ho
        simp only [] at ca' cb' HS
        have HW : Hid (Ow wr w2.heap.size u5 r ∧ Ext w2 wr) := ⟨ro, e1⟩
        have HRR : Hid (r.length ≤ 900) := by have := HN.out; show r.length ≤ 900; omega
        clear fin ro e1
        have h0 : (0 : Int) < ((a'.length : Int) + 1) := by omega
        have h1 : (0 : Int) < ((b'.length : Int) + 1) := by omega
        have cL := fun (W : World) (h : Ow W w2.heap.size u5 r ∧ Ext w2 W) => (h.1.elim fun rst hB => (laid_any w2 W u5 r rst (max s1 t1) (min s2 t2) hB h.2 (by have := HRR.out; omega)).mono fun e w' hq => (show ∃ v', e = .returned v' ∧ Ow w' w2.heap.size v' (lay r (max s1 t1, min s2 t2)) ∧ Ext w2 w' from hq.elim fun v' h => h.elim fun rst' h => ⟨v', h.1, ⟨rst', h.2.1⟩, h.2.2.1⟩))
        go_upto_region 4 with fail
        have HK : Hid (∀ W', Ext w2 W' → Ext w2 W' ∧ (W'.cell? ⟨ba, oa, none⟩ = some (.int .i64 s1) ∧ W'.cell? ⟨ba, oa + 1, none⟩ = some (.int .i64 s2)) ∧ (W'.cell? ⟨bb, ob, none⟩ = some (.int .i64 t1) ∧ W'.cell? ⟨bb, ob + 1, none⟩ = some (.int .i64 t2))) :=
          fun W' e => ⟨e, ca' W' e, cb' W' e⟩
        clear ca' cb'
        go_region_held3 (fun W => Ext w2 W ∧ (W.cell? ⟨ba, oa, none⟩ = some (.int .i64 s1) ∧ W.cell? ⟨ba, oa + 1, none⟩ = some (.int .i64 s2)) ∧ (W.cell? ⟨bb, ob, none⟩ = some (.int .i64 t1) ∧ W.cell? ⟨bb, ob + 1, none⟩ = some (.int .i64 t2)))
          (first | assumption | exact HK.out _ HW.out.2.drew | (refine HK.out _ ?_; assumption))
          (first | (go_at_call 30; refine (cL _ ⟨HW.out.1.ext (Ext.refl _).drew, HW.out.2.drew⟩).mono ?_; rintro e w4 ⟨v4, rfl, O4, E4⟩))
        all_goals
          have HO4 : Hid (Ow w4 w2.heap.size v4 (lay r (max s1 t1, min s2 t2)) ∧ Ext w2 w4) := ⟨O4, E4⟩
          obtain ⟨_, ⟨_, x2⟩, _, x4⟩ := HK.out w4 E4
          clear O4 E4 cL
          have il : AllI (lay r (max s1 t1, min s2 t2)) := by
            obtain ⟨⟨_, _⟩, ⟨_, _⟩⟩ := ia (s1, s2) (by simp)
            obtain ⟨⟨_, _⟩, ⟨_, _⟩⟩ := ib (t1, t2) (by simp)
            exact lay_all ir ⟨by simp at *; omega, by simp at *; omega⟩ ⟨by simp at *; omega, by simp at *; omega⟩
          have ll := (lay_len r (max s1 t1, min s2 t2)).2
          by_cases hlt : s2 < t2
          · have HM' : Hid (MeetR w w2 N f (.slice (if ca = 0 then some ⟨ba, oa, none⟩ else some ⟨ba, oa + 2, none⟩) a'.length ca) (.slice (some ⟨bb, ob, none⟩) (b'.length + 1) (cb + 1)) v4 w4) := by
              obtain ⟨q1, q2, _⟩ := HS
              obtain ⟨q3, q4⟩ := q2 hlt
              exact ⟨a', (t1, t2) :: b', _, rta, rb, HO4.out.1, HO4.out.2, e0, (plain_cons.mp pa).2.2, pb, fun s hs => ia s (by simp [hs]), ib, q1, il, fun n => by rw [q3, hf], q4, by simp at hn ⊢; omega⟩
            clear HS HW HM e0 pa pb ia ib pr ir hf ho hn il ll HO4 ra rb rta rtb HK
            go_upto_region 5 with fail
            go_quiet (fail)
            go_wp2
            exact ⟨HM'.out.drewN _, by simp [lenV]⟩
          · have HM' : Hid (MeetR w w2 N f (.slice (some ⟨ba, oa, none⟩) (a'.length + 1) (ca + 1)) (.slice (if cb = 0 then some ⟨bb, ob, none⟩ else some ⟨bb, ob + 2, none⟩) b'.length cb) v4 w4) := by
              obtain ⟨q1, _, q5⟩ := HS
              obtain ⟨q3, q4⟩ := q5 (by omega)
              exact ⟨(s1, s2) :: a', b', _, ra, rtb, HO4.out.1, HO4.out.2, e0, pa, (plain_cons.mp pb).2.2, ia, fun s hs => ib s (by simp [hs]), q1, il, fun n => by rw [q3, hf], q4, by simp at hn ⊢; omega⟩
            clear HS HW HM e0 pa pb ia ib pr ir hf ho hn il ll HO4 ra rb rta rtb HK
            go_upto_region 5 with fail
            go_quiet (fail)
            go_wp2
            exact ⟨HM'.out.drewN _, by simp [lenV]⟩
end Go.Proofs.Ytplidbcifljfoaa

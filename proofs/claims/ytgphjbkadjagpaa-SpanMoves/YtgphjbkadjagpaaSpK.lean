/-
  A place that comes or goes (package span's shifted, Opened, Closed).
-/
import Derived.Test.YtgphjbkadjagpaaSpJ
namespace Go.Proofs.Ytgphjbkadjagpaa
open Go.RowKit
set_option maxHeartbeats 2000000

def mor (n : Int) : Int := if n = 9223372036854775807 then n else n + 1
def opn (a : Int) (s : Sp) : Sp := (if a ≤ s.1 then mor s.1 else s.1, if a < s.2 then mor s.2 else s.2)
def cls (a : Int) (s : Sp) : Sp := (if a < s.1 then s.1 - 1 else s.1, if a < s.2 then s.2 - 1 else s.2)

/-- The rounds of shifted. -/
def ShP (r : List Sp) (f : Sp → Sp) (k : Nat) (o : List Sp) : Prop :=
  Plain o ∧ AllI o ∧ (∀ n, hasB o n = hasB ((r.take k).map f) n) ∧ (∀ t ∈ o, ∀ s ∈ r.drop k, t.1 ≤ (f s).1) ∧ o.length ≤ k
theorem ShP.step {r o : List Sp} {f : Sp → Sp} {k : Nat} {s : Sp} (h : ShP r f k o) (hp : Plain r) (hs : r[k]? = some s) (hm : ∀ s t : Sp, s.1 ≤ t.1 → (f s).1 ≤ (f t).1) (hI : I64 (f s).1 ∧ I64 (f s).2) : ShP r f (k + 1) (lay o (f s)) := by
  obtain ⟨h1, h2, h3, h4, h5⟩ := h
  have hc := drop_cons hs
  obtain ⟨l1, l2, l3⟩ := lay_plain h1 (fun t ht => h4 t ht s (by rw [hc]; simp))
  refine ⟨l1, lay_all h2 hI.1 hI.2, fun n => ?_, fun t ht u hu => ?_, by have := (lay_len o (f s)).2; omega⟩
  · rw [l2, h3, take_snoc hs, List.map_append, hasB_append]
    congr 1
    exact (hasB_one _ n).symm
  · have := l3 t ht
    have hd : Plain (s :: r.drop (k + 1)) := by
      rw [← hc]; exact ⟨hp.1.sublist (List.drop_sublist _ _), fun t ht => hp.2 t (List.mem_of_mem_drop ht)⟩
    obtain ⟨d1, d2, _⟩ := plain_cons.mp hd
    have := hm s u (by have := d1 u hu; omega)
    omega

set_option maxRecDepth 100000 in
theorem shifted_any (w : World) (v : Value) (l p : List Sp) (f : Sp → Sp) (g B : Nat) (eg : ∀ args w, (callFunc g args).run Try.prog w = .ok (.enter g args) w) (h : Rd w v l) (hl : l.length ≤ 1000) (hA : AllI l) (hp : Plain p) (hpl : ∀ n, hasB p n = hasB l n)
    (hm : ∀ s t : Sp, s.1 ≤ t.1 → (f s).1 ≤ (f t).1) (hI : ∀ s : Sp, I64 s.1 → I64 s.2 → I64 (f s).1 ∧ I64 (f s).2)
    (hf : ∀ (W : World) (s1 s2 : Int), I64 s1 → I64 s2 → Ext w W → Calls Try.prog g #[.agg #[.int .i64 s1, .int .i64 s2], .pointer (some ⟨B, 0, none⟩)] W fun e w' => e = .returned (.agg #[.int .i64 (f (s1, s2)).1, .int .i64 (f (s1, s2)).2]) ∧ Ext W w') :
    Calls Try.prog 13 #[v, .func (.func g) #[] #[.pointer (some ⟨B, 0, none⟩)]] w (SetQ w l.length (fun n => hasB (p.map f) n)) := by
  have c1 := norm_any w v l h (by omega) hA
  have HL : Hid (l.length ≤ 1000) := hl
  have HP : Hid (Plain p ∧ ∀ n, hasB p n = hasB l n) := ⟨hp, hpl⟩
  have HM : Hid ((∀ s t : Sp, s.1 ≤ t.1 → (f s).1 ≤ (f t).1) ∧ (∀ s : Sp, I64 s.1 → I64 s.2 → I64 (f s).1 ∧ I64 (f s).2)) := ⟨hm, hI⟩
  have HF : Hid (∀ (W : World) (s1 s2 : Int), I64 s1 → I64 s2 → Ext w W → Calls Try.prog g #[.agg #[.int .i64 s1, .int .i64 s2], .pointer (some ⟨B, 0, none⟩)] W fun e w' => e = .returned (.agg #[.int .i64 (f (s1, s2)).1, .int .i64 (f (s1, s2)).2]) ∧ Ext W w') := hf
  clear h hl hA hp hpl hm hI hf
  go_enter Try.func13, Try.ntmps13
  go_wp2_with fail
  refine c1.mono ?_
  rintro e w1 ⟨v1, r, rfl, k1, k2, k3, k4, k5, k6⟩
  have hrp : r = p := plain_one k2 HP.out.1 fun n => by rw [k3, HP.out.2]
  subst hrp
  obtain ⟨q, c, rfl⟩ := k1.rd.form
  have HR : Hid (Rd w1 (.slice q r.length c) r) := k1.rd
  have HA : Hid (AllI r ∧ r.length ≤ l.length ∧ Ext w w1) := ⟨k4, k5, k6⟩
  clear k1 k2 k3 k4 k5 k6 c1
  go_wp2
  go_loopw [11, 5] (fun x u wr => ∃ (k : Nat) (o : List Sp), x = .int .i64 (k : Int) ∧ k ≤ r.length ∧ Ow wr w1.heap.size u o ∧ ShP r f k o ∧ Ext w1 wr) (fun x _ _ => r.length - (intOf x).toNat)
  case atStart => exact ⟨0, [], rfl, Nat.zero_le _, ⟨[], .inl ⟨rfl, rfl, rfl⟩⟩, ⟨plain_nil, by intro s hs; simp at hs, fun _ => rfl, by intro t ht; simp at ht, Nat.le_refl _⟩, Ext.refl _⟩
  case round =>
    obtain ⟨k, o, rfl, hk, hO, hS, hE⟩ := hrel
    have HO : Hid (Ow wr w1.heap.size u5 o ∧ ShP r f k o ∧ Ext w1 wr) := ⟨hO, hS, hE⟩
    clear hO hS hE
    rcases Nat.lt_or_ge k r.length with hlt | hge
    · have hltI : (k : Int) < (r.length : Int) := by omega
      obtain ⟨b, off, s, rfl, hs, _, _, hc⟩ := HR.out.at hlt
      obtain ⟨c1, c2⟩ := hc _ HO.out.2.2
      have HSS : Hid (r[k]? = some s) := hs
      have wk := wrap_succ k (by have := HL.out; have := HA.out.2.1; omega)
      clear hs hc
      obtain ⟨s1, s2⟩ := s
      have hi := HA.out.1 (s1, s2) (List.mem_of_getElem? HSS.out)
      have HI : Hid (I64 s1 ∧ I64 s2) := hi
      clear hi
      go_wp2_with fail
      refine (HF.out _ s1 s2 HI.out.1 HI.out.2 ((HA.out.2.2.trans HO.out.2.2).alloc _)).mono ?_
      rintro e w2 ⟨rfl, E2⟩
      have HE2 : Hid (Ext wr w2) := ((Ext.refl wr).alloc _).trans E2
      obtain ⟨⟨rst, hB⟩, _, hE⟩ := HO.out
      have cL := laid_any w1 w2 u5 o rst (f (s1, s2)).1 (f (s1, s2)).2 (hB.ext HE2.out) (hE.trans HE2.out) (by have := HL.out; have := HA.out.2.1; have := HO.out.2.1.2.2.2.2; omega)
      clear hB hE E2
      generalize hfs : (f (s1, s2)).1 = f1 at *
      generalize hft : (f (s1, s2)).2 = f2 at *
      go_wp2_with fail
      refine cL.mono ?_
      rintro e w' ⟨v', rst', rfl, q1, q2, _, _⟩
      have HO' : Hid (Ow w' w1.heap.size v' (lay o (f1, f2)) ∧ ShP r f (k + 1) (lay o (f1, f2)) ∧ Ext w1 w') := by
        refine ⟨⟨rst', q1⟩, ?_, q2⟩
        have e : (f1, f2) = f (s1, s2) := by rw [← hfs, ← hft]
        rw [e]
        exact HO.out.2.1.step HP.out.1 HSS.out HM.out.1 (HM.out.2 _ HI.out.1 HI.out.2)
      clear q1 q2 cL HO hfs hft
      go_wp2
      go_roundw
      case rel => exact ⟨k + 1, _, by rw [wk], hlt, HO'.out.1, HO'.out.2.1, HO'.out.2.2⟩
      case measure => rw [wk]; simp [intOf]; omega
    · have hltI : ¬ (k : Int) < (r.length : Int) := by omega
      have HQ : Hid (SetQ w l.length (fun n => hasB (r.map f) n) (.returned u5) wr) := by
        obtain ⟨h1, ⟨h2, h3, h4, h5, h6⟩, h7⟩ := HO.out
        exact ⟨u5, o, rfl, h1.mono HA.out.2.2.size, h2, fun n => by rw [h4, List.take_of_length_le hge], h3, by have := HA.out.2.1; omega, HA.out.2.2.trans h7⟩
      go_wp2
      go_ret
      exact HQ.out

theorem more_any (w : World) (n : Int) (h : I64 n) : Calls Try.prog 15 #[.int .i64 n] w fun e w' => e = .returned (.int .i64 (mor n)) ∧ w' = w := by
  obtain ⟨_, _⟩ := h
  go_enter Try.func15, Try.ntmps15
  by_cases e : n = 9223372036854775807
  · have HM : Hid (mor n = n) := by show _ = _; simp [mor, e]
    have e1 : (n == 9223372036854775807) = true := by simp [e]
    go_wp2
    go_ret
    exact ⟨ret_int HM.out.symm, rfl⟩
  · have HM : Hid (mor n = n + 1) := by show _ = _; simp [mor, e]
    have e1 : (n == 9223372036854775807) = false := by simp [e]
    have ew : wrap64 (n + 1) = n + 1 := by unfold wrap64; omega
    go_wp2
    go_ret
    exact ⟨ret_int HM.out.symm, rfl⟩
theorem mor_bd {n : Int} (h : I64 n) : I64 (mor n) := by
  obtain ⟨_, _⟩ := h
  unfold mor
  split
  · exact ⟨by omega, by omega⟩
  · exact ⟨by omega, by omega⟩
set_option maxRecDepth 100000 in
theorem opn_closure (W : World) (B : Nat) (a s1 s2 : Int) (hB : B < W.heap.size) (hc : W.cell? ⟨B, 0, none⟩ = some (.int .i64 a)) (i1 : I64 s1) (i2 : I64 s2) :
    Calls Try.prog 14 #[.agg #[.int .i64 s1, .int .i64 s2], .pointer (some ⟨B, 0, none⟩)] W fun e w' => e = .returned (.agg #[.int .i64 (opn a (s1, s2)).1, .int .i64 (opn a (s1, s2)).2]) ∧ Ext W w' := by
  have d0 : ∀ o o', ((W.alloc o).alloc o').cell? ⟨B, 0, none⟩ = some (.int .i64 a) := fun o o' => ((((Ext.refl W).alloc o).alloc o').cell.1 B 0 hB).trans hc
  have HB : Hid (B < W.heap.size) := hB
  have m1 := fun W => more_any W s1 i1
  have m2 := fun W => more_any W s2 i2
  obtain ⟨_, _⟩ := i1
  obtain ⟨_, _⟩ := i2
  clear hB hc
  by_cases h1 : a ≤ s1
  · by_cases h2 : a < s2
    · have HF : Hid (opn a (s1, s2) = (mor s1, mor s2)) := by show _ = _; simp [opn, h1, h2]
      rw [HF.out]
      generalize mor s1 = f1 at *
      generalize mor s2 = f2 at *
      go_enter Try.func14, Try.ntmps14
      go_wp2_with fail
      refine (m1 _).mono ?_
      rintro e w1 ⟨rfl, rfl⟩
      go_wp2_with fail
      refine (m2 _).mono ?_
      rintro e w2 ⟨rfl, rfl⟩
      go_wp2
      simp [bodyPost, results, Try.results14, go_sem]
      exact ((Ext.refl _).alloc _).alloc _
    · have HF : Hid (opn a (s1, s2) = (mor s1, s2)) := by show _ = _; simp [opn, h1, h2]
      rw [HF.out]
      generalize mor s1 = f1 at *
      go_enter Try.func14, Try.ntmps14
      go_wp2_with fail
      refine (m1 _).mono ?_
      rintro e w1 ⟨rfl, rfl⟩
      go_wp2
      simp [bodyPost, results, Try.results14, go_sem]
      exact ((Ext.refl _).alloc _).alloc _
  · by_cases h2 : a < s2
    · have HF : Hid (opn a (s1, s2) = (s1, mor s2)) := by show _ = _; simp [opn, h1, h2]
      rw [HF.out]
      generalize mor s2 = f2 at *
      go_enter Try.func14, Try.ntmps14
      go_wp2_with fail
      refine (m2 _).mono ?_
      rintro e w2 ⟨rfl, rfl⟩
      go_wp2
      simp [bodyPost, results, Try.results14, go_sem]
      exact ((Ext.refl _).alloc _).alloc _
    · have HF : Hid (opn a (s1, s2) = (s1, s2)) := by show _ = _; simp [opn, h1, h2]
      rw [HF.out]
      go_enter Try.func14, Try.ntmps14
      go_wp2
      simp [bodyPost, results, Try.results14, go_sem]
      exact ((Ext.refl _).alloc _).alloc _
set_option maxRecDepth 100000 in
theorem cls_closure (W : World) (B : Nat) (a s1 s2 : Int) (hB : B < W.heap.size) (hc : W.cell? ⟨B, 0, none⟩ = some (.int .i64 a)) (i1 : I64 s1) (i2 : I64 s2) (ia : I64 a) :
    Calls Try.prog 16 #[.agg #[.int .i64 s1, .int .i64 s2], .pointer (some ⟨B, 0, none⟩)] W fun e w' => e = .returned (.agg #[.int .i64 (cls a (s1, s2)).1, .int .i64 (cls a (s1, s2)).2]) ∧ Ext W w' := by
  have d0 : ∀ o o', ((W.alloc o).alloc o').cell? ⟨B, 0, none⟩ = some (.int .i64 a) := fun o o' => ((((Ext.refl W).alloc o).alloc o').cell.1 B 0 hB).trans hc
  have HB : Hid (B < W.heap.size) := hB
  obtain ⟨_, _⟩ := ia
  obtain ⟨_, _⟩ := i1
  obtain ⟨_, _⟩ := i2
  clear hB hc
  by_cases h1 : a < s1
  · by_cases h2 : a < s2
    · have HF : Hid (cls a (s1, s2) = (s1 - 1, s2 - 1)) := by show _ = _; simp [cls, h1, h2]
      rw [HF.out]
      have ew1 : wrap64 (s1 - 1) = s1 - 1 := by unfold wrap64; omega
      have ew2 : wrap64 (s2 - 1) = s2 - 1 := by unfold wrap64; omega
      go_enter Try.func16, Try.ntmps16
      go_wp2
      simp [bodyPost, results, Try.results16, go_sem]
      exact ((Ext.refl _).alloc _).alloc _
    · have HF : Hid (cls a (s1, s2) = (s1 - 1, s2)) := by show _ = _; simp [cls, h1, h2]
      rw [HF.out]
      have ew1 : wrap64 (s1 - 1) = s1 - 1 := by unfold wrap64; omega
      go_enter Try.func16, Try.ntmps16
      go_wp2
      simp [bodyPost, results, Try.results16, go_sem]
      exact ((Ext.refl _).alloc _).alloc _
  · by_cases h2 : a < s2
    · have HF : Hid (cls a (s1, s2) = (s1, s2 - 1)) := by show _ = _; simp [cls, h1, h2]
      rw [HF.out]
      have ew2 : wrap64 (s2 - 1) = s2 - 1 := by unfold wrap64; omega
      go_enter Try.func16, Try.ntmps16
      go_wp2
      simp [bodyPost, results, Try.results16, go_sem]
      exact ((Ext.refl _).alloc _).alloc _
    · have HF : Hid (cls a (s1, s2) = (s1, s2)) := by show _ = _; simp [cls, h1, h2]
      rw [HF.out]
      go_enter Try.func16, Try.ntmps16
      go_wp2
      simp [bodyPost, results, Try.results16, go_sem]
      exact ((Ext.refl _).alloc _).alloc _

theorem opened_mono (a : Int) (s t : Sp) (h : s.1 ≤ t.1) : (opn a s).1 ≤ (opn a t).1 := by
  unfold opn mor
  simp only []
  repeat' split
  all_goals omega
theorem opened_bd (a : Int) (s : Sp) (ia : I64 a) (h1 : I64 s.1) (h2 : I64 s.2) : I64 (opn a s).1 ∧ I64 (opn a s).2 := by
  obtain ⟨_, _⟩ := ia
  obtain ⟨_, _⟩ := h1
  obtain ⟨_, _⟩ := h2
  unfold I64 opn mor
  simp only []
  refine ⟨⟨?_, ?_⟩, ?_, ?_⟩ <;> (repeat' split) <;> omega
theorem opened_any (w : World) (v : Value) (l p : List Sp) (a : Int) (h : Rd w v l) (hl : l.length ≤ 1000) (hA : AllI l) (ia : I64 a) (hp : Plain p) (hpl : ∀ n, hasB p n = hasB l n) :
    Calls Try.prog 5 #[v, .int .i64 a] w (SetQ w l.length (fun n => hasB (p.map (opn a)) n)) := by
  have eg : ∀ args w, (callFunc 14 args).run Try.prog w = .ok (.enter 14 args) w := enters_of Try.func14 (by kernel_rfl) rfl
  have hx : Ext w (w.alloc (.cells #[.int .i64 a] 3)) := (Ext.refl _).alloc _
  have c := shifted_any (w.alloc (.cells #[.int .i64 a] 3)) v l p (opn a) 14 w.heap.size eg (h.ext hx) hl hA hp hpl (opened_mono a) (fun s h1 h2 => opened_bd a s ia h1 h2)
    (fun W s1 s2 i1 i2 e => opn_closure W w.heap.size a s1 s2 (Nat.lt_of_lt_of_le (by simp) e.size) ((e.cell.1 w.heap.size 0 (by simp)).trans (by simp [go_sem])) i1 i2)
  have HX : Hid (Ext w (w.alloc (.cells #[.int .i64 a] 3))) := hx
  clear h hx eg
  go_enter Try.func5, Try.ntmps5
  go_wp2_with fail
  refine c.mono ?_
  rintro e w' ⟨v', r, rfl, k1, k2, k3, k4, k5, k6⟩
  have HQ : Hid (SetQ w l.length (fun n => hasB (p.map (opn a)) n) (.returned v') w') := ⟨v', r, rfl, k1.mono HX.out.size, k2, k3, k4, k5, HX.out.trans k6⟩
  clear c k1 k2 k3 k4 k5 k6
  go_wp2
  go_ret
  exact HQ.out

theorem closed_mono (a : Int) (s t : Sp) (h : s.1 ≤ t.1) : (cls a s).1 ≤ (cls a t).1 := by
  unfold cls
  simp only []
  repeat' split
  all_goals omega
theorem closed_bd (a : Int) (s : Sp) (ia : I64 a) (h1 : I64 s.1) (h2 : I64 s.2) : I64 (cls a s).1 ∧ I64 (cls a s).2 := by
  obtain ⟨_, _⟩ := ia
  obtain ⟨_, _⟩ := h1
  obtain ⟨_, _⟩ := h2
  unfold I64 cls
  simp only []
  refine ⟨⟨?_, ?_⟩, ?_, ?_⟩ <;> (repeat' split) <;> omega
theorem closed_any (w : World) (v : Value) (l p : List Sp) (a : Int) (h : Rd w v l) (hl : l.length ≤ 1000) (hA : AllI l) (ia : I64 a) (hp : Plain p) (hpl : ∀ n, hasB p n = hasB l n) :
    Calls Try.prog 9 #[v, .int .i64 a] w (SetQ w l.length (fun n => hasB (p.map (cls a)) n)) := by
  have eg : ∀ args w, (callFunc 16 args).run Try.prog w = .ok (.enter 16 args) w := enters_of Try.func16 (by kernel_rfl) rfl
  have hx : Ext w (w.alloc (.cells #[.int .i64 a] 3)) := (Ext.refl _).alloc _
  have c := shifted_any (w.alloc (.cells #[.int .i64 a] 3)) v l p (cls a) 16 w.heap.size eg (h.ext hx) hl hA hp hpl (closed_mono a) (fun s h1 h2 => closed_bd a s ia h1 h2)
    (fun W s1 s2 i1 i2 e => cls_closure W w.heap.size a s1 s2 (Nat.lt_of_lt_of_le (by simp) e.size) ((e.cell.1 w.heap.size 0 (by simp)).trans (by simp [go_sem])) i1 i2 ia)
  have HX : Hid (Ext w (w.alloc (.cells #[.int .i64 a] 3))) := hx
  clear h hx eg
  go_enter Try.func9, Try.ntmps9
  go_wp2_with fail
  refine c.mono ?_
  rintro e w' ⟨v', r, rfl, k1, k2, k3, k4, k5, k6⟩
  have HQ : Hid (SetQ w l.length (fun n => hasB (p.map (cls a)) n) (.returned v') w') := ⟨v', r, rfl, k1.mono HX.out.size, k2, k3, k4, k5, HX.out.trans k6⟩
  clear c k1 k2 k3 k4 k5 k6
  go_wp2
  go_ret
  exact HQ.out
end Go.Proofs.Ytgphjbkadjagpaa

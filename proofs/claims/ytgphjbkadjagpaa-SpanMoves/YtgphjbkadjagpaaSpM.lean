/-
  The document's Edges: all ends of two lists' spans.
-/
import Derived.Test.YtgphjbkadjagpaaSpL
namespace Go.Proofs.Ytgphjbkadjagpaa
open Go.RowKit
set_option maxHeartbeats 2000000

/-- o has all ends of l, rising. -/
def EdP (l : List Sp) (o : List Int) : Prop := Up o ∧ (∀ s ∈ l, s.1 ∈ o ∧ s.2 ∈ o) ∧ (∀ x ∈ o, I64 x) ∧ o.length ≤ 2 * l.length
theorem EdP.next {l : List Sp} {o r1 r2 : List Int} {s : Sp} (h : EdP l o) (hs : I64 s.1 ∧ I64 s.2) (m1 : ∀ x, x ∈ r1 ↔ x ∈ o ∨ x = s.1) (l1 : r1.length ≤ o.length + 1) (u2 : Up r2) (m2 : ∀ x, x ∈ r2 ↔ x ∈ r1 ∨ x = s.2) (l2 : r2.length ≤ r1.length + 1) : EdP (l ++ [s]) r2 := by
  obtain ⟨h1, h2, h3, h4⟩ := h
  refine ⟨u2, fun t ht => ?_, fun x hx => ?_, by simp; omega⟩
  · rw [m2, m2, m1, m1]
    rcases List.mem_append.mp ht with ht | ht
    · exact ⟨.inl (.inl (h2 t ht).1), .inl (.inl (h2 t ht).2)⟩
    · simp at ht; subst ht; exact ⟨.inl (.inr rfl), .inr rfl⟩
  · rw [m2, m1] at hx
    rcases hx with (hx | rfl) | rfl
    · exact h3 x hx
    · exact hs.1
    · exact hs.2
def EdgesQ (w : World) (l : List Sp) (e : Ending) (w' : World) : Prop := ∃ v o, e = .returned v ∧ RdI w' v o ∧ EdP l o ∧ Ext w w'

set_option maxRecDepth 100000 in
theorem edges_any (w : World) (va vb : Value) (a b : List Sp) (ha : Ra w va a) (hb : Ra w vb b) (la : a.length ≤ 400) (lb : b.length ≤ 400) (Aa : AllI a) (Ab : AllI b) :
    Calls Try.prog 17 #[va, vb] w (EdgesQ w (a ++ b)) := by
  obtain ⟨pa, ca, rfl⟩ := ha.form
  obtain ⟨pb, cb, rfl⟩ := hb.form
  have HA : Hid (Ra w (.slice pa a.length ca) a ∧ AllI a) := ⟨ha, Aa⟩
  have HB : Hid (Ra w (.slice pb b.length cb) b ∧ AllI b) := ⟨hb, Ab⟩
  have HL : Hid (a.length ≤ 400 ∧ b.length ≤ 400) := ⟨la, lb⟩
  clear ha hb la lb Aa Ab
  go_enter Try.func17, Try.ntmps17
  go_wp2
  go_loopw [6, 5] (fun x u wr => ∃ (k : Nat) (o : List Int), x = .int .i64 (k : Int) ∧ k ≤ a.length ∧ RdI wr u o ∧ EdP (a.take k) o ∧ Ext w wr) (fun x _ _ => a.length - (intOf x).toNat)
  case atStart => exact ⟨0, [], rfl, Nat.zero_le _, (owI_new w w (Nat.le_refl _)).row, ⟨List.Pairwise.nil, by simp, by simp, by simp⟩, (Ext.refl _).alloc _⟩
  case round =>
    obtain ⟨k, o, rfl, hk, hO, hP, hE⟩ := hrel
    have HO : Hid (RdI wr u5 o ∧ EdP (a.take k) o ∧ Ext w wr) := ⟨hO, hP, hE⟩
    clear hO hP hE
    rcases Nat.lt_or_ge k a.length with hlt | hge
    · have hltI : (k : Int) < (a.length : Int) := by omega
      obtain ⟨bl, off, s, rfl, hs, _, _, hc⟩ := HA.out.1.at hlt
      have HSS : Hid (a[k]? = some s) := hs
      have wk := wrap_succ k (by have := HL.out; omega)
      have HI : Hid (I64 s.1 ∧ I64 s.2) := HA.out.2 s (List.mem_of_getElem? hs)
      clear hs
      obtain ⟨s1, s2⟩ := s
      have HN : Hid (o.length ≤ 1600) := by
        have h1 := HO.out.2.1.2.2.2
        have h2 := HL.out
        have h3 : (a.take k).length ≤ 800 := by simp; omega
        show o.length ≤ 1600
        omega
      have HK : Hid (∀ W', Ext w W' → Ext w W' ∧ W'.cell? ⟨bl, off + k * 2, none⟩ = some (.int .i64 s1) ∧ W'.cell? ⟨bl, off + k * 2 + 1, none⟩ = some (.int .i64 s2)) := fun W' e => ⟨e, hc W' e⟩
      clear hc
      go_upto_region 5 with fail
      go_region_held3 (fun W => Ext w W ∧ W.cell? ⟨bl, off + k * 2, none⟩ = some (.int .i64 s1) ∧ W.cell? ⟨bl, off + k * 2 + 1, none⟩ = some (.int .i64 s2))
        (first | assumption | exact HK.out _ HO.out.2.2.drew | exact HK.out _ E5 | exact HK.out _ E4)
        (first
          | (have _ := R4; go_at_call 22; refine (put_any _ v4 r4 s2 R4 (by have := HN.out; omega) U4).mono ?_; rintro e w5 ⟨v5, r5, rfl, R5, U5, M5, L5, X5⟩; have E5 : Ext w w5 := E4.trans X5)
          | (go_at_call 22; refine (put_any _ u5 o s1 (HO.out.1.ext (Ext.refl _).drew) (by have := HN.out; omega) HO.out.2.1.1).mono ?_; rintro e w4 ⟨v4, r4, rfl, R4, U4, M4, L4, X4⟩; have E4 : Ext w w4 := HO.out.2.2.drew.trans X4))
      all_goals
        have HO' : Hid (RdI w5 v5 r5 ∧ EdP (a.take (k + 1)) r5 ∧ Ext w w5) := by
          refine ⟨R5, ?_, E5⟩
          rw [take_snoc HSS.out]
          exact HO.out.2.1.next (s := (s1, s2)) HI.out M4 L4 U5 M5 L5
        clear R4 U4 M4 L4 X4 E4 R5 U5 M5 L5 X5 E5 HO HK
        go_wp2
        go_roundw
        case rel => exact ⟨k + 1, r5, by rw [wk], hlt, HO'.out.1, HO'.out.2.1, HO'.out.2.2⟩
        case measure => rw [wk]; simp [intOf]; omega
    · have hltI : ¬ (k : Int) < (a.length : Int) := by omega
      have HX : Hid (RdI wr u5 o ∧ EdP (a) o ∧ Ext w wr) := by have := HO.out; rw [List.take_of_length_le hge] at this; exact this
      clear HO
      go_wp2
      go_loopw [7, 5] (fun x u wr => ∃ (k : Nat) (o : List Int), x = .int .i64 (k : Int) ∧ k ≤ b.length ∧ RdI wr u o ∧ EdP (a ++ b.take k) o ∧ Ext w wr) (fun x _ _ => b.length - (intOf x).toNat)
      case atStart => exact ⟨0, _, rfl, Nat.zero_le _, HX.out.1, by simpa using HX.out.2.1, HX.out.2.2⟩
      case round =>
        obtain ⟨k, o, rfl, hk, hO, hP, hE⟩ := hrel
        have HO : Hid (RdI wr u5 o ∧ EdP (a ++ b.take k) o ∧ Ext w wr) := ⟨hO, hP, hE⟩
        clear hO hP hE
        rcases Nat.lt_or_ge k b.length with hlt | hge
        · have hltI : (k : Int) < (b.length : Int) := by omega
          obtain ⟨bl, off, s, rfl, hs, _, _, hc⟩ := HB.out.1.at hlt
          have HSS : Hid (b[k]? = some s) := hs
          have wk := wrap_succ k (by have := HL.out; omega)
          have HI : Hid (I64 s.1 ∧ I64 s.2) := HB.out.2 s (List.mem_of_getElem? hs)
          clear hs
          obtain ⟨s1, s2⟩ := s
          have HN : Hid (o.length ≤ 1600) := by
            have h1 := HO.out.2.1.2.2.2
            have h2 := HL.out
            have h3 : (a ++ b.take k).length ≤ 800 := by simp; omega
            show o.length ≤ 1600
            omega
          have HK : Hid (∀ W', Ext w W' → Ext w W' ∧ W'.cell? ⟨bl, off + k * 2, none⟩ = some (.int .i64 s1) ∧ W'.cell? ⟨bl, off + k * 2 + 1, none⟩ = some (.int .i64 s2)) := fun W' e => ⟨e, hc W' e⟩
          clear hc
          go_upto_region 9 with fail
          go_region_held3 (fun W => Ext w W ∧ W.cell? ⟨bl, off + k * 2, none⟩ = some (.int .i64 s1) ∧ W.cell? ⟨bl, off + k * 2 + 1, none⟩ = some (.int .i64 s2))
            (first | assumption | exact HK.out _ HO.out.2.2.drew | exact HK.out _ E5 | exact HK.out _ E4)
            (first
              | (have _ := R4; go_at_call 22; refine (put_any _ v4 r4 s2 R4 (by have := HN.out; omega) U4).mono ?_; rintro e w5 ⟨v5, r5, rfl, R5, U5, M5, L5, X5⟩; have E5 : Ext w w5 := E4.trans X5)
              | (go_at_call 22; refine (put_any _ u5 o s1 (HO.out.1.ext (Ext.refl _).drew) (by have := HN.out; omega) HO.out.2.1.1).mono ?_; rintro e w4 ⟨v4, r4, rfl, R4, U4, M4, L4, X4⟩; have E4 : Ext w w4 := HO.out.2.2.drew.trans X4))
          all_goals
            have HO' : Hid (RdI w5 v5 r5 ∧ EdP (a ++ b.take (k + 1)) r5 ∧ Ext w w5) := by
              refine ⟨R5, ?_, E5⟩
              rw [take_snoc HSS.out, ← List.append_assoc]
              exact HO.out.2.1.next (s := (s1, s2)) HI.out M4 L4 U5 M5 L5
            clear R4 U4 M4 L4 X4 E4 R5 U5 M5 L5 X5 E5 HO HK
            go_wp2
            go_roundw
            case rel => exact ⟨k + 1, r5, by rw [wk], hlt, HO'.out.1, HO'.out.2.1, HO'.out.2.2⟩
            case measure => rw [wk]; simp [intOf]; omega
        · have hltI : ¬ (k : Int) < (b.length : Int) := by omega
          have HX : Hid (RdI wr u5 o ∧ EdP (a ++ b) o ∧ Ext w wr) := by have := HO.out; rw [List.take_of_length_le hge] at this; exact this
          clear HO
          go_wp2
          go_ret
          exact ⟨_, _, rfl, HX.out.1, HX.out.2.1, HX.out.2.2⟩
end Go.Proofs.Ytgphjbkadjagpaa

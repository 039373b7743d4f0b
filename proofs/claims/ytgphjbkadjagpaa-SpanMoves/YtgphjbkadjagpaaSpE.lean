/-
  The plain form of a list (package span's Norm).
-/
import Derived.Test.YtgphjbkadjagpaaSpD
namespace Go.Proofs.Ytgphjbkadjagpaa
open Go.RowKit
set_option maxHeartbeats 1000000

/-- What a function that makes a plain list leaves: of at most N spans, whose numbers are those that f tells. -/
def SetQ (w : World) (N : Nat) (f : Int → Bool) (e : Ending) (w' : World) : Prop :=
  ∃ v r, e = .returned v ∧ Ow w' w.heap.size v r ∧ Plain r ∧ (∀ n, hasB r n = f n) ∧ AllI r ∧ r.length ≤ N ∧ Ext w w'

/-- The rounds of Norm: r lies where d began, from its k-th span on d is there yet. -/
def NormR (w wr : World) (g cap : Nat) (d : List Sp) (k : Nat) (v : Value) : Prop :=
  ∃ r rst tl, v = .slice (some ⟨g, 0, none⟩) r.length cap ∧ Bk wr w.heap.size (.slice (some ⟨g, 0, none⟩) r.length cap) r rst ∧ r.length ≤ k ∧ rst.drop ((k - r.length) * 2) = flat (d.drop k) ++ tl ∧
    Plain r ∧ (∀ n, hasB r n = hasB (d.take k) n) ∧ (∀ t ∈ r, ∀ s ∈ d.drop k, t.1 ≤ s.1) ∧ AllI r ∧ Ext w wr
theorem NormR.cells {w wr : World} {g cap : Nat} {d : List Sp} {k : Nat} {v : Value} (h : NormR w wr g cap d k v) {s : Sp} (hs : d[k]? = some s) :
    wr.cell? ⟨g, k * 2, none⟩ = some (.int .i64 s.1) ∧ wr.cell? ⟨g, k * 2 + 1, none⟩ = some (.int .i64 s.2) ∧ g < wr.heap.size := by
  obtain ⟨r, rst, tl, rfl, hB, hk, hd, _⟩ := h
  rcases hB with ⟨h', _⟩ | ⟨g', cap', cur, h', hb, hg, hcm, hcs, hl⟩
  · cases h'
  · simp at h'
    obtain ⟨rfl, rfl⟩ := h'
    have hlt : k < d.length := (List.getElem?_eq_some_iff.mp hs).1
    have e : d.drop k = s :: d.drop (k + 1) := by
      rw [List.drop_eq_getElem_cons hlt]
      congr 1
      rw [List.getElem?_eq_getElem hlt] at hs; exact Option.some.inj hs
    rw [e] at hd
    have e0 : cur.toList.drop (k * 2) = flat (s :: d.drop (k + 1)) ++ tl := by
      rw [hl, ← hd, List.drop_append, List.drop_of_length_le (by rw [flat_length]; omega), List.nil_append, flat_length]
      congr 1; omega
    rw [cell_of_row wr g _ cur _ (0, 0) hg, cell_of_row wr g _ cur _ (0, 0) hg, ← Array.getElem?_toList, ← Array.getElem?_toList]
    have a0 : cur.toList[k * 2]? = (cur.toList.drop (k * 2))[0]? := by rw [List.getElem?_drop, Nat.add_zero]
    have a1 : cur.toList[k * 2 + 1]? = (cur.toList.drop (k * 2))[1]? := by rw [List.getElem?_drop]
    rw [a0, a1, e0]
    exact ⟨rfl, rfl, blk_lt hg⟩

theorem drop_cons {d : List Sp} {k : Nat} {s : Sp} (hs : d[k]? = some s) : d.drop k = s :: d.drop (k + 1) := by
  have hlt : k < d.length := (List.getElem?_eq_some_iff.mp hs).1
  rw [List.drop_eq_getElem_cons hlt]
  congr 1
  rw [List.getElem?_eq_getElem hlt] at hs; exact Option.some.inj hs
/-- One round. -/
theorem NormR.next {w wr : World} {g cap : Nat} {d : List Sp} {k : Nat} {r : List Sp} {rst tl : List Value} {s : Sp} (hk : r.length ≤ k) (hd : rst.drop ((k - r.length) * 2) = flat (d.drop k) ++ tl)
    (hp : Plain r) (hh : ∀ n, hasB r n = hasB (d.take k) n) (ho : ∀ t ∈ r, ∀ s ∈ d.drop k, t.1 ≤ s.1) (hA : AllI r) (hs : d[k]? = some s) (hS : d.Pairwise (fun s t => s.1 ≤ t.1)) (hI : AllI d) (e : Ending) (w' : World)
    (hq : LaidQ w wr (.slice (some ⟨g, 0, none⟩) r.length cap) r rst s e w') : ∃ v', e = .returned v' ∧ NormR w w' g cap d (k + 1) v' := by
  obtain ⟨v', rst', he, hB', hE, hroom, _⟩ := hq
  have hc := drop_cons hs
  have h2 : 2 ≤ rst.length := by
    have := congrArg List.length hd
    rw [hc] at this
    simp [flat] at this
    omega
  obtain ⟨⟨p, n1, n2, cap', e1, rfl⟩, hr⟩ := hroom h2
  simp at e1
  obtain ⟨rfl, rfl, rfl⟩ := e1
  have hn2 : n2 = (lay r s).length := by
    rcases hB' with ⟨h', _⟩ | ⟨_, _, _, h', _⟩
    · cases h'
    · simp at h'; exact h'.2.1
  subst hn2
  obtain ⟨l1, l2⟩ := lay_len r s
  obtain ⟨p1, p2, p3⟩ := lay_plain hp (fun t ht => ho t ht s (by rw [hc]; simp))
  refine ⟨_, he, lay r s, rst', tl, rfl, hB', by omega, ?_, p1, ?_, ?_, ?_, hE⟩
  · rw [hr, List.drop_drop]
    have e2 : ((lay r s).length - r.length) * 2 + (k + 1 - (lay r s).length) * 2 = (k - r.length) * 2 + 2 := by omega
    rw [e2, ← List.drop_drop, hd, hc]
    rfl
  · intro n
    rw [p2, hh, take_snoc hs, hasB_append, hasB_one]
  · intro t ht u hu
    have := p3 t ht
    have h3 : s.1 ≤ u.1 := by
      have h4 : (d.drop k).Pairwise (fun s t => s.1 ≤ t.1) := hS.sublist (List.drop_sublist k d)
      rw [hc, List.pairwise_cons] at h4
      exact h4.1 u hu
    omega
  · have := hI s (List.mem_of_getElem? hs)
    exact lay_all hA this.1 this.2

set_option maxRecDepth 100000 in
theorem norm_any (w : World) (v : Value) (l : List Sp) (h : Rd w v l) (hl : l.length ≤ 1000) (hA : AllI l) : Calls Try.prog 19 #[v] w (SetQ w l.length (hasB l)) := by
  have c1 := clone_any w v l h (by omega)
  have HA : Hid (AllI l) := hA
  have HL : Hid (l.length ≤ 1000) := hl
  clear h hl hA
  go_enter Try.func19, Try.ntmps19
  go_wp2_with fail
  refine c1.mono ?_
  rintro e w1 ⟨v1, rfl, ⟨rst1, hB1⟩, E1⟩
  have HE1 : Hid (Ext w w1) := E1
  have c2 := sort_any w1 w.heap.size v1 l rst1 hB1 (by have := HL.out; omega)
  clear c1 hB1 E1
  go_wp2_with fail
  refine c2.mono ?_
  rintro e w2 ⟨d, rst2, rfl, hp, hs, hB2, hX⟩
  have HP : Hid (d.Perm l) := hp
  have HS : Hid (d.Pairwise (fun s t => s.1 ≤ t.1)) := hs
  have HE2 : Hid (Ext w w2) := hX w (Nat.le_refl _) HE1.out
  have HB2 : Hid (Bk w2 w.heap.size v1 d rst2) := hB2
  have HD : Hid (d.length = l.length) := hp.length_eq
  clear c2 hp hs hX hB2
  rcases HB2.out with ⟨rfl, rfl, rfl⟩ | ⟨g, cap, cur, rfl, hb, hg, hcm, hcs, hl2⟩
  · go_wp2
    refine wp_loop_rounds 1 ?_
    rw [rounds_succ]
    go_wp2
    go_ret
    have hn : l = [] := List.eq_nil_of_length_eq_zero (by have := HD.out; simp at this; omega)
    subst hn
    exact ⟨_, [], rfl, ⟨[], HB2.out⟩, plain_nil, fun _ => rfl, HA.out, Nat.le_refl _, HE2.out⟩
  · have HR : Hid (NormR w w2 g cap d 0 (.slice (some ⟨g, 0, none⟩) 0 cap)) := by
      refine ⟨[], flat d ++ rst2, rst2, rfl, .inr ⟨g, cap, cur, rfl, hb, hg, hcm, hcs, by rw [hl2]; rfl⟩, Nat.le_refl _, rfl, plain_nil, fun _ => rfl, by simp, by intro s hs; simp at hs, HE2.out⟩
    clear hb hg hcm hcs hl2
    go_wp2
    go_loopw [15, 4] (fun x v wr => ∃ k : Nat, x = .int .i64 (k : Int) ∧ k ≤ d.length ∧ NormR w wr g cap d k v) (fun x _ _ => d.length - (intOf x).toNat)
    case atStart => exact ⟨0, rfl, Nat.zero_le _, HR.out⟩
    case round =>
      obtain ⟨k, rfl, hk, hr⟩ := hrel
      have HN : Hid (NormR w wr g cap d k u4) := hr
      clear hr HR
      rcases Nat.lt_or_ge k d.length with hlt | hge
      · have hltI : (k : Int) < (d.length : Int) := by omega
        obtain ⟨s, hs⟩ : ∃ s, d[k]? = some s := ⟨_, List.getElem?_eq_getElem hlt⟩
        have HSS : Hid (d[k]? = some s) := hs
        obtain ⟨c1, c2, _⟩ := HN.out.cells hs
        clear hs
        obtain ⟨s1, s2⟩ := s
        go_wp2_with fail
        obtain ⟨r, rst, tl, rfl, h1, h2, h3, h4, h5, h6, h7, h8⟩ := HN.out
        have hB := h1.ext ((Ext.refl wr).alloc (.cells #[.int .i64 s1, .int .i64 s2] 28))
        refine (laid_any w _ _ r rst s1 s2 hB (h8.alloc _) (by have := HL.out; have := HD.out; omega)).mono ?_
        intro e w' hq
        obtain ⟨v', rfl, hN⟩ := NormR.next h2 h3 h4 h5 h6 h7 HSS.out HS.out (fun s hs => HA.out s (HP.out.mem_iff.mp hs)) e w' hq
        have HN' : Hid (NormR w w' g cap d (k + 1) v') := hN
        have wk := wrap_succ k (by have := HL.out; have := HD.out; omega)
        clear hN hq hB h1 h2 h3 h4 h5 h6 h7 h8 HN
        go_wp2
        go_roundw
        case rel => exact ⟨k + 1, by rw [wk], hlt, HN'.out⟩
        case measure => rw [wk]; simp [intOf]; omega
      · have hltI : ¬ (k : Int) < (d.length : Int) := by omega
        obtain ⟨r, rst, tl, rfl, h1, h2, h3, h4, h5, h6, h7, h8⟩ := HN.out
        have HQ : Hid (SetQ w l.length (hasB l) (.returned (.slice (some ⟨g, 0, none⟩) r.length cap)) wr) :=
          ⟨_, r, rfl, ⟨rst, h1⟩, h4, fun n => by rw [h5, List.take_of_length_le hge]; exact hasB_perm HP.out n, h7, by have := HD.out; omega, h8⟩
        clear h1 h2 h3 h4 h5 h6 h7 h8
        go_wp2
        go_ret
        exact HQ.out
end Go.Proofs.Ytgphjbkadjagpaa

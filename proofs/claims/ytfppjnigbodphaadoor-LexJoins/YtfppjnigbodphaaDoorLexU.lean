/-
  The contract of package lex's text.
-/
import Derived.Test.YtfppjnigbodphaaDoorLexT
namespace Go.Proofs.YtfppjnigbodphaaDoor
open Go.RowKit
set_option maxHeartbeats 1000000

theorem txt_ne (c : UInt8) (r : List UInt8) (h : c ≠ 34) : txt (c :: r) = (txt r).map (fun x => (c :: x.1, x.2 + 1)) := by
  cases r with
  | nil => simp [txt, h]
  | cons d r => rw [txt, if_neg h]
theorem txt_two (r : List UInt8) : txt (34 :: 34 :: r) = (txt r).map (fun x => (34 :: x.1, x.2 + 2)) := by simp [txt]
theorem txt_end (r : List UInt8) (h : r.head? ≠ some 34) : txt (34 :: r) = some ([], 1) := by
  cases r with
  | nil => simp [txt]
  | cons d r => rw [txt, if_pos rfl, if_neg (by simpa using h)]
/-- What is read of a text up to a place. -/
def TxA (l : List UInt8) (k j : Nat) (acc : List UInt8) : Prop := k + 1 ≤ j ∧ acc.length ≤ j ∧ txt (l.drop (k + 1)) = (txt (l.drop j)).map (fun x => (acc ++ x.1, x.2 + (j - (k + 1))))
theorem TxA.start (l : List UInt8) (k : Nat) : TxA l k (k + 1) [] := by
  refine ⟨Nat.le_refl _, Nat.zero_le _, ?_⟩
  cases txt (l.drop (k + 1)) <;> simp
theorem TxA.one {l : List UInt8} {k j : Nat} {acc : List UInt8} (h : TxA l k j acc) (hj : j < l.length) (hc : l[j] ≠ 34) : TxA l k (j + 1) (acc ++ [l[j]]) := by
  obtain ⟨h0, h1, h2⟩ := h
  refine ⟨by omega, by simp; omega, ?_⟩
  rw [h2, List.drop_eq_getElem_cons hj, txt_ne _ _ hc]
  cases txt (l.drop (j + 1)) with
  | none => rfl
  | some x => simp; omega
theorem TxA.two {l : List UInt8} {k j : Nat} {acc : List UInt8} (h : TxA l k j acc) (hj : j + 1 < l.length) (hc : l[j] = 34) (hd : l[j + 1] = 34) : TxA l k (j + 1 + 1) (acc ++ [34]) := by
  obtain ⟨h0, h1, h2⟩ := h
  refine ⟨by omega, by simp; omega, ?_⟩
  rw [h2, List.drop_eq_getElem_cons (by omega : j < l.length), List.drop_eq_getElem_cons hj, hc, hd, txt_two]
  cases txt (l.drop (j + 1 + 1)) with
  | none => rfl
  | some x => simp; omega
theorem TxA.none {l : List UInt8} {k j : Nat} {acc : List UInt8} (h : TxA l k j acc) (hj : l.length ≤ j) : txtR (l.drop k) = .error 4 := by
  have e := h.2.2
  rw [List.drop_eq_nil_of_le hj] at e
  unfold txtR
  rw [List.tail_drop, e]; rfl
theorem TxA.done {l : List UInt8} {k j : Nat} {acc : List UInt8} (h : TxA l k j acc) (hj : j < l.length) (hc : l[j] = 34) (hd : (l.drop (j + 1)).head? ≠ some 34) : txtR (l.drop k) = .ok (1, acc, 0, 0, j + 1 - k) := by
  obtain ⟨h0, h1, e⟩ := h
  rw [List.drop_eq_getElem_cons hj, hc, txt_end _ hd] at e
  unfold txtR
  rw [List.tail_drop, e]
  simp; omega

theorem new_top (w : World) (o : Obj) : (w.alloc o).heap[w.heap.size]? = some o := by show (w.heap.push o)[w.heap.size]? = some o; simp
theorem new_two (w : World) (a o : Obj) : ((w.alloc a).alloc o).heap[w.heap.size + 1]? = some o := by
  have h := new_top (w.alloc a) o
  have e : (w.alloc a).heap.size = w.heap.size + 1 := by simp
  rwa [e] at h
theorem text_any (s : ByteArray) (k : Nat) (w : World) (hk : k < s.size) (hs : s.size ≤ 300) :
    Calls Tryd.prog 24 #[.string s, .int .i64 (k : Int)] w fun e w' => NxR (txtR (s.data.toList.drop k)) k e ∧ Ext w w' := by
  have hl := size_list s
  obtain ⟨l, hll⟩ : ∃ l, s.data.toList = l := ⟨_, rfl⟩
  have HL : Hid (l.length = s.size) := by show _ = _; rw [← hll]; exact hl
  have HA : Hid (∀ i (h : i < s.size) (h' : i < l.length), l[i] = s[i]) := by intro i h h'; subst hll; rfl
  rw [hll]
  clear hl hll
  go_enter Tryd.func24, Tryd.ntmps24
  go_wp2_with fail
  go_loopw [7] (fun i wr => ∃ (j : Nat) (acc : List UInt8), j ≤ s.size ∧ i = .int .i64 (j : Int) ∧ TxA l k j acc ∧ Lib.IsBuilder 52 5 (w.heap.size + 1) (w.heap.size + 1) (Lib.byteCells acc) wr ∧ Ext (w.alloc (.cells #[.int .i64 0, .int .i64 0, .string ⟨#[]⟩, .int .i64 0, .int .i64 0] 30)) wr) (fun i _ => s.size - (intOf i).toNat)
  case atStart =>
    refine ⟨k + 1, [], hk, by go_num, TxA.start l k, .inl ⟨Nat.le_refl _, .slice none 0 0, ?_, ⟨rfl, .inl ⟨rfl, rfl⟩⟩, by simp [Value.ownBlock]⟩, (Ext.refl _).alloc _⟩
    exact new_two w _ _
  case round =>
    obtain ⟨j, acc, hj, rfl, hT, hI, hE⟩ := hrel
    have HT : Hid (TxA l k j acc) := hT
    have HI : Hid (Lib.IsBuilder 52 5 (w.heap.size + 1) (w.heap.size + 1) (Lib.byteCells acc) wr) := hI
    have HE : Hid (Ext (w.alloc (.cells #[.int .i64 0, .int .i64 0, .string ⟨#[]⟩, .int .i64 0, .int .i64 0] 30)) wr) := hE
    have HC : Hid (acc.length ≤ 1000) := by have := hT.2.1; show _ ≤ _; omega
    clear hT hI hE
    by_cases hlt : j < s.size
    · have hltI : (j : Int) < (s.size : Int) := by omega
      have wk : wrap64 ((j : Int) + 1) = ((j + 1 : Nat) : Int) := by unfold wrap64; omega
      have hb := byte_ne (c := s[j]) 34 (by omega)
      by_cases h1 : s[j] = 34
      · have tb : (((s[j]).toNat : Int) == 34) = true := by rw [show (34 : Int) = ((34 : Nat) : Int) from rfl, hb, h1]; rfl
        by_cases h2 : j + 1 = s.size
        · have hx : txtR (l.drop k) = .ok (1, acc, 0, 0, j + 1 - k) := HT.out.done (by have := HL.out; omega) (by rw [HA.out j hlt]; exact h1) (by rw [List.drop_eq_nil_of_le (by have := HL.out; omega)]; simp)
          have HX : Hid (txtR (l.drop k) = .ok (1, acc, 0, 0, j + 1 - k)) := hx
          have c2 := fun W h => Tryd.Builder_String_any (w.heap.size + 1) (w.heap.size + 1) acc W h
          have t2 : (((j : Int) + 1) == (s.size : Int)) = true := by simp; omega
          have HJ : Hid (k + 1 ≤ j) := HT.out.1
          clear hx hb h1 h2
          go_wp2_with fail
          refine (c2 _ HI.out (by have := HE.out.sz; simp at this; omega)).mono ?_
          rintro e w1 ⟨rfl, E1⟩
          have E2 : Ext (w.alloc (.cells #[.int .i64 0, .int .i64 0, .string ⟨#[]⟩, .int .i64 0, .int .i64 0] 30)) w1 := Below.trans HE.out (by simpa using E1)
          have B3 := blk5_top rfl E2
          have X3 := ((Ext.refl w).alloc _).trans E2
          have D3 := B3
          obtain ⟨_, ⟨b0, b1, b2, b3, b4⟩, f0, f1, f2, f3, f4⟩ := D3
          clear E1 E2
          go_wp2_with fail
          refine fin5 _ (B3.set _ _ _ _ _) rfl (by with_reducible repeat (first | assumption | exact Ext.refl _ | apply Ext.alloc | apply Ext.drewN | (refine Ext.setCell ?_ (by simp) _))) (fun g0 g1 g2 g3 g4 => by simp [results, Tryd.results24, go_sem, g0, g1, g2, g3, g4]; rfl) (fun h => ⟨?_, h⟩)
          rw [HX.out]
          exact nx_fin (1, acc, 0, 0, j + 1 - k) k _ (by have := HJ.out; simp; omega)
        · have hlt2 : j + 1 < s.size := by omega
          have hltJ : (j : Int) + 1 < (s.size : Int) := by omega
          have hb2 := byte_ne (c := s[j + 1]) 34 (by omega)
          by_cases h3 : s[j + 1] = 34
          · have t2 : (((j : Int) + 1) == (s.size : Int)) = false := by simp; omega
            have t3 : (((s[j + 1]).toNat : Int) != 34) = false := by rw [bne, show (34 : Int) = ((34 : Nat) : Int) from rfl, hb2, h3]; rfl
            have HX : Hid (TxA l k (j + 1 + 1) (acc ++ [s[j + 1]])) := by
              have h4 : j + 1 < l.length := by have := HL.out; omega
              rw [h3]
              exact HT.out.two h4 (by rw [HA.out j hlt]; exact h1) (by rw [HA.out (j + 1) hlt2]; exact h3)
            have c1 := fun W h => wbyte_any (w.heap.size + 1) (w.heap.size + 1) acc s[j + 1] W h HC.out
            have wk2 : wrap64 (((j + 1 : Nat) : Int) + 1) = ((j + 1 + 1 : Nat) : Int) := by unfold wrap64; omega
            clear hb h1 h2 h3 hb2
            go_wp2_with fail
            refine (c1 _ HI.out (by have := HE.out.sz; simp at this; omega)).mono ?_
            rintro e w1 ⟨rfl, I1, E1⟩
            have HI1 : Hid (Lib.IsBuilder 52 5 (w.heap.size + 1) (w.heap.size + 1) (Lib.byteCells (acc ++ [s[j + 1]])) w1) := I1
            have HE1 : Hid (Ext (w.alloc (.cells #[.int .i64 0, .int .i64 0, .string ⟨#[]⟩, .int .i64 0, .int .i64 0] 30)) w1) := Below.trans HE.out (by simpa using E1)
            clear I1 E1
            go_wp2_with fail
            go_roundw
            case rel => exact ⟨j + 1 + 1, acc ++ [s[j + 1]], by omega, by go_num, HX.out, HI1.out, HE1.out⟩
            case measure => simp [intOf]; omega
          · have hx : txtR (l.drop k) = .ok (1, acc, 0, 0, j + 1 - k) := HT.out.done (by have := HL.out; omega) (by rw [HA.out j hlt]; exact h1) (by rw [List.drop_eq_getElem_cons (by have := HL.out; omega : j + 1 < l.length)]; simp only [List.head?_cons, ne_eq, Option.some.injEq]; rw [HA.out (j + 1) hlt2]; exact h3)
            have HX : Hid (txtR (l.drop k) = .ok (1, acc, 0, 0, j + 1 - k)) := hx
            have c2 := fun W h => Tryd.Builder_String_any (w.heap.size + 1) (w.heap.size + 1) acc W h
            have t2 : (((j : Int) + 1) == (s.size : Int)) = false := by simp; omega
            have t3 : (((s[j + 1]).toNat : Int) != 34) = true := by rw [bne, show (34 : Int) = ((34 : Nat) : Int) from rfl, hb2]; simpa using h3
            have HJ : Hid (k + 1 ≤ j) := HT.out.1
            clear hx hb h1 h2 h3 hb2
            go_wp2_with fail
            refine (c2 _ HI.out (by have := HE.out.sz; simp at this; omega)).mono ?_
            rintro e w1 ⟨rfl, E1⟩
            have E2 : Ext (w.alloc (.cells #[.int .i64 0, .int .i64 0, .string ⟨#[]⟩, .int .i64 0, .int .i64 0] 30)) w1 := Below.trans HE.out (by simpa using E1)
            have B3 := blk5_top rfl E2
            have X3 := ((Ext.refl w).alloc _).trans E2
            have D3 := B3
            obtain ⟨_, ⟨b0, b1, b2, b3, b4⟩, f0, f1, f2, f3, f4⟩ := D3
            clear E1 E2
            go_wp2_with fail
            refine fin5 _ (B3.set _ _ _ _ _) rfl (by with_reducible repeat (first | assumption | exact Ext.refl _ | apply Ext.alloc | apply Ext.drewN | (refine Ext.setCell ?_ (by simp) _))) (fun g0 g1 g2 g3 g4 => by simp [results, Tryd.results24, go_sem, g0, g1, g2, g3, g4]; rfl) (fun h => ⟨?_, h⟩)
            rw [HX.out]
            exact nx_fin (1, acc, 0, 0, j + 1 - k) k _ (by have := HJ.out; simp; omega)
      · have tb : (((s[j]).toNat : Int) == 34) = false := by rw [show (34 : Int) = ((34 : Nat) : Int) from rfl, hb]; simpa using h1
        have HX : Hid (TxA l k (j + 1) (acc ++ [s[j]])) := by
          have h3 : j < l.length := by have := HL.out; omega
          have := HT.out.one h3 (by rw [HA.out j hlt]; exact h1)
          rwa [HA.out j hlt] at this
        have c1 := fun W h => wbyte_any (w.heap.size + 1) (w.heap.size + 1) acc s[j] W h HC.out
        clear hb h1
        go_wp2_with fail
        refine (c1 _ HI.out (by have := HE.out.sz; simp at this; omega)).mono ?_
        rintro e w1 ⟨rfl, I1, E1⟩
        have HI1 : Hid (Lib.IsBuilder 52 5 (w.heap.size + 1) (w.heap.size + 1) (Lib.byteCells (acc ++ [s[j]])) w1) := I1
        have HE1 : Hid (Ext (w.alloc (.cells #[.int .i64 0, .int .i64 0, .string ⟨#[]⟩, .int .i64 0, .int .i64 0] 30)) w1) := Below.trans HE.out (by simpa using E1)
        clear I1 E1
        go_wp2_with fail
        go_roundw
        case rel => exact ⟨j + 1, acc ++ [s[j]], by omega, by go_num, HX.out, HI1.out, HE1.out⟩
        case measure => simp [intOf]; omega
    · have hltI : ¬ (j : Int) < (s.size : Int) := by omega
      have HX : Hid (txtR (l.drop k) = .error 4) := HT.out.none (by have := HL.out; omega)
      go_wp2_with fail
      exact ⟨rfl, by rw [HX.out]; rfl, ((Ext.refl w).alloc _).trans HE.out⟩
end Go.Proofs.YtfppjnigbodphaaDoor

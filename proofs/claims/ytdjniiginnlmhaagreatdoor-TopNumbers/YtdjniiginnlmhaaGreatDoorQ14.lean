/-
  The contract of package lex's text.
  The document's texts: bytes that are gathered in a slice.
  The document's quoted: a text between quotes.
  How tightly a tree holds together: package print's binds and holds.
-/
import Derived.Test.YtdjniiginnlmhaaGreatDoorQ13
import Derived.Test.YtdjniiginnlmhaaGreatDoorQ11
import Derived.Laws.IdiomStrings
import Derived.Test.YtdjniiginnlmhaaGreatDoorQ12
namespace Go.Proofs.YtdjniiginnlmhaaGreatDoor
open Go.RowKit
set_option maxHeartbeats 1000000

theorem txt_ne (c : UInt8) (r : List UInt8) (h : c ≠ 34) : txt (c :: r) = (txt r).map (fun x => (c :: x.1, x.2 + 1)) := by
  cases r with
  | nil => simp [txt, h]
  | cons d r => rw [txt, if_neg h]
theorem txt_two (r : List UInt8) : txt (34 :: 34 :: r) = (txt r).map (fun x => (34 :: x.1, x.2 + 2)) := by simp [txt]
theorem txt_end (r : List UInt8) (h : r.head? ≠ some 34) : txt (34 :: r) = some ([], 1) := by
  cases r with
  | nil => simp [txt]
  | cons d r => rw [txt, if_pos rfl, if_neg (by simpa using h)]
/-- What is read of a text up to a place. -/
def TxA (l : List UInt8) (k j : Nat) (acc : List UInt8) : Prop := k + 1 ≤ j ∧ acc.length ≤ j ∧ txt (l.drop (k + 1)) = (txt (l.drop j)).map (fun x => (acc ++ x.1, x.2 + (j - (k + 1))))
theorem TxA.start (l : List UInt8) (k : Nat) : TxA l k (k + 1) [] := by
  refine ⟨Nat.le_refl _, Nat.zero_le _, ?_⟩
  cases txt (l.drop (k + 1)) <;> simp
theorem TxA.one {l : List UInt8} {k j : Nat} {acc : List UInt8} (h : TxA l k j acc) (hj : j < l.length) (hc : l[j] ≠ 34) : TxA l k (j + 1) (acc ++ [l[j]]) := by
  obtain ⟨h0, h1, h2⟩ := h
  refine ⟨by omega, by simp; omega, ?_⟩
  rw [h2, List.drop_eq_getElem_cons hj, txt_ne _ _ hc]
  cases txt (l.drop (j + 1)) with
  | none => rfl
  | some x => simp; omega
theorem TxA.two {l : List UInt8} {k j : Nat} {acc : List UInt8} (h : TxA l k j acc) (hj : j + 1 < l.length) (hc : l[j] = 34) (hd : l[j + 1] = 34) : TxA l k (j + 1 + 1) (acc ++ [34]) := by
  obtain ⟨h0, h1, h2⟩ := h
  refine ⟨by omega, by simp; omega, ?_⟩
  rw [h2, List.drop_eq_getElem_cons (by omega : j < l.length), List.drop_eq_getElem_cons hj, hc, hd, txt_two]
  cases txt (l.drop (j + 1 + 1)) with
  | none => rfl
  | some x => simp; omega
theorem TxA.none {l : List UInt8} {k j : Nat} {acc : List UInt8} (h : TxA l k j acc) (hj : l.length ≤ j) : txtR (l.drop k) = .error 4 := by
  have e := h.2.2
  rw [List.drop_eq_nil_of_le hj] at e
  unfold txtR
  rw [List.tail_drop, e]; rfl
theorem TxA.done {l : List UInt8} {k j : Nat} {acc : List UInt8} (h : TxA l k j acc) (hj : j < l.length) (hc : l[j] = 34) (hd : (l.drop (j + 1)).head? ≠ some 34) : txtR (l.drop k) = .ok (1, acc, 0, 0, j + 1 - k) := by
  obtain ⟨h0, h1, e⟩ := h
  rw [List.drop_eq_getElem_cons hj, hc, txt_end _ hd] at e
  unfold txtR
  rw [List.tail_drop, e]
  simp; omega

theorem new_top (w : World) (o : Obj) : (w.alloc o).heap[w.heap.size]? = some o := by show (w.heap.push o)[w.heap.size]? = some o; simp
theorem new_two (w : World) (a o : Obj) : ((w.alloc a).alloc o).heap[w.heap.size + 1]? = some o := by
  have h := new_top (w.alloc a) o
  have e : (w.alloc a).heap.size = w.heap.size + 1 := by simp
  rwa [e] at h
theorem text_any (s : ByteArray) (k : Nat) (w : World) (hk : k < s.size) (hs : s.size ≤ 300) :
    Calls Tryz.prog 172 #[.string s, .int .i64 (k : Int)] w fun e w' => NxR (txtR (s.data.toList.drop k)) k e ∧ Ext w w' := by
  have hl := size_list s
  obtain ⟨l, hll⟩ : ∃ l, s.data.toList = l := ⟨_, rfl⟩
  have HL : Hid (l.length = s.size) := by show _ = _; rw [← hll]; exact hl
  have HA : Hid (∀ i (h : i < s.size) (h' : i < l.length), l[i] = s[i]) := by intro i h h'; subst hll; rfl
  rw [hll]
  clear hl hll
  go_enter Tryz.func172, Tryz.ntmps172
  go_wp2_with fail
  go_loopw [7] (fun i wr => ∃ (j : Nat) (acc : List UInt8), j ≤ s.size ∧ i = .int .i64 (j : Int) ∧ TxA l k j acc ∧ Lib.IsBuilder 57 5 (w.heap.size + 1) (w.heap.size + 1) (Lib.byteCells acc) wr ∧ Ext (w.alloc (.cells #[.int .i64 0, .int .i64 0, .string ⟨#[]⟩, .int .i64 0, .int .i64 0] 82)) wr) (fun i _ => s.size - (intOf i).toNat)
  case atStart =>
    refine ⟨k + 1, [], hk, by go_num, TxA.start l k, .inl ⟨Nat.le_refl _, .slice none 0 0, ?_, ⟨rfl, .inl ⟨rfl, rfl⟩⟩, by simp [Value.ownBlock]⟩, (Ext.refl _).alloc _⟩
    exact new_two w _ _
  case round =>
    obtain ⟨j, acc, hj, rfl, hT, hI, hE⟩ := hrel
    have HT : Hid (TxA l k j acc) := hT
    have HI : Hid (Lib.IsBuilder 57 5 (w.heap.size + 1) (w.heap.size + 1) (Lib.byteCells acc) wr) := hI
    have HE : Hid (Ext (w.alloc (.cells #[.int .i64 0, .int .i64 0, .string ⟨#[]⟩, .int .i64 0, .int .i64 0] 82)) wr) := hE
    have HC : Hid (acc.length ≤ 1000) := by have := hT.2.1; show _ ≤ _; omega
    clear hT hI hE
    by_cases hlt : j < s.size
    · have hltI : (j : Int) < (s.size : Int) := by omega
      have wk : wrap64 ((j : Int) + 1) = ((j + 1 : Nat) : Int) := by unfold wrap64; omega
      have hb := byte_ne (c := s[j]) 34 (by omega)
      by_cases h1 : s[j] = 34
      · have tb : (((s[j]).toNat : Int) == 34) = true := by rw [show (34 : Int) = ((34 : Nat) : Int) from rfl, hb, h1]; rfl
        by_cases h2 : j + 1 = s.size
        · have hx : txtR (l.drop k) = .ok (1, acc, 0, 0, j + 1 - k) := HT.out.done (by have := HL.out; omega) (by rw [HA.out j hlt]; exact h1) (by rw [List.drop_eq_nil_of_le (by have := HL.out; omega)]; simp)
          have HX : Hid (txtR (l.drop k) = .ok (1, acc, 0, 0, j + 1 - k)) := hx
          have c2 := fun W h => Tryz.Builder_String_any (w.heap.size + 1) (w.heap.size + 1) acc W h
          have t2 : (((j : Int) + 1) == (s.size : Int)) = true := by simp; omega
          have HJ : Hid (k + 1 ≤ j) := HT.out.1
          clear hx hb h1 h2
          go_wp2_with fail
          refine (c2 _ HI.out (by have := HE.out.sz; simp at this; omega)).mono ?_
          rintro e w1 ⟨rfl, E1⟩
          have E2 : Ext (w.alloc (.cells #[.int .i64 0, .int .i64 0, .string ⟨#[]⟩, .int .i64 0, .int .i64 0] 82)) w1 := Below.trans HE.out (by simpa using E1)
          have B3 := blk5_top rfl E2
          have X3 := ((Ext.refl w).alloc _).trans E2
          have D3 := B3
          obtain ⟨_, ⟨b0, b1, b2, b3, b4⟩, f0, f1, f2, f3, f4⟩ := D3
          clear E1 E2
          go_wp2_with fail
          refine fin5 _ (B3.set _ _ _ _ _) rfl (by with_reducible repeat (first | assumption | exact Ext.refl _ | apply Ext.alloc | apply Ext.drewN | (refine Ext.setCell ?_ (by simp) _))) (fun g0 g1 g2 g3 g4 => by simp [results, Tryz.results172, go_sem, g0, g1, g2, g3, g4]; rfl) (fun h => ⟨?_, h⟩)
          rw [HX.out]
          exact nx_fin (1, acc, 0, 0, j + 1 - k) k _ (by have := HJ.out; simp; omega)
        · have hlt2 : j + 1 < s.size := by omega
          have hltJ : (j : Int) + 1 < (s.size : Int) := by omega
          have hb2 := byte_ne (c := s[j + 1]) 34 (by omega)
          by_cases h3 : s[j + 1] = 34
          · have t2 : (((j : Int) + 1) == (s.size : Int)) = false := by simp; omega
            have t3 : (((s[j + 1]).toNat : Int) != 34) = false := by rw [bne, show (34 : Int) = ((34 : Nat) : Int) from rfl, hb2, h3]; rfl
            have HX : Hid (TxA l k (j + 1 + 1) (acc ++ [s[j + 1]])) := by
              have h4 : j + 1 < l.length := by have := HL.out; omega
              rw [h3]
              exact HT.out.two h4 (by rw [HA.out j hlt]; exact h1) (by rw [HA.out (j + 1) hlt2]; exact h3)
            have c1 := fun W h => wbyte_any (w.heap.size + 1) (w.heap.size + 1) acc s[j + 1] W h HC.out
            have wk2 : wrap64 (((j + 1 : Nat) : Int) + 1) = ((j + 1 + 1 : Nat) : Int) := by unfold wrap64; omega
            clear hb h1 h2 h3 hb2
            go_wp2_with fail
            refine (c1 _ HI.out (by have := HE.out.sz; simp at this; omega)).mono ?_
            rintro e w1 ⟨rfl, I1, E1⟩
            have HI1 : Hid (Lib.IsBuilder 57 5 (w.heap.size + 1) (w.heap.size + 1) (Lib.byteCells (acc ++ [s[j + 1]])) w1) := I1
            have HE1 : Hid (Ext (w.alloc (.cells #[.int .i64 0, .int .i64 0, .string ⟨#[]⟩, .int .i64 0, .int .i64 0] 82)) w1) := Below.trans HE.out (by simpa using E1)
            clear I1 E1
            go_wp2_with fail
            go_roundw
            case rel => exact ⟨j + 1 + 1, acc ++ [s[j + 1]], by omega, by go_num, HX.out, HI1.out, HE1.out⟩
            case measure => simp [intOf]; omega
          · have hx : txtR (l.drop k) = .ok (1, acc, 0, 0, j + 1 - k) := HT.out.done (by have := HL.out; omega) (by rw [HA.out j hlt]; exact h1) (by rw [List.drop_eq_getElem_cons (by have := HL.out; omega : j + 1 < l.length)]; simp only [List.head?_cons, ne_eq, Option.some.injEq]; rw [HA.out (j + 1) hlt2]; exact h3)
            have HX : Hid (txtR (l.drop k) = .ok (1, acc, 0, 0, j + 1 - k)) := hx
            have c2 := fun W h => Tryz.Builder_String_any (w.heap.size + 1) (w.heap.size + 1) acc W h
            have t2 : (((j : Int) + 1) == (s.size : Int)) = false := by simp; omega
            have t3 : (((s[j + 1]).toNat : Int) != 34) = true := by rw [bne, show (34 : Int) = ((34 : Nat) : Int) from rfl, hb2]; simpa using h3
            have HJ : Hid (k + 1 ≤ j) := HT.out.1
            clear hx hb h1 h2 h3 hb2
            go_wp2_with fail
            refine (c2 _ HI.out (by have := HE.out.sz; simp at this; omega)).mono ?_
            rintro e w1 ⟨rfl, E1⟩
            have E2 : Ext (w.alloc (.cells #[.int .i64 0, .int .i64 0, .string ⟨#[]⟩, .int .i64 0, .int .i64 0] 82)) w1 := Below.trans HE.out (by simpa using E1)
            have B3 := blk5_top rfl E2
            have X3 := ((Ext.refl w).alloc _).trans E2
            have D3 := B3
            obtain ⟨_, ⟨b0, b1, b2, b3, b4⟩, f0, f1, f2, f3, f4⟩ := D3
            clear E1 E2
            go_wp2_with fail
            refine fin5 _ (B3.set _ _ _ _ _) rfl (by with_reducible repeat (first | assumption | exact Ext.refl _ | apply Ext.alloc | apply Ext.drewN | (refine Ext.setCell ?_ (by simp) _))) (fun g0 g1 g2 g3 g4 => by simp [results, Tryz.results172, go_sem, g0, g1, g2, g3, g4]; rfl) (fun h => ⟨?_, h⟩)
            rw [HX.out]
            exact nx_fin (1, acc, 0, 0, j + 1 - k) k _ (by have := HJ.out; simp; omega)
      · have tb : (((s[j]).toNat : Int) == 34) = false := by rw [show (34 : Int) = ((34 : Nat) : Int) from rfl, hb]; simpa using h1
        have HX : Hid (TxA l k (j + 1) (acc ++ [s[j]])) := by
          have h3 : j < l.length := by have := HL.out; omega
          have := HT.out.one h3 (by rw [HA.out j hlt]; exact h1)
          rwa [HA.out j hlt] at this
        have c1 := fun W h => wbyte_any (w.heap.size + 1) (w.heap.size + 1) acc s[j] W h HC.out
        clear hb h1
        go_wp2_with fail
        refine (c1 _ HI.out (by have := HE.out.sz; simp at this; omega)).mono ?_
        rintro e w1 ⟨rfl, I1, E1⟩
        have HI1 : Hid (Lib.IsBuilder 57 5 (w.heap.size + 1) (w.heap.size + 1) (Lib.byteCells (acc ++ [s[j]])) w1) := I1
        have HE1 : Hid (Ext (w.alloc (.cells #[.int .i64 0, .int .i64 0, .string ⟨#[]⟩, .int .i64 0, .int .i64 0] 82)) w1) := Below.trans HE.out (by simpa using E1)
        clear I1 E1
        go_wp2_with fail
        go_roundw
        case rel => exact ⟨j + 1, acc ++ [s[j]], by omega, by go_num, HX.out, HI1.out, HE1.out⟩
        case measure => simp [intOf]; omega
    · have hltI : ¬ (j : Int) < (s.size : Int) := by omega
      have HX : Hid (txtR (l.drop k) = .error 4) := HT.out.none (by have := HL.out; omega)
      go_wp2_with fail
      exact ⟨rfl, by rw [HX.out]; rfl, ((Ext.refl w).alloc _).trans HE.out⟩
end Go.Proofs.YtdjniiginnlmhaaGreatDoor

namespace Go.Proofs.YtdjniiginnlmhaaGreatDoor
open Go.RowKit
set_option maxHeartbeats 1000000

/-- v holds the bytes l in a block of the call's own, from base on. -/
def OwB (w : World) (base : Nat) (v : Value) (l : List UInt8) : Prop := (∃ g cap, v = .slice (some ⟨g, 0, none⟩) l.length cap) ∧ w.ownsRow base 5 1 v l.length (Lib.byteCells l)
theorem OwB.alloc {w : World} {base : Nat} {v : Value} {l : List UInt8} (h : OwB w base v l) (o : Obj) : OwB (w.alloc o) base v l := ⟨h.1, h.2.alloc o⟩
theorem OwB.conv {w : World} {base : Nat} {v : Value} {l : List UInt8} (h : OwB w base v l) : (convert 55 9 v).run Tryz.prog w = .ok (.string (bs l)) w := by
  obtain ⟨⟨g, cap, rfl⟩, h2⟩ := h
  exact run_convert_bytes_back w 55 9 5 ⟨g, 0, none⟩ cap l Tryz.underlying55 Tryz.underlying5 Tryz.underlying9 (fun j hj => h2.cells (g := g) rfl j _ (by rw [List.getElem?_eq_getElem (by rw [Lib.byteCells_length]; exact hj)]; simp [Lib.byteCells]))
theorem owb_new (W : World) (base : Nat) (h : base ≤ W.heap.size) : OwB (W.alloc (.cells #[] 5)) base (.slice (some ⟨W.heap.size, 0, none⟩) 0 0) [] :=
  ⟨⟨_, _, rfl⟩, World.ownsRow_made W #[] 0 h (by unfold maxLen; omega) (by simp)⟩
theorem ob_append {ops : Array Oper} {rest : List Oper} {o : Oper} {a : Act} {Q : Exit → Act → World → Prop} (w W : World) (base : Nat) (hbase : base = w.heap.size) (s x : Operand) (v : Value) (b : Nat) (l : List UInt8) (c : UInt8) (hgd : o.guard = none)
    (ho : o.op = .call { callee := .builtin .append, args := #[s, x], argTypes := #[55, 55] })
    (hs : a.eval s = v) (hx : a.eval x = .slice (some ⟨b, 0, none⟩) 1 1) (hB : OwB W base v l) (hR : W.cell? ⟨b, 0, none⟩ = some (.int .u8 (c.toNat : Int))) (hlen : l.length ≤ 100000) (hE : Ext w W)
    (h : ∀ v' W', OwB W' base v' (l ++ [c]) → Ext w W' → wpList Tryz.prog ops Q rest (a.put o.dst v') W') : wpList Tryz.prog ops Q (o :: rest) a W := by
  subst hbase
  obtain ⟨i, hi, hz, h1, h2⟩ := byte_info
  refine wpList_append_own_at W hgd s x 55 ho w.heap.size 5 i _ 1 1 Tryz.underlying55 hi hz h1 h2 rfl (by decide) v l.length (Lib.byteCells l) hs hB.2 ⟨b, 0, none⟩ 1 1 [.int .u8 (c.toNat : Int)] hx rfl ?_ ?_ (by unfold maxLen; omega) (by omega) hE.size ?_
  · intro j u hj
    match j, hj with
    | 0, hj => simp at hj; subst hj; rw [Addr.add_lit]; exact hR
  · intro u hu; simp at hu; subst hu; rfl
  · intro v' W' h3 h4 _ _
    have e : Lib.byteCells l ++ [.int .u8 (c.toNat : Int)] = Lib.byteCells (l ++ [c]) := by simp [Lib.byteCells]
    rw [e] at h3
    have e2 : (l ++ [c]).length = l.length + 1 := by simp
    refine h v' W' ⟨?_, by rw [e2]; exact h3⟩ ⟨h4.os.trans hE.os, h4.tape.trans hE.tape, h4.output.trans hE.output, Nat.le_trans hE.size h4.size, fun k hk => ?_⟩
    · rw [e2]
      rcases h3.2 with ⟨_, h0⟩ | ⟨g, cap, cur, hv, _⟩
      · omega
      · exact ⟨g, cap, hv⟩
    · refine (h4.block k (Nat.lt_of_lt_of_le hk hE.size) (fun e => ?_)).trans (hE.block k hk)
      have := (hB.2.lt k e.symm).1
      omega

theorem qtext_any (s : ByteArray) (k : Nat) (w : World) (hk : k < s.size) (hs : s.size ≤ 300) :
    Calls Tryz.prog 107 #[.string s, .int .i64 (k : Int)] w fun e w' => RxR (txtR (s.data.toList.drop k)) k e ∧ Ext w w' := by
  have hl := size_list s
  obtain ⟨l, hll⟩ : ∃ l, s.data.toList = l := ⟨_, rfl⟩
  have HL : Hid (l.length = s.size) := by show _ = _; rw [← hll]; exact hl
  have HA : Hid (∀ i (h : i < s.size) (h' : i < l.length), l[i] = s[i]) := by intro i h h'; subst hll; rfl
  have cI : ∀ i W, i ≤ s.size → Calls Tryz.prog 108 #[.string s, .int .i64 (i : Int), .string ⟨#[34]⟩] W fun e w' => e = .returned (.bool (decide ((l.drop i).head? = some 34))) ∧ w' = W := by
    intro i W hi
    have h := qis_any s ⟨#[34]⟩ i W hi hs (by decide)
    rw [hll] at h
    have hdot : ((⟨#[34]⟩ : ByteArray).data.toList.isPrefixOf (l.drop i)) = decide ((l.drop i).head? = some 34) := by
      show List.isPrefixOf [34] (l.drop i) = _
      rw [Bool.eq_iff_iff]
      cases l.drop i with
      | nil => simp
      | cons c r => simp [List.isPrefixOf]; exact eq_comm
    rwa [hdot] at h
  have HI : Hid (∀ i W, i ≤ s.size → Calls Tryz.prog 108 #[.string s, .int .i64 (i : Int), .string ⟨#[34]⟩] W fun e w' => e = .returned (.bool (decide ((l.drop i).head? = some 34))) ∧ w' = W) := cI
  rw [hll]
  clear hl hll cI
  go_enter Tryz.func107, Tryz.ntmps107
  go_wp2_with fail
  go_loopw [7, 8] (fun v i wr => ∃ (j : Nat) (acc : List UInt8), j ≤ s.size ∧ i = .int .i64 (j : Int) ∧ TxA l k j acc ∧ OwB wr (w.heap.size + 1) v acc ∧ Ext (w.alloc (.cells #[.int .i64 0, .int .i64 0, .string ⟨#[]⟩, .int .i64 0, .int .i64 0] 82)) wr) (fun _ i _ => s.size - (intOf i).toNat)
  case atStart => exact ⟨k + 1, [], hk, by go_num, TxA.start l k, by have := owb_new (w.alloc (.cells #[.int .i64 0, .int .i64 0, .string ⟨#[]⟩, .int .i64 0, .int .i64 0] 82)) _ (Nat.le_refl _); simpa using this, (Ext.refl _).alloc _⟩
  case round =>
    obtain ⟨j, acc, hj, rfl, hT, hO, hE⟩ := hrel
    obtain ⟨⟨g, cap, rfl⟩, hO2⟩ := hO
    have HT : Hid (TxA l k j acc) := hT
    have HO : Hid (OwB wr (w.heap.size + 1) (.slice (some ⟨g, 0, none⟩) acc.length cap) acc) := ⟨⟨g, cap, rfl⟩, hO2⟩
    have HE : Hid (Ext (w.alloc (.cells #[.int .i64 0, .int .i64 0, .string ⟨#[]⟩, .int .i64 0, .int .i64 0] 82)) wr) := hE
    have HC : Hid (acc.length ≤ 1000) := by have := hT.2.1; show _ ≤ _; omega
    have HJ : Hid (k + 1 ≤ j) := hT.1
    clear hT hO2 hE
    by_cases hlt : j < s.size
    · have hltI : (j : Int) < (s.size : Int) := by omega
      have wk : wrap64 ((j : Int) + 1) = ((j + 1 : Nat) : Int) := by unfold wrap64; omega
      have hb := byte_ne (c := s[j]) 34 (by omega)
      by_cases h1 : s[j] = 34
      · have tb : (((s[j]).toNat : Int) != 34) = false := by rw [bne, show (34 : Int) = ((34 : Nat) : Int) from rfl, hb, h1]; rfl
        have c1 := fun W => HI.out (j + 1) W hlt
        by_cases h2 : (l.drop (j + 1)).head? = some 34
        · rw [decide_eq_true h2] at c1
          have hlt2 : j + 1 < l.length := by
            rw [List.head?_drop] at h2; exact (List.getElem?_eq_some_iff.mp h2).1
          have HX : Hid (TxA l k (j + 1 + 1) (acc ++ [34])) := by
            rw [List.head?_drop, List.getElem?_eq_getElem hlt2] at h2
            exact HT.out.two hlt2 (by rw [HA.out j hlt]; exact h1) (Option.some.inj h2)
          have hlt3 : (j : Int) + 1 < (s.size : Int) := by have := HL.out; omega
          have HB : Hid (j + 1 + 1 ≤ s.size) := by have := HL.out; show _ ≤ _; omega
          clear hb h1 h2 hlt2
          go_wp2_with fail
          refine (c1 _).mono ?_
          rintro e w1 ⟨rfl, rfl⟩
          go_wp2_with (at_builtin; refine ob_append (w.alloc (.cells #[.int .i64 0, .int .i64 0, .string ⟨#[]⟩, .int .i64 0, .int .i64 0] 82)) _ (w.heap.size + 1) (by simp) _ _ _ _ acc 34 rfl rfl (by rfl) (by rfl) (HO.out.alloc _) (by simp) (by have := HC.out; omega) (HE.out.alloc _) ?_)
          intro v' w2 k1 k2
          have HO2 : Hid (OwB w2 (w.heap.size + 1) v' (acc ++ [34]) ∧ Ext (w.alloc (.cells #[.int .i64 0, .int .i64 0, .string ⟨#[]⟩, .int .i64 0, .int .i64 0] 82)) w2) := ⟨k1, k2⟩
          clear k1 k2
          go_wp2_with fail
          go_roundw
          case rel => exact ⟨j + 1 + 1, acc ++ [34], HB.out, by go_num, HX.out, HO2.out.1, HO2.out.2⟩
          case measure => simp [intOf]; omega
        · rw [decide_eq_false h2] at c1
          have HX : Hid (txtR (l.drop k) = .ok (1, acc, 0, 0, j + 1 - k)) := HT.out.done (by have := HL.out; omega) (by rw [HA.out j hlt]; exact h1) h2
          have CV : Hid (∀ v, v = Value.slice (some ⟨g, 0, none⟩) acc.length cap → (convert 55 9 v).run Tryz.prog wr = .ok (.string (bs acc)) wr) := by rintro v rfl; exact HO.out.conv
          clear hb h1 h2
          go_wp2_with fail
          refine (c1 _).mono ?_
          rintro e w1 ⟨rfl, rfl⟩
          have hcv := CV.out _ rfl
          obtain ⟨q, hq⟩ : ∃ q, bs acc = q := ⟨_, rfl⟩
          rw [hq] at hcv
          have HQ : Hid (bs acc = q) := hq
          have B3 := blk5_top rfl HE.out
          have X3 := ((Ext.refl w).alloc _).trans HE.out
          have D3 := B3
          obtain ⟨_, ⟨b0, b1, b2, b3, b4⟩, f0, f1, f2, f3, f4⟩ := D3
          clear hq
          go_wp2_with fail
          refine fin5 _ (B3.set _ _ _ _ _) rfl (by with_reducible repeat (first | assumption | exact Ext.refl _ | apply Ext.alloc | apply Ext.drewN | (refine Ext.setCell ?_ (by simp) _))) (fun g0 g1 g2 g3 g4 => by simp [results, Tryz.results107, go_sem, g0, g1, g2, g3, g4]; rfl) (fun h => ⟨?_, h⟩)
          rw [HX.out]
          rw [← HQ.out]
          exact rx_fin (1, acc, 0, 0, j + 1 - k) k _ (by have := HJ.out; simp; omega)
      · have tb : (((s[j]).toNat : Int) != 34) = true := by rw [bne, show (34 : Int) = ((34 : Nat) : Int) from rfl, hb]; simpa using h1
        have HX : Hid (TxA l k (j + 1) (acc ++ [s[j]])) := by
          have h3 : j < l.length := by have := HL.out; omega
          have := HT.out.one h3 (by rw [HA.out j hlt]; exact h1)
          rwa [HA.out j hlt] at this
        clear hb h1
        go_wp2_with (at_builtin; refine ob_append (w.alloc (.cells #[.int .i64 0, .int .i64 0, .string ⟨#[]⟩, .int .i64 0, .int .i64 0] 82)) _ (w.heap.size + 1) (by simp) _ _ _ _ acc s[j] rfl rfl (by rfl) (by rfl) (HO.out.alloc _) (by simp) (by have := HC.out; omega) (HE.out.alloc _) ?_)
        intro v' w2 k1 k2
        have HO2 : Hid (OwB w2 (w.heap.size + 1) v' (acc ++ [s[j]]) ∧ Ext (w.alloc (.cells #[.int .i64 0, .int .i64 0, .string ⟨#[]⟩, .int .i64 0, .int .i64 0] 82)) w2) := ⟨k1, k2⟩
        clear k1 k2
        go_wp2_with fail
        go_roundw
        case rel => exact ⟨j + 1, acc ++ [s[j]], by omega, by go_num, HX.out, HO2.out.1, HO2.out.2⟩
        case measure => simp [intOf]; omega
    · have hltI : ¬ (j : Int) < (s.size : Int) := by omega
      have HX : Hid (txtR (l.drop k) = .error 4) := HT.out.none (by have := HL.out; omega)
      have B3 := blk5_top rfl HE.out
      have X3 := ((Ext.refl w).alloc _).trans HE.out
      have D3 := B3
      obtain ⟨_, ⟨b0, b1, b2, b3, b4⟩, f0, f1, f2, f3, f4⟩ := D3
      go_wp2_with fail
      refine fin5 _ (B3.set _ _ _ _ _) rfl (by with_reducible repeat (first | assumption | exact Ext.refl _ | apply Ext.alloc | apply Ext.drewN | (refine Ext.setCell ?_ (by simp) _))) (fun g0 g1 g2 g3 g4 => by simp [results, Tryz.results107, go_sem, g0, g1, g2, g3, g4]; rfl) (fun h => ⟨?_, h⟩)
      rw [HX.out]
      exact rfl
end Go.Proofs.YtdjniiginnlmhaaGreatDoor

namespace Go.Proofs.YtdjniiginnlmhaaGreatDoor
open Go.RowKit
set_option maxHeartbeats 4000000

theorem quoB_app (a b : List UInt8) : quoB (a ++ b) = quoB a ++ quoB b := by
  induction a with
  | nil => rfl
  | cons c r ih => rw [List.cons_append, quoB, quoB, ih]; split <;> simp
theorem owb_one (W : World) (base : Nat) (c : UInt8) (h : base ≤ W.heap.size) : OwB (W.alloc (.cells #[.int .u8 (c.toNat : Int)] 5)) base (.slice (some ⟨W.heap.size, 0, none⟩) 1 1) [c] :=
  ⟨⟨_, _, rfl⟩, rfl, .inr ⟨W.heap.size, 1, #[.int .u8 (c.toNat : Int)], rfl, h, by show (W.heap.push _)[W.heap.size]? = _; simp, Nat.le_refl _, by unfold maxLen; omega, rfl, rfl⟩⟩
set_option maxRecDepth 100000 in
theorem quoted_any (s : ByteArray) (w : World) (hs : s.size ≤ 300) :
    Calls Tryz.prog 32 #[.string s] w fun e w' => e = .returned (.string (bs (quoL s.data.toList))) ∧ Ext w w' := by
  have hl := size_list s
  obtain ⟨l, hll⟩ : ∃ l, s.data.toList = l := ⟨_, rfl⟩
  have HL : Hid (l.length = s.size) := by show _ = _; rw [← hll]; exact hl
  have HA : Hid (∀ i (h : i < s.size), l[i]? = some s[i]) := by intro i h; subst hll; exact List.getElem?_eq_getElem (by rw [hl]; exact h)
  have HB : Hid (∀ j, (quoB (l.take j)).length ≤ 600) := by intro j; have h1 := quoB_len (l.take j); have h2 := HL.out; rw [List.length_take] at h1; omega
  rw [hll]
  clear hl hll
  go_enter Tryz.func32, Tryz.ntmps32
  go_wp2_with fail
  go_loopw [3, 4] (fun v i wr => ∃ (j : Nat), j ≤ s.size ∧ i = .int .i64 (j : Int) ∧ OwB wr w.heap.size v (34 :: quoB (l.take j)) ∧ Ext w wr) (fun _ i _ => s.size - (intOf i).toNat)
  case atStart => exact ⟨0, Nat.zero_le _, rfl, by have := owb_one w w.heap.size 34 (Nat.le_refl _); simpa [quoB] using this, (Ext.refl _).alloc _⟩
  case round =>
    obtain ⟨j, hj, rfl, hO, hE⟩ := hrel
    obtain ⟨⟨g, cap, rfl⟩, hO2⟩ := hO
    have HO : Hid (OwB wr w.heap.size (.slice (some ⟨g, 0, none⟩) (34 :: quoB (l.take j)).length cap) (34 :: quoB (l.take j)) ∧ Ext w wr) := ⟨⟨⟨g, cap, rfl⟩, hO2⟩, hE⟩
    clear hO2 hE
    have hq := HB.out j
    obtain ⟨acc, hacc⟩ : ∃ acc, 34 :: quoB (l.take j) = acc := ⟨_, rfl⟩
    have HAC : Hid (34 :: quoB (l.take j) = acc) := hacc
    have hal : acc.length ≤ 601 := by rw [← hacc, List.length_cons]; omega
    rw [hacc] at HO
    simp only [hacc]
    clear hq hacc
    by_cases hlt : j < s.size
    · have hltI : (j : Int) < (s.size : Int) := by omega
      have hb := byte_ne (c := s[j]) 34 (by omega)
      have HX1 : Hid (l.take (j + 1) = l.take j ++ [s[j]]) := by show _ = _; rw [List.take_add_one, HA.out j hlt]; rfl
      by_cases h1 : s[j] = 34
      · have tb : (((s[j]).toNat : Int) == 34) = true := by rw [show (34 : Int) = ((34 : Nat) : Int) from rfl, hb, h1]; rfl
        have HX : Hid (34 :: quoB (l.take (j + 1)) = acc ++ [34] ++ [s[j]]) := by show _ = _; rw [HX1.out, quoB_app, ← HAC.out, h1]; simp [quoB]
        clear hb h1
        go_wp2_with (at_builtin; refine ob_append w _ w.heap.size rfl _ _ _ _ acc 34 rfl rfl (by rfl) (by rfl) (HO.out.1.alloc _) (by simp) (by omega) (HO.out.2.alloc _) ?_)
        intro v' w2 k1 k2
        obtain ⟨⟨g2, cap2, rfl⟩, k3⟩ := k1
        have HO2 : Hid (OwB w2 w.heap.size (.slice (some ⟨g2, 0, none⟩) (acc ++ [34]).length cap2) (acc ++ [34]) ∧ Ext w w2) := ⟨⟨⟨g2, cap2, rfl⟩, k3⟩, k2⟩
        obtain ⟨ac2, hac2⟩ : ∃ ac2, acc ++ [34] = ac2 := ⟨_, rfl⟩
        have hal2 : ac2.length ≤ 602 := by rw [← hac2, List.length_append]; simp; omega
        rw [hac2] at HO2 HX
        simp only [hac2]
        clear k2 k3 hac2
        go_wp2_with (at_builtin; refine ob_append w _ w.heap.size rfl _ _ _ _ ac2 s[j] rfl rfl (by rfl) (by rfl) (HO2.out.1.alloc _) (by simp) (by omega) (HO2.out.2.alloc _) ?_)
        intro v' w3 k1 k2
        have HO3 : Hid (OwB w3 w.heap.size v' (ac2 ++ [s[j]]) ∧ Ext w w3) := ⟨k1, k2⟩
        clear k1 k2
        go_wp2_with fail
        go_roundw
        case rel => exact ⟨j + 1, by omega, by go_num, by rw [HX.out]; exact HO3.out.1, HO3.out.2⟩
        case measure => show s.size - ((j : Int) + 1).toNat < s.size - ((j : Int)).toNat; omega
      · have tb : (((s[j]).toNat : Int) == 34) = false := by rw [show (34 : Int) = ((34 : Nat) : Int) from rfl, hb]; simpa using h1
        have HX : Hid (34 :: quoB (l.take (j + 1)) = acc ++ [s[j]]) := by show _ = _; rw [HX1.out, quoB_app, ← HAC.out]; simp [quoB, h1]
        clear hb h1
        go_wp2_with (at_builtin; refine ob_append w _ w.heap.size rfl _ _ _ _ acc s[j] rfl rfl (by rfl) (by rfl) (HO.out.1.alloc _) (by simp) (by omega) (HO.out.2.alloc _) ?_)
        intro v' w3 k1 k2
        have HO3 : Hid (OwB w3 w.heap.size v' (acc ++ [s[j]]) ∧ Ext w w3) := ⟨k1, k2⟩
        clear k1 k2
        go_wp2_with fail
        go_roundw
        case rel => exact ⟨j + 1, by omega, by go_num, by rw [HX.out]; exact HO3.out.1, HO3.out.2⟩
        case measure => show s.size - ((j : Int) + 1).toNat < s.size - ((j : Int)).toNat; omega
    · have hltI : ¬ (j : Int) < (s.size : Int) := by omega
      have HX : Hid (quoL l = acc ++ [34]) := by
        show _ = _
        have : l.take j = l := List.take_of_length_le (by have := HL.out; omega)
        rw [← HAC.out, this]; rfl
      clear hlt
      go_wp2_with (at_builtin; refine ob_append w _ w.heap.size rfl _ _ _ _ acc 34 rfl rfl (by rfl) (by rfl) (HO.out.1.alloc _) (by simp) (by omega) (HO.out.2.alloc _) ?_)
      intro v' w3 k1 k2
      have hcv := k1.conv
      have HE3 : Hid (Ext w w3) := k2
      rw [← HX.out] at hcv
      obtain ⟨q, hq⟩ : ∃ q, bs (quoL l) = q := ⟨_, rfl⟩
      rw [hq] at hcv
      have HQ : Hid (bs (quoL l) = q) := hq
      clear k1 k2 hq
      go_wp2_with fail
      go_ret
      exact ⟨ret_s HQ.out.symm, HE3.out⟩
end Go.Proofs.YtdjniiginnlmhaaGreatDoor

namespace Go.Proofs.YtdjniiginnlmhaaGreatDoor
open Go.RowKit
set_option maxHeartbeats 1000000

theorem pbinds_any (s : ByteArray) (w : World) :
    Calls Tryz.prog 101 #[.string s] w fun e w' => e = .returned (.int .i64 ((bnd s.data.toList - 1 : Nat) : Int)) ∧ w' = w := by
  have hs := ByteArray.toList_eq s
  obtain ⟨l, hl⟩ : ∃ l, s.data.toList = l := ⟨_, rfl⟩
  rw [hl] at hs ⊢
  clear hl
  by_cases h0 : l = [38]
  · subst h0
    have e0 : (s.toList == [38]) = true := by rw [hs]; decide
    clear hs 
    go_enter Tryz.func101, Tryz.ntmps101
    go_wp2_with fail
    go_ret
    exact ⟨rfl, rfl⟩
  by_cases h1 : l = [43]
  · subst h1
    have e0 : (s.toList == [38]) = false := by rw [hs]; decide
    have e1 : (s.toList == [43]) = true := by rw [hs]; decide
    clear hs h0
    go_enter Tryz.func101, Tryz.ntmps101
    go_wp2_with fail
    go_ret
    exact ⟨rfl, rfl⟩
  by_cases h2 : l = [45]
  · subst h2
    have e0 : (s.toList == [38]) = false := by rw [hs]; decide
    have e1 : (s.toList == [43]) = false := by rw [hs]; decide
    have e2 : (s.toList == [45]) = true := by rw [hs]; decide
    clear hs h0 h1
    go_enter Tryz.func101, Tryz.ntmps101
    go_wp2_with fail
    go_ret
    exact ⟨rfl, rfl⟩
  by_cases h3 : l = [42]
  · subst h3
    have e0 : (s.toList == [38]) = false := by rw [hs]; decide
    have e1 : (s.toList == [43]) = false := by rw [hs]; decide
    have e2 : (s.toList == [45]) = false := by rw [hs]; decide
    have e3 : (s.toList == [42]) = true := by rw [hs]; decide
    clear hs h0 h1 h2
    go_enter Tryz.func101, Tryz.ntmps101
    go_wp2_with fail
    go_ret
    exact ⟨rfl, rfl⟩
  by_cases h4 : l = [47]
  · subst h4
    have e0 : (s.toList == [38]) = false := by rw [hs]; decide
    have e1 : (s.toList == [43]) = false := by rw [hs]; decide
    have e2 : (s.toList == [45]) = false := by rw [hs]; decide
    have e3 : (s.toList == [42]) = false := by rw [hs]; decide
    have e4 : (s.toList == [47]) = true := by rw [hs]; decide
    clear hs h0 h1 h2 h3
    go_enter Tryz.func101, Tryz.ntmps101
    go_wp2_with fail
    go_ret
    exact ⟨rfl, rfl⟩
  have e0 : (s.toList == [38]) = false := by rw [hs]; simpa using h0
  have e1 : (s.toList == [43]) = false := by rw [hs]; simpa using h1
  have e2 : (s.toList == [45]) = false := by rw [hs]; simpa using h2
  have e3 : (s.toList == [42]) = false := by rw [hs]; simpa using h3
  have e4 : (s.toList == [47]) = false := by rw [hs]; simpa using h4
  have HK : Hid (bnd l - 1 = 0) := by show _ = _; unfold bnd; simp only [h0, h1, h2, h3, h4, if_false, or_self]; split <;> rfl
  clear hs h0 h1 h2 h3 h4
  go_enter Tryz.func101, Tryz.ntmps101
  go_wp2_with fail
  go_ret
  exact ⟨ret_int (by rw [HK.out]; rfl), rfl⟩
/-- How tightly a tree holds together. -/
def hldT (t : T) : Nat := if t.k = 7 then bnd t.s - 1 else 4
theorem hld_loose {t : T} {k : Nat} (hk : k ≤ 4) (h : t.k = 7 → bnd t.s ≠ 0) : loose (k + 1) t = decide (hldT t < k) := by
  unfold loose hldT
  by_cases h7 : t.k = 7
  · have := h h7
    rw [if_pos h7]
    simp [h7]
    omega
  · have e7 : (t.k == 7) = false := by simpa using h7
    rw [if_neg h7, e7, Bool.false_and]
    exact (decide_eq_false (by omega)).symm
theorem holds_any (t : T) (lv : Value) (w : World) : Calls Tryz.prog 100 #[.agg #[.int .i64 t.k, .int .i64 t.n, .string (bs t.s), .int .i64 t.e, .int .i64 t.r.1, .int .i64 t.r.2.1, .bool t.r.2.2.1, .bool t.r.2.2.2, .int .i64 t.q.1, .int .i64 t.q.2.1, .bool t.q.2.2.1, .bool t.q.2.2.2, lv]] w fun e w' => e = .returned (.int .i64 ((hldT t : Nat) : Int)) ∧ Ext w w' := by
  have c1 := fun W => pbinds_any (bs t.s) W
  have es : (bs t.s).data.toList = t.s := rfl
  rw [es] at c1
  clear es
  by_cases hk : t.k = 7
  · have e7 : (t.k == 7) = true := by rw [hk]; rfl
    have HX : Hid (hldT t = bnd t.s - 1) := if_pos hk
    generalize bs t.s = q at *
    clear hk
    go_enter Tryz.func100, Tryz.ntmps100
    go_wp2_with fail
    refine (c1 _).mono ?_
    rintro e w1 ⟨rfl, rfl⟩
    go_wp2_with fail
    go_ret
    exact ⟨ret_int (by rw [HX.out]), (Ext.refl _).alloc _⟩
  · have e7 : (t.k == 7) = false := by simpa using hk
    have HX : Hid (hldT t = 4) := if_neg hk
    clear hk c1
    go_enter Tryz.func100, Tryz.ntmps100
    go_wp2_with fail
    go_ret
    exact ⟨ret_int (by rw [HX.out]; rfl), (Ext.refl _).alloc _⟩
end Go.Proofs.YtdjniiginnlmhaaGreatDoor

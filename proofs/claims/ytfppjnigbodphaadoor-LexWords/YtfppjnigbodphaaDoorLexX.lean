/-
  The document's texts: bytes that are gathered in a slice.
-/
import Derived.Test.YtfppjnigbodphaaDoorLexW
import Derived.Test.YtfppjnigbodphaaDoorLexU
import Derived.Test.YtfppjnigbodphaaDoorLexL
import Derived.Laws.IdiomStrings
namespace Go.Proofs.YtfppjnigbodphaaDoor
open Go.RowKit
set_option maxHeartbeats 1000000

/-- v holds the bytes l in a block of the call's own, from base on. -/
def OwB (w : World) (base : Nat) (v : Value) (l : List UInt8) : Prop := (∃ g cap, v = .slice (some ⟨g, 0, none⟩) l.length cap) ∧ w.ownsRow base 5 1 v l.length (Lib.byteCells l)
theorem OwB.alloc {w : World} {base : Nat} {v : Value} {l : List UInt8} (h : OwB w base v l) (o : Obj) : OwB (w.alloc o) base v l := ⟨h.1, h.2.alloc o⟩
theorem OwB.conv {w : World} {base : Nat} {v : Value} {l : List UInt8} (h : OwB w base v l) : (convert 49 9 v).run Tryd.prog w = .ok (.string (bs l)) w := by
  obtain ⟨⟨g, cap, rfl⟩, h2⟩ := h
  exact run_convert_bytes_back w 49 9 5 ⟨g, 0, none⟩ cap l Tryd.underlying49 Tryd.underlying5 Tryd.underlying9 (fun j hj => h2.cells (g := g) rfl j _ (by rw [List.getElem?_eq_getElem (by rw [Lib.byteCells_length]; exact hj)]; simp [Lib.byteCells]))
theorem owb_new (W : World) (base : Nat) (h : base ≤ W.heap.size) : OwB (W.alloc (.cells #[] 5)) base (.slice (some ⟨W.heap.size, 0, none⟩) 0 0) [] :=
  ⟨⟨_, _, rfl⟩, World.ownsRow_made W #[] 0 h (by unfold maxLen; omega) (by simp)⟩
theorem ob_append {ops : Array Oper} {rest : List Oper} {o : Oper} {a : Act} {Q : Exit → Act → World → Prop} (w W : World) (base : Nat) (hbase : base = w.heap.size) (s x : Operand) (v : Value) (b : Nat) (l : List UInt8) (c : UInt8) (hgd : o.guard = none)
    (ho : o.op = .call { callee := .builtin .append, args := #[s, x], argTypes := #[49, 49] })
    (hs : a.eval s = v) (hx : a.eval x = .slice (some ⟨b, 0, none⟩) 1 1) (hB : OwB W base v l) (hR : W.cell? ⟨b, 0, none⟩ = some (.int .u8 (c.toNat : Int))) (hlen : l.length ≤ 100000) (hE : Ext w W)
    (h : ∀ v' W', OwB W' base v' (l ++ [c]) → Ext w W' → wpList Tryd.prog ops Q rest (a.put o.dst v') W') : wpList Tryd.prog ops Q (o :: rest) a W := by
  subst hbase
  obtain ⟨i, hi, hz, h1, h2⟩ := byte_info
  refine wpList_append_own_at W hgd s x 49 ho w.heap.size 5 i _ 1 1 Tryd.underlying49 hi hz h1 h2 rfl (by decide) v l.length (Lib.byteCells l) hs hB.2 ⟨b, 0, none⟩ 1 1 [.int .u8 (c.toNat : Int)] hx rfl ?_ ?_ (by unfold maxLen; omega) (by omega) hE.size ?_
  · intro j u hj
    match j, hj with
    | 0, hj => simp at hj; subst hj; rw [Addr.add_lit]; exact hR
  · intro u hu; simp at hu; subst hu; rfl
  · intro v' W' h3 h4 _ _
    have e : Lib.byteCells l ++ [.int .u8 (c.toNat : Int)] = Lib.byteCells (l ++ [c]) := by simp [Lib.byteCells]
    rw [e] at h3
    have e2 : (l ++ [c]).length = l.length + 1 := by simp
    refine h v' W' ⟨?_, by rw [e2]; exact h3⟩ ⟨h4.os.trans hE.os, h4.tape.trans hE.tape, h4.output.trans hE.output, Nat.le_trans hE.size h4.size, fun k hk => ?_⟩
    · rw [e2]
      rcases h3.2 with ⟨_, h0⟩ | ⟨g, cap, cur, hv, _⟩
      · omega
      · exact ⟨g, cap, hv⟩
    · refine (h4.block k (Nat.lt_of_lt_of_le hk hE.size) (fun e => ?_)).trans (hE.block k hk)
      have := (hB.2.lt k e.symm).1
      omega

theorem qtext_any (s : ByteArray) (k : Nat) (w : World) (hk : k < s.size) (hs : s.size ≤ 300) :
    Calls Tryd.prog 19 #[.string s, .int .i64 (k : Int)] w fun e w' => RxR (txtR (s.data.toList.drop k)) k e ∧ Ext w w' := by
  have hl := size_list s
  obtain ⟨l, hll⟩ : ∃ l, s.data.toList = l := ⟨_, rfl⟩
  have HL : Hid (l.length = s.size) := by show _ = _; rw [← hll]; exact hl
  have HA : Hid (∀ i (h : i < s.size) (h' : i < l.length), l[i] = s[i]) := by intro i h h'; subst hll; rfl
  have cI : ∀ i W, i ≤ s.size → Calls Tryd.prog 20 #[.string s, .int .i64 (i : Int), .string ⟨#[34]⟩] W fun e w' => e = .returned (.bool (decide ((l.drop i).head? = some 34))) ∧ w' = W := by
    intro i W hi
    have h := qis_any s ⟨#[34]⟩ i W hi hs (by decide)
    rw [hll] at h
    have hdot : ((⟨#[34]⟩ : ByteArray).data.toList.isPrefixOf (l.drop i)) = decide ((l.drop i).head? = some 34) := by
      show List.isPrefixOf [34] (l.drop i) = _
      rw [Bool.eq_iff_iff]
      cases l.drop i with
      | nil => simp
      | cons c r => simp [List.isPrefixOf]; exact eq_comm
    rwa [hdot] at h
  have HI : Hid (∀ i W, i ≤ s.size → Calls Tryd.prog 20 #[.string s, .int .i64 (i : Int), .string ⟨#[34]⟩] W fun e w' => e = .returned (.bool (decide ((l.drop i).head? = some 34))) ∧ w' = W) := cI
  rw [hll]
  clear hl hll cI
  go_enter Tryd.func19, Tryd.ntmps19
  go_wp2_with fail
  go_loopw [7, 8] (fun v i wr => ∃ (j : Nat) (acc : List UInt8), j ≤ s.size ∧ i = .int .i64 (j : Int) ∧ TxA l k j acc ∧ OwB wr (w.heap.size + 1) v acc ∧ Ext (w.alloc (.cells #[.int .i64 0, .int .i64 0, .string ⟨#[]⟩, .int .i64 0, .int .i64 0] 30)) wr) (fun _ i _ => s.size - (intOf i).toNat)
  case atStart => exact ⟨k + 1, [], hk, by go_num, TxA.start l k, by have := owb_new (w.alloc (.cells #[.int .i64 0, .int .i64 0, .string ⟨#[]⟩, .int .i64 0, .int .i64 0] 30)) _ (Nat.le_refl _); simpa using this, (Ext.refl _).alloc _⟩
  case round =>
    obtain ⟨j, acc, hj, rfl, hT, hO, hE⟩ := hrel
    obtain ⟨⟨g, cap, rfl⟩, hO2⟩ := hO
    have HT : Hid (TxA l k j acc) := hT
    have HO : Hid (OwB wr (w.heap.size + 1) (.slice (some ⟨g, 0, none⟩) acc.length cap) acc) := ⟨⟨g, cap, rfl⟩, hO2⟩
    have HE : Hid (Ext (w.alloc (.cells #[.int .i64 0, .int .i64 0, .string ⟨#[]⟩, .int .i64 0, .int .i64 0] 30)) wr) := hE
    have HC : Hid (acc.length ≤ 1000) := by have := hT.2.1; show _ ≤ _; omega
    have HJ : Hid (k + 1 ≤ j) := hT.1
    clear hT hO2 hE
    by_cases hlt : j < s.size
    · have hltI : (j : Int) < (s.size : Int) := by omega
      have wk : wrap64 ((j : Int) + 1) = ((j + 1 : Nat) : Int) := by unfold wrap64; omega
      have hb := byte_ne (c := s[j]) 34 (by omega)
      by_cases h1 : s[j] = 34
      · have tb : (((s[j]).toNat : Int) != 34) = false := by rw [bne, show (34 : Int) = ((34 : Nat) : Int) from rfl, hb, h1]; rfl
        have c1 := fun W => HI.out (j + 1) W hlt
        by_cases h2 : (l.drop (j + 1)).head? = some 34
        · rw [decide_eq_true h2] at c1
          have hlt2 : j + 1 < l.length := by
            rw [List.head?_drop] at h2; exact (List.getElem?_eq_some_iff.mp h2).1
          have HX : Hid (TxA l k (j + 1 + 1) (acc ++ [34])) := by
            rw [List.head?_drop, List.getElem?_eq_getElem hlt2] at h2
            exact HT.out.two hlt2 (by rw [HA.out j hlt]; exact h1) (Option.some.inj h2)
          have hlt3 : (j : Int) + 1 < (s.size : Int) := by have := HL.out; omega
          have HB : Hid (j + 1 + 1 ≤ s.size) := by have := HL.out; show _ ≤ _; omega
          clear hb h1 h2 hlt2
          go_wp2_with fail
          refine (c1 _).mono ?_
          rintro e w1 ⟨rfl, rfl⟩
          go_wp2_with (at_builtin; refine ob_append (w.alloc (.cells #[.int .i64 0, .int .i64 0, .string ⟨#[]⟩, .int .i64 0, .int .i64 0] 30)) _ (w.heap.size + 1) (by simp) _ _ _ _ acc 34 rfl rfl (by rfl) (by rfl) (HO.out.alloc _) (by simp) (by have := HC.out; omega) (HE.out.alloc _) ?_)
          intro v' w2 k1 k2
          have HO2 : Hid (OwB w2 (w.heap.size + 1) v' (acc ++ [34]) ∧ Ext (w.alloc (.cells #[.int .i64 0, .int .i64 0, .string ⟨#[]⟩, .int .i64 0, .int .i64 0] 30)) w2) := ⟨k1, k2⟩
          clear k1 k2
          go_wp2_with fail
          go_roundw
          case rel => exact ⟨j + 1 + 1, acc ++ [34], HB.out, by go_num, HX.out, HO2.out.1, HO2.out.2⟩
          case measure => simp [intOf]; omega
        · rw [decide_eq_false h2] at c1
          have HX : Hid (txtR (l.drop k) = .ok (1, acc, 0, 0, j + 1 - k)) := HT.out.done (by have := HL.out; omega) (by rw [HA.out j hlt]; exact h1) h2
          have CV : Hid (∀ v, v = Value.slice (some ⟨g, 0, none⟩) acc.length cap → (convert 49 9 v).run Tryd.prog wr = .ok (.string (bs acc)) wr) := by rintro v rfl; exact HO.out.conv
          clear hb h1 h2
          go_wp2_with fail
          refine (c1 _).mono ?_
          rintro e w1 ⟨rfl, rfl⟩
          have hcv := CV.out _ rfl
          obtain ⟨q, hq⟩ : ∃ q, bs acc = q := ⟨_, rfl⟩
          rw [hq] at hcv
          have HQ : Hid (bs acc = q) := hq
          have B3 := blk5_top rfl HE.out
          have X3 := ((Ext.refl w).alloc _).trans HE.out
          have D3 := B3
          obtain ⟨_, ⟨b0, b1, b2, b3, b4⟩, f0, f1, f2, f3, f4⟩ := D3
          clear hq
          go_wp2_with fail
          refine fin5 _ (B3.set _ _ _ _ _) rfl (by with_reducible repeat (first | assumption | exact Ext.refl _ | apply Ext.alloc | apply Ext.drewN | (refine Ext.setCell ?_ (by simp) _))) (fun g0 g1 g2 g3 g4 => by simp [results, Tryd.results19, go_sem, g0, g1, g2, g3, g4]; rfl) (fun h => ⟨?_, h⟩)
          rw [HX.out]
          rw [← HQ.out]
          exact rx_fin (1, acc, 0, 0, j + 1 - k) k _ (by have := HJ.out; simp; omega)
      · have tb : (((s[j]).toNat : Int) != 34) = true := by rw [bne, show (34 : Int) = ((34 : Nat) : Int) from rfl, hb]; simpa using h1
        have HX : Hid (TxA l k (j + 1) (acc ++ [s[j]])) := by
          have h3 : j < l.length := by have := HL.out; omega
          have := HT.out.one h3 (by rw [HA.out j hlt]; exact h1)
          rwa [HA.out j hlt] at this
        clear hb h1
        go_wp2_with (at_builtin; refine ob_append (w.alloc (.cells #[.int .i64 0, .int .i64 0, .string ⟨#[]⟩, .int .i64 0, .int .i64 0] 30)) _ (w.heap.size + 1) (by simp) _ _ _ _ acc s[j] rfl rfl (by rfl) (by rfl) (HO.out.alloc _) (by simp) (by have := HC.out; omega) (HE.out.alloc _) ?_)
        intro v' w2 k1 k2
        have HO2 : Hid (OwB w2 (w.heap.size + 1) v' (acc ++ [s[j]]) ∧ Ext (w.alloc (.cells #[.int .i64 0, .int .i64 0, .string ⟨#[]⟩, .int .i64 0, .int .i64 0] 30)) w2) := ⟨k1, k2⟩
        clear k1 k2
        go_wp2_with fail
        go_roundw
        case rel => exact ⟨j + 1, acc ++ [s[j]], by omega, by go_num, HX.out, HO2.out.1, HO2.out.2⟩
        case measure => simp [intOf]; omega
    · have hltI : ¬ (j : Int) < (s.size : Int) := by omega
      have HX : Hid (txtR (l.drop k) = .error 4) := HT.out.none (by have := HL.out; omega)
      have B3 := blk5_top rfl HE.out
      have X3 := ((Ext.refl w).alloc _).trans HE.out
      have D3 := B3
      obtain ⟨_, ⟨b0, b1, b2, b3, b4⟩, f0, f1, f2, f3, f4⟩ := D3
      go_wp2_with fail
      refine fin5 _ (B3.set _ _ _ _ _) rfl (by with_reducible repeat (first | assumption | exact Ext.refl _ | apply Ext.alloc | apply Ext.drewN | (refine Ext.setCell ?_ (by simp) _))) (fun g0 g1 g2 g3 g4 => by simp [results, Tryd.results19, go_sem, g0, g1, g2, g3, g4]; rfl) (fun h => ⟨?_, h⟩)
      rw [HX.out]
      exact rfl
end Go.Proofs.YtfppjnigbodphaaDoor

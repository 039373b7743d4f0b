/-
  strings.IndexAny of any text for a sign of '$0123456789': the first place of such a byte.
-/
import Derived.Test.YtdklhgfkaablbaaDoorCooC
import Derived.Lib.OthersKept
import Derived.Deep.WholeRow
import Derived.Shelf.Strings.AsciiSet
namespace Go.Proofs.YtdklhgfkaablbaaDoor
open Go.RowKit
set_option maxHeartbeats 1000000

/-- The signs that end a name. -/
def sgns : List UInt8 := [36, 48, 49, 50, 51, 52, 53, 54, 55, 56, 57]
theorem sgn_eq (c : UInt8) : sgns.contains c = (c == 36 || dgB c) := by
  have : ∀ c : Fin 256, sgns.contains (UInt8.ofNat c.val) = (UInt8.ofNat c.val == 36 || dgB (UInt8.ofNat c.val)) := by decide +kernel
  have h := this ⟨c.toNat, c.toNat_lt⟩
  simpa using h
theorem sgn_high (c : UInt8) (h : 128 ≤ c.toNat) : sgns.contains c = false := by
  rw [sgn_eq]
  have : (c == 36) = false := beq_eq_false_iff_ne.2 fun e => by rw [e] at h; exact absurd h (by decide)
  rw [this]
  unfold dgB; simp; omega
theorem get_bang (s : ByteArray) (i : Nat) (h : i < s.size) : s.get! i = s[i]'h := get_at s i h
theorem decode_span (s : ByteArray) (pos : Nat) (h : pos < s.size) (ha : 128 ≤ (s[pos]'h).toNat) :
    ∀ j, pos ≤ j → j < pos + (Utf8.decode s pos).2 → ∃ hj : j < s.size, 128 ≤ (s[j]'hj).toNat := by
  have hn : ¬ (s[pos]'h).toNat < 128 := by omega
  have cont : ∀ k, (decide (pos + k < s.size) && (s.get! (pos + k)).toNat / 64 == 2) = true → ∃ hj : pos + k < s.size, 128 ≤ (s[pos + k]'hj).toNat := by
    intro k hk
    rw [Bool.and_eq_true, decide_eq_true_eq, beq_iff_eq] at hk
    refine ⟨hk.1, ?_⟩
    have := hk.2
    rw [get_bang s _ hk.1] at this
    omega
  have c1 := cont 1
  have c2 := cont 2
  have c3 := cont 3
  clear cont
  have c0 : ∃ hj : pos < s.size, 128 ≤ (s[pos]'hj).toNat := ⟨h, ha⟩
  intro j hj
  simp only [Utf8.decode, get_at s pos h, hn, if_false]
  repeat' split
  all_goals
    intro hk
    try simp only at hk
  all_goals
    by_cases e0 : j = pos
    · subst e0; exact c0
    by_cases e1 : j = pos + 1
    · subst e1; first | omega | (refine c1 ?_; simp_all)
    by_cases e2 : j = pos + 2
    · subst e2; first | omega | (refine c2 ?_; simp_all)
    by_cases e3 : j = pos + 3
    · subst e3; first | omega | (refine c3 ?_; simp_all)
    omega

theorem noany_more {l : List UInt8} {i k : Nat} (h : Lib.NoAny l sgns i) (hk : ∀ j b, i ≤ j → j < k → l[j]? = some b → sgns.contains b = false) : Lib.NoAny l sgns k := fun j b hj hb => by
  by_cases g : j < i
  · exact h j b g hb
  · exact hk j b (by omega) hj hb
theorem at_get (s : ByteArray) (i : Nat) (h : i < s.size) : s.data.toList[i]? = some (s[i]'h) := Lib.data_getElem? s i h
theorem iter_ext {w wx : World} {s : ByteArray} {q : Nat} (E : Ext w wx) : Ext w (wx.iterAt w.heap.size s q) := by
  obtain ⟨a, b, c, d, e⟩ := E
  refine ⟨a, b, c, ?_, ?_⟩
  · simpa [World.iterAt] using d
  · intro i hi
    rw [← e i hi]
    show (wx.heap.setIfInBounds w.heap.size _)[i]? = _
    rw [Array.getElem?_setIfInBounds_ne (by omega)]
theorem iterPos_of {w : World} {k : Nat} {s : ByteArray} {p : Nat} (h : w.heap[k]? = some (.stringIter s p)) : w.iterPos k = p := by simp [World.iterPos, h]
def sg : ByteArray := ⟨sgns.toArray⟩

set_option maxRecDepth 100000 in
theorem iany_short (s : ByteArray) (w : World) (h8 : s.size ≤ 8) :
    Calls Tryd.prog 29 #[.string s, .string sg] w fun e w' => e = .returned (.int .i64 (Lib.indexAny s.data.toList sgns)) ∧ Ext w w' := by
  have cS := fun W => Tryd.strings_shouldUseASCIISet (s.size : Int) W
  rw [show decide ((8 : Int) < (s.size : Int)) = false from decide_eq_false (by omega)] at cS
  have cA := fun r W h0 h1 => Tryd.strings_IndexRune_ascii sg r W h0 h1
  have cE := fun W => irune_err sg W
  have cH := fun r W h1 h2 h3 => irune_high r sg W h1 h2 h3 rfl
  have hS : ∀ k (h : k < sg.size), (sg[k]'h).toNat < 128 := by
    have : ∀ k : Fin 11, (sg[k.val]'(k.isLt)).toNat < 128 := by decide +kernel
    exact fun k h => this ⟨k, h⟩
  have h11 : sg.size = 11 := rfl
  have hemp : sg.toList.isEmpty = false := by decide +kernel
  have hd : sg.data.toList = sgns := rfl
  rw [hd] at cA
  have HL : Hid (s.data.toList.length = s.size) := size_list s
  clear hd
  generalize sg = C at *
  have HS : Hid (∀ k (h : k < C.size), (C[k]'h).toNat < 128) := hS
  have hs : (s.size : Int) ≤ 8 := by omega
  clear hS
  go_enter Tryd.func29, Tryd.ntmps29
  go_wp2_with fail
  refine (cS _).mono ?_
  rintro e w' ⟨rfl, rfl⟩
  go_wp2_with fail
  go_loopw [9, 10] (fun _ _ wx => ∃ i : Nat, i ≤ s.size ∧ Ext w' wx ∧ wx.heap[w'.heap.size]? = some (.stringIter s i) ∧ Lib.NoAny s.data.toList sgns i) (fun _ _ wx => s.size - wx.iterPos w'.heap.size)
  case atStart => exact ⟨0, Nat.zero_le _, ext_iter _ _ _, World.iter_heap _ _ _, Lib.NoAny.zero _ _⟩
  case round =>
    obtain ⟨i, hi, E, hit, hno⟩ := hrel
    have HN : Hid (Lib.NoAny s.data.toList sgns i) := hno
    have HI : Hid (wr.heap[w'.heap.size]? = some (.stringIter s i)) := hit
    clear hno
    by_cases hlt : i < s.size
    · obtain ⟨x, hx⟩ : ∃ x : UInt8, s[i]'hlt = x := ⟨_, rfl⟩
      have HX : Hid (s.data.toList[i]? = some x) := by show _ = _; rw [← hx]; exact at_get s i hlt
      by_cases ha : x.toNat < 128
      · have hnx := fun ty => Lib.run_next_ascii_at (P := Tryd.prog) wr w'.heap.size s i ty hit hlt (by rw [hx]; exact ha)
        rw [hx] at hnx
        have E1 := iter_ext (s := s) (q := i + 1) E
        have HI1 : Hid (_ = _) := Lib.iterAt_heap wr w'.heap.size s i (i + 1) hit
        generalize wr.iterAt w'.heap.size s (i + 1) = W1 at hnx E1 HI1
        have cx := fun W => cA (x.toNat : Int) W (by omega) (by omega)
        rw [show ((x.toNat : Int)).toNat.toUInt8 = x from by simp] at cx
        have hcon := Lib.contains_iff_indexByte sgns x
        clear hit hx
        cases hin : sgns.contains x
        · rw [hin] at hcon
          have hneg : ¬ ((0 : Int) ≤ Lib.indexByte sgns x) := of_decide_eq_false hcon.symm
          have HIN : Hid (sgns.contains x = false) := hin
          clear hcon hin
          generalize Lib.indexByte sgns x = z at cx hneg
          go_wp2_with fail
          refine (cx _).mono ?_
          rintro e w2 ⟨rfl, rfl⟩
          go_wp2_with fail
          go_roundw
          case rel => exact ⟨i + 1, by omega, E1, HI1.out, HN.out.succ HX.out HIN.out⟩
          case measure => rw [iterPos_of HI1.out, iterPos_of HI.out]; omega
        · rw [hin] at hcon
          have hpos : (0 : Int) ≤ Lib.indexByte sgns x := of_decide_eq_true hcon.symm
          have HR : Hid (Lib.indexAny s.data.toList sgns = i) := Lib.indexAny_hit HN.out HX.out hin
          clear hcon hin
          generalize Lib.indexByte sgns x = z at cx hpos
          go_wp2_with fail
          refine (cx _).mono ?_
          rintro e w2 ⟨rfl, rfl⟩
          go_wp2_with fail
          go_ret
          exact ⟨ret_int HR.out.symm, E1⟩
      · have hnx := fun ty => Lib.run_next_any_at (P := Tryd.prog) wr w'.heap.size s i ty hit hlt
        have hsp := decode_span s i hlt (by rw [hx]; omega)
        obtain ⟨d1, d2⟩ := decode_high s i hlt (by rw [hx]; omega)
        have d3 := decode_le s i
        generalize (Utf8.decode s i).1 = r at hnx d1 d3
        generalize (Utf8.decode s i).2 = k at hnx hsp d2
        have hk : i + k ≤ s.size := by
          obtain ⟨h, _⟩ := hsp (i + k - 1) (by omega) (by omega)
          omega
        have HN2 : Hid (Lib.NoAny s.data.toList sgns (i + k)) := noany_more HN.out (fun j b h1 h2 hb => by
          obtain ⟨hj, h3⟩ := hsp j h1 h2
          rw [at_get s j hj] at hb
          obtain rfl := Option.some.inj hb
          exact sgn_high _ h3)
        have E1 := iter_ext (s := s) (q := i + k) E
        have HI1 : Hid (_ = _) := Lib.iterAt_heap wr w'.heap.size s i (i + k) hit
        generalize wr.iterAt w'.heap.size s (i + k) = W1 at hnx E1 HI1
        have HK : Hid (i + k ≤ s.size ∧ 1 ≤ k) := ⟨hk, d2⟩
        have cr : ∀ W, Calls Tryd.prog 39 #[.string C, .int .i32 (r : Int)] W fun e w' => e = .returned (.int .i64 (-1)) ∧ Ext W w' := by
          intro W
          by_cases g : (r : Int) = 65533
          · rw [g]; exact cE W HS.out
          · exact cH (r : Int) W (by omega) (by omega) g HS.out
        clear hsp hit hx ha hk d1 d2 d3
        go_wp2_with fail
        refine (cr _).mono ?_
        rintro e w2 ⟨rfl, E2⟩
        have HI2 : Hid (w2.heap[w'.heap.size]? = some (.stringIter s (i + k))) := by
          show _ = _
          rw [E2.block _ (Array.getElem?_eq_some_iff.1 HI1.out).1]; exact HI1.out
        have E3 := E1.trans E2
        go_wp2_with fail
        go_roundw
        case rel => exact ⟨i + k, HK.out.1, E3, HI2.out, HN2.out⟩
        case measure => rw [iterPos_of HI2.out, iterPos_of HI.out]; have := HK.out; omega
    · obtain rfl : i = s.size := by omega
      have hnx := fun ty => Lib.run_next_end_at (P := Tryd.prog) wr w'.heap.size s s.size ty hit hlt
      have HR : Hid (Lib.indexAny s.data.toList sgns = -1) := Lib.indexAny_none (by rw [HL.out]; exact HN.out)
      clear hit
      go_wp2_with fail
      go_ret
      exact ⟨ret_int HR.out.symm, E⟩

theorem info_set : (Tryd.prog.info? 54).map (fun i => (i.zero, i.size)) = some (some (.agg (Array.replicate 256 (.bool false))), 256) := by kernel_rfl
set_option maxRecDepth 1000000 in
set_option maxHeartbeats 4000000 in
theorem iany_long (s : ByteArray) (w : World) (h8 : ¬ s.size ≤ 8) (hs : s.size ≤ maxLen) :
    Calls Tryd.prog 29 #[.string s, .string sg] w fun e w' => e = .returned (.int .i64 (Lib.indexAny s.data.toList sgns)) ∧ Ext w w' := by
  unfold maxLen at hs
  have hz := zero_of_info info_set
  have cS := fun W => Tryd.strings_shouldUseASCIISet (s.size : Int) W
  rw [show decide ((8 : Int) < (s.size : Int)) = true from decide_eq_true (by omega)] at cS
  have cM := fun W => Tryd.strings_makeASCIISet hz.1 sg W (by decide) (by
    have : ∀ b ∈ sgns, b.toNat < 128 := by decide +kernel
    exact fun j b hb => this b (List.mem_of_getElem? hb))
  have h11 : sg.size = 11 := rfl
  have hemp : sg.toList.isEmpty = false := by decide +kernel
  have hd : sg.data.toList = sgns := rfl
  rw [hd] at cM
  have HL : Hid (s.data.toList.length = s.size) := size_list s
  clear hd
  generalize sg = C at *
  have hsI : (s.size : Int) ≤ 9223372036854775807 := by omega
  have hsc : (storeCells ⟨w.heap.size + 1, 0, none⟩ (Lib.setCells sgns).toList 0).run Tryd.prog ((w.alloc (.cells (Lib.setCells sgns) 54)).alloc (.cells Tryd.zeroCells54 54)) = .ok () ((w.alloc (.cells (Lib.setCells sgns) 54)).alloc (.cells (Lib.setCells sgns) 54)) := by
    have := run_storeCells_new (P := Tryd.prog) (w.alloc (.cells (Lib.setCells sgns) 54)) 54 Tryd.zeroCells54 (Lib.setCells sgns) (by rw [Lib.setCells_size]; exact hz.2) (by rw [Lib.setCells_size]; kernel_rfl) (Lib.setCells_one _)
    simpa using this
  have HC : Hid (∀ x : UInt8, ((w.alloc (.cells (Lib.setCells sgns) 54)).alloc (.cells (Lib.setCells sgns) 54)).cell? ⟨w.heap.size + 1, x.toNat, none⟩ = some (.bool (sgns.contains x))) := fun x => by
    rw [World.cell?_alloc_at _ _ _ _ (by simp), Lib.setCells_at]
  have hsz := Lib.setCells_size sgns
  have HSC : Hid (_ = _) := hsc
  have EX : Ext w ((w.alloc (.cells (Lib.setCells sgns) 54)).alloc (.cells (Lib.setCells sgns) 54)) := ((Ext.refl w).alloc _).alloc _
  clear hz hsc
  go_enter Tryd.func29, Tryd.ntmps29
  go_wp2_with fail
  refine (cS _).mono ?_
  rintro e w' ⟨rfl, rfl⟩
  go_wp2_with fail
  refine (cM _).mono ?_
  rintro e w1 ⟨rfl, rfl⟩
  go_wp2_with fail
  rw [HSC.out]
  clear HSC cS cM
  generalize (w'.alloc (.cells (Lib.setCells sgns) 54)).alloc (.cells (Lib.setCells sgns) 54) = W1 at *
  simp only [Result.andThen]
  rw [Oper.upon_skip]
  go_wp2_with fail
  go_loopw [8] (fun v8 wx => ∃ i : Nat, i ≤ s.size ∧ v8 = .int .i64 i ∧ wx = W1 ∧ Lib.NoAny s.data.toList sgns i) (fun v8 _ => s.size - (intOf v8).toNat)
  case atStart => exact ⟨0, Nat.zero_le _, rfl, rfl, Lib.NoAny.zero _ _⟩
  case round =>
    obtain ⟨i, hi, rfl, rfl, hno⟩ := hrel
    have HN : Hid (Lib.NoAny s.data.toList sgns i) := hno
    clear hno
    by_cases hlt : i < s.size
    · obtain ⟨x, hx⟩ : ∃ x : UInt8, s[i]'hlt = x := ⟨_, rfl⟩
      have HX : Hid (s.data.toList[i]? = some x) := by show _ = _; rw [← hx]; exact at_get s i hlt
      have cc := Tryd.asciiSet_contains (w'.heap.size + 1) x (sgns.contains x) wr (HC.out x)
      have hltI : (i : Int) < s.size := by omega
      cases hin : sgns.contains x
      · rw [hin] at cc
        have HIN : Hid (sgns.contains x = false) := hin
        clear hin
        go_wp2_with fail
        refine cc.mono ?_
        rintro e w2 ⟨rfl, rfl⟩
        go_wp2_with fail
        go_roundw
        case rel => exact ⟨i + 1, by omega, by go_num, by first | rfl | trivial, HN.out.succ HX.out HIN.out⟩
        case measure => simp [intOf]; omega
      · rw [hin] at cc
        have HR : Hid (Lib.indexAny s.data.toList sgns = i) := Lib.indexAny_hit HN.out HX.out hin
        clear hin
        go_wp2_with fail
        refine cc.mono ?_
        rintro e w2 ⟨rfl, rfl⟩
        go_wp2_with fail
        go_ret
        exact ⟨ret_int HR.out.symm, EX⟩
    · obtain rfl : i = s.size := by omega
      have HR : Hid (Lib.indexAny s.data.toList sgns = -1) := Lib.indexAny_none (by rw [HL.out]; exact HN.out)
      go_wp2_with fail
      go_ret
      exact ⟨ret_int HR.out.symm, EX⟩
theorem iany_any (s : ByteArray) (w : World) (hs : s.size ≤ maxLen) :
    Calls Tryd.prog 29 #[.string s, .string sg] w fun e w' => e = .returned (.int .i64 (Lib.indexAny s.data.toList sgns)) ∧ Ext w w' := by
  by_cases h : s.size ≤ 8
  · exact iany_short s w h
  · exact iany_long s w h hs
end Go.Proofs.YtdklhgfkaablbaaDoor

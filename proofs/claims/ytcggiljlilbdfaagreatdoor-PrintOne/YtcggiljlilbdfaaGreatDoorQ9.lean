/-
 strings.IndexRune at a rune that is not ASCII over an ASCII text: none.
 strings.IndexAny of any text for a sign of '$0123456789': the first place of such a byte.
 A struct of four fields in a block of its own: laid, kept, stored; the end of a function whose result lies in one.
 References as texts, plain data; the contracts of package coord's rowNumber, sign and Parse.
-/
import Derived.Test.YtcggiljlilbdfaaGreatDoorQ8
import Derived.Test.YtcggiljlilbdfaaGreatDoorShelf
import Derived.Laws.Runes
import Derived.Laws.RangeAny
import Derived.Lib.IndexAny
import Derived.WalkMore
import Derived.Lib.OthersKept
import Derived.Deep.WholeRow
import Derived.Shelf.Strings.AsciiSet
import Derived.Test.YtcggiljlilbdfaaGreatDoorQ1
namespace Go.Proofs.YtcggiljlilbdfaaGreatDoor
open Go.RowKit
set_option maxHeartbeats 1000000

theorem ext_iter (w : World) (s : ByteArray) (p : Nat) : Ext w (w.iter s p) := (Ext.refl w).alloc _
theorem vr_eq (r : Int) : Lib.validRune r = Utf8.valid r := by
 rw [validRune_eq]
 first | rfl | (unfold Lib.validRune validRune; rw [Bool.eq_iff_iff]; simp; omega)
theorem index_none (l : List UInt8) (c : UInt8) (h : ∀ b ∈ l, b ≠ c) : Lib.indexByte l c = -1 := by
 have h1 := Lib.indexAny_one c l
 rw [← h1]
 refine Lib.indexAny_none ?_
 intro j b hj hb
 have := h b (List.mem_of_getElem? hb)
 simpa using this

set_option maxRecDepth 100000 in
theorem irune_err (S : ByteArray) (w : World) (hS : ∀ k (h : k < S.size), (S[k]'h).toNat < 128) :
   Calls Tryz.prog 142 #[.string S, .int .i32 65533] w fun e w' => e = .returned (.int .i64 (-1)) ∧ Ext w w' := by
 have HS : Hid (∀ k (h : k < S.size), (S[k]'h).toNat < 128) := hS
 clear hS
 go_enter Tryz.func142, Tryz.ntmps142
 go_wp2_with fail
 go_loopw [5, 6] (fun _ _ wx => ∃ i : Nat, i ≤ S.size ∧ wx = w.iter S i) (fun _ _ wx => S.size - wx.iterPos w.heap.size)
 case atStart => exact ⟨0, Nat.zero_le _, rfl⟩
 case round =>
   obtain ⟨i, hi, rfl⟩ := hrel
   by_cases hlt : i < S.size
   · have hx := HS.out i hlt
     have hnx := fun ty => run_next_ascii (P := Tryz.prog) w S i ty hlt hx
     have h5 : ((S[i].toNat : Int) == 65533) = false := beq_eq_false_iff_ne.2 (by omega)
     have h6 : (S[i].toNat : Int) < 128 := by omega
     clear hx
     go_wp2_with fail
     go_roundw
     case rel => exact ⟨i + 1, by omega, rfl⟩
     case measure => rw [World.iterPos_iter, World.iterPos_iter]; omega
   · obtain rfl : i = S.size := by omega
     have hnx := fun ty => run_next_end (P := Tryz.prog) w S S.size ty hlt
     go_wp2_with fail
     go_ret
     exact ⟨rfl, ext_iter _ _ _⟩

set_option maxRecDepth 100000 in
theorem irune_high (r : Int) (S : ByteArray) (w : World) (h1 : 128 ≤ r) (h2 : r ≤ 2147483647) (h3 : r ≠ 65533) (hm : S.size = 11) (hS : ∀ k (h : k < S.size), (S[k]'h).toNat < 128) :
   Calls Tryz.prog 142 #[.string S, .int .i32 r] w fun e w' => e = .returned (.int .i64 (-1)) ∧ Ext w w' := by
 have c := fun W => Tryz.utf8_ValidRune r W
 rw [vr_eq] at c
 have h4 : (r == 65533) = false := beq_eq_false_iff_ne.2 h3
 have h5 : decide (0 ≤ r) = true := decide_eq_true (by omega)
 have h6 : decide (r < 128) = false := decide_eq_false (by omega)
 have h7 : ¬ r < 128 := by omega
 have h8 : 0 ≤ r := by omega
 cases hv : Utf8.valid r
 · rw [hv] at c
   go_enter Tryz.func142, Tryz.ntmps142
   go_wp2_with fail
   refine (c _).mono ?_
   rintro e w' ⟨rfl, rfl⟩
   go_wp2_with fail
   go_ret
   exact ⟨rfl, Ext.refl _⟩
 · rw [hv] at c
   obtain ⟨f1, f2, f3⟩ := encode_facts r hv h1
   obtain ⟨R, hR⟩ : ∃ R : ByteArray, Utf8.encode r = R := ⟨_, rfl⟩
   rw [hR] at f1 f2
   have f4 : ∀ h : R.size - 1 < R.size, 128 ≤ (R[R.size - 1]'h).toNat := by subst hR; exact f3
   obtain ⟨n, hn⟩ : ∃ n : Nat, R.size = n + 1 := ⟨R.size - 1, by omega⟩
   have hnl : n < R.size := by omega
   have f5 : 128 ≤ (R[n]'hnl).toNat := by
     have := f4 (by omega)
     have e : R.size - 1 = n := by omega
     simpa [e] using this
   have hnS : n < S.size := by omega
   have f6 := hS n hnS
   have hne : ((S[n].toNat : Int) == (R[n].toNat : Int)) = false := beq_eq_false_iff_ne.2 (by omega)
   have hne2 : ((S[n].toNat : Int) != (R[n].toNat : Int)) = true := by rw [bne, hne]; rfl
   have cI := fun W => Tryz.strings_IndexByte (S.extract (n + 1) 11) (R[n].toNat : Int) W
   rw [index_none _ _ (fun b hb e => by
     have hb2 := mem_extract hb
     obtain ⟨k, hk, hkb⟩ := List.getElem_of_mem hb2
     have := hS k (by rw [← size_list]; exact hk)
     have e2 : (S[k]'(by rw [← size_list]; exact hk)) = b := hkb
     rw [e2, e] at this
     simp at this
     omega)] at cI
   have n1 : (n : Int) ≤ 3 := by omega
   have n0 : (0 : Int) ≤ n := by omega
   have hn2 : (R.size : Int) - 1 = n := by omega
   have hnw : IntKind.i64.wrap ((n : Int) + 1) = (n : Int) + 1 := wrap_small _ (by omega) (by omega)
   have hnw1 : 0 ≤ (n : Int) + 1 := by omega
   have hnw2 : (n : Int) + 1 ≤ 11 := by omega
   have hm2 : (S.size : Int) = 11 := by omega
   have f7 : ¬ (R[n].toNat : Int) < 128 := by omega
   clear f3 f4 hS hv f1 f2 hn h1 h2 h3 
   go_enter Tryz.func142, Tryz.ntmps142
   go_wp2_with fail
   refine (c _).mono ?_
   rintro e w' ⟨rfl, rfl⟩
   go_wp2_with fail
   go_step3
   go_wp2_with fail
   go_loopw [9] (fun v9 wx => v9 = .int .i64 (n : Int) ∧ wx = w') (fun _ _ => 0)
   case atStart => exact ⟨rfl, rfl⟩
   case round =>
     obtain ⟨rfl, rfl⟩ := hrel
     go_wp2_with fail
     go_step3
     go_wp2_with fail
     go_quiet (fail)
     go_wp2_with fail
     go_quiet (first | (go_at_call 158; refine Calls.mono (cI _) ?_; rintro e w1 ⟨rfl, rfl⟩; exact ⟨rfl, _, rfl⟩))
     go_wp2_with fail
     rw [Exit.noGoto_ret]
     refine id (α := bodyPost Tryz.prog Tryz.f142 (fun e w' => e = Ending.returned (Value.int IntKind.i64 (-1)) ∧ Ext wr w') Exit.ret _ _) ?_
     go_ret
     exact ⟨rfl, (Ext.refl _).drewN _⟩

open Go.RowKit
set_option maxHeartbeats 1000000

/-- The signs that end a name. -/
def sgns : List UInt8 := [36, 48, 49, 50, 51, 52, 53, 54, 55, 56, 57]
theorem sgn_eq (c : UInt8) : sgns.contains c = (c == 36 || dgB c) := by
 have : ∀ c : Fin 256, sgns.contains (UInt8.ofNat c.val) = (UInt8.ofNat c.val == 36 || dgB (UInt8.ofNat c.val)) := by decide +kernel
 have h := this ⟨c.toNat, c.toNat_lt⟩
 simpa using h
theorem sgn_high (c : UInt8) (h : 128 ≤ c.toNat) : sgns.contains c = false := by
 rw [sgn_eq]
 have : (c == 36) = false := beq_eq_false_iff_ne.2 fun e => by rw [e] at h; exact absurd h (by decide)
 rw [this]
 unfold dgB; simp; omega
theorem get_bang (s : ByteArray) (i : Nat) (h : i < s.size) : s.get! i = s[i]'h := get_at s i h
theorem decode_span (s : ByteArray) (pos : Nat) (h : pos < s.size) (ha : 128 ≤ (s[pos]'h).toNat) :
   ∀ j, pos ≤ j → j < pos + (Utf8.decode s pos).2 → ∃ hj : j < s.size, 128 ≤ (s[j]'hj).toNat := by
 have hn : ¬ (s[pos]'h).toNat < 128 := by omega
 have cont : ∀ k, (decide (pos + k < s.size) && (s.get! (pos + k)).toNat / 64 == 2) = true → ∃ hj : pos + k < s.size, 128 ≤ (s[pos + k]'hj).toNat := by
   intro k hk
   rw [Bool.and_eq_true, decide_eq_true_eq, beq_iff_eq] at hk
   refine ⟨hk.1, ?_⟩
   have := hk.2
   rw [get_bang s _ hk.1] at this
   omega
 have c1 := cont 1
 have c2 := cont 2
 have c3 := cont 3
 clear cont
 have c0 : ∃ hj : pos < s.size, 128 ≤ (s[pos]'hj).toNat := ⟨h, ha⟩
 intro j hj
 simp only [Utf8.decode, get_at s pos h, hn, if_false]
 repeat' split
 all_goals
   intro hk
   try simp only at hk
 all_goals
   by_cases e0 : j = pos
   · subst e0; exact c0
   by_cases e1 : j = pos + 1
   · subst e1; first | omega | (refine c1 ?_; simp_all)
   by_cases e2 : j = pos + 2
   · subst e2; first | omega | (refine c2 ?_; simp_all)
   by_cases e3 : j = pos + 3
   · subst e3; first | omega | (refine c3 ?_; simp_all)
   omega

theorem noany_more {l : List UInt8} {i k : Nat} (h : Lib.NoAny l sgns i) (hk : ∀ j b, i ≤ j → j < k → l[j]? = some b → sgns.contains b = false) : Lib.NoAny l sgns k := fun j b hj hb => by
 by_cases g : j < i
 · exact h j b g hb
 · exact hk j b (by omega) hj hb
theorem at_get (s : ByteArray) (i : Nat) (h : i < s.size) : s.data.toList[i]? = some (s[i]'h) := Lib.data_getElem? s i h
theorem iter_ext {w wx : World} {s : ByteArray} {q : Nat} (E : Ext w wx) : Ext w (wx.iterAt w.heap.size s q) := by
 obtain ⟨a, b, c, d, e⟩ := E
 refine ⟨a, b, c, ?_, ?_⟩
 · simpa [World.iterAt] using d
 · intro i hi
   rw [← e i hi]
   show (wx.heap.setIfInBounds w.heap.size _)[i]? = _
   rw [Array.getElem?_setIfInBounds_ne (by omega)]
theorem iterPos_of {w : World} {k : Nat} {s : ByteArray} {p : Nat} (h : w.heap[k]? = some (.stringIter s p)) : w.iterPos k = p := by simp [World.iterPos, h]
def sg : ByteArray := ⟨sgns.toArray⟩

set_option maxRecDepth 100000 in
theorem iany_short (s : ByteArray) (w : World) (h8 : s.size ≤ 8) :
   Calls Tryz.prog 169 #[.string s, .string sg] w fun e w' => e = .returned (.int .i64 (Lib.indexAny s.data.toList sgns)) ∧ Ext w w' := by
 have cS := fun W => Tryz.strings_shouldUseASCIISet (s.size : Int) W
 rw [show decide ((8 : Int) < (s.size : Int)) = false from decide_eq_false (by omega)] at cS
 have cA := fun r W h0 h1 => Tryz.strings_IndexRune_ascii sg r W h0 h1
 have cE := fun W => irune_err sg W
 have cH := fun r W h1 h2 h3 => irune_high r sg W h1 h2 h3 rfl
 have hS : ∀ k (h : k < sg.size), (sg[k]'h).toNat < 128 := by
   have : ∀ k : Fin 11, (sg[k.val]'(k.isLt)).toNat < 128 := by decide +kernel
   exact fun k h => this ⟨k, h⟩
 have h11 : sg.size = 11 := rfl
 have hemp : sg.toList.isEmpty = false := by decide +kernel
 have hd : sg.data.toList = sgns := rfl
 rw [hd] at cA
 have HL : Hid (s.data.toList.length = s.size) := size_list s
 clear hd
 generalize sg = C at *
 have HS : Hid (∀ k (h : k < C.size), (C[k]'h).toNat < 128) := hS
 have hs : (s.size : Int) ≤ 8 := by omega
 clear hS
 go_enter Tryz.func169, Tryz.ntmps169
 go_wp2_with fail
 refine (cS _).mono ?_
 rintro e w' ⟨rfl, rfl⟩
 go_wp2_with fail
 go_loopw [9, 10] (fun _ _ wx => ∃ i : Nat, i ≤ s.size ∧ Ext w' wx ∧ wx.heap[w'.heap.size]? = some (.stringIter s i) ∧ Lib.NoAny s.data.toList sgns i) (fun _ _ wx => s.size - wx.iterPos w'.heap.size)
 case atStart => exact ⟨0, Nat.zero_le _, ext_iter _ _ _, World.iter_heap _ _ _, Lib.NoAny.zero _ _⟩
 case round =>
   obtain ⟨i, hi, E, hit, hno⟩ := hrel
   have HN : Hid (Lib.NoAny s.data.toList sgns i) := hno
   have HI : Hid (wr.heap[w'.heap.size]? = some (.stringIter s i)) := hit
   clear hno
   by_cases hlt : i < s.size
   · obtain ⟨x, hx⟩ : ∃ x : UInt8, s[i]'hlt = x := ⟨_, rfl⟩
     have HX : Hid (s.data.toList[i]? = some x) := by show _ = _; rw [← hx]; exact at_get s i hlt
     by_cases ha : x.toNat < 128
     · have hnx := fun ty => Lib.run_next_ascii_at (P := Tryz.prog) wr w'.heap.size s i ty hit hlt (by rw [hx]; exact ha)
       rw [hx] at hnx
       have E1 := iter_ext (s := s) (q := i + 1) E
       have HI1 : Hid (_ = _) := Lib.iterAt_heap wr w'.heap.size s i (i + 1) hit
       generalize wr.iterAt w'.heap.size s (i + 1) = W1 at hnx E1 HI1
       have cx := fun W => cA (x.toNat : Int) W (by omega) (by omega)
       rw [show ((x.toNat : Int)).toNat.toUInt8 = x from by simp] at cx
       have hcon := Lib.contains_iff_indexByte sgns x
       clear hit hx
       cases hin : sgns.contains x
       · rw [hin] at hcon
         have hneg : ¬ ((0 : Int) ≤ Lib.indexByte sgns x) := of_decide_eq_false hcon.symm
         have HIN : Hid (sgns.contains x = false) := hin
         clear hcon hin
         generalize Lib.indexByte sgns x = z at cx hneg
         go_wp2_with fail
         refine (cx _).mono ?_
         rintro e w2 ⟨rfl, rfl⟩
         go_wp2_with fail
         go_roundw
         case rel => exact ⟨i + 1, by omega, E1, HI1.out, HN.out.succ HX.out HIN.out⟩
         case measure => rw [iterPos_of HI1.out, iterPos_of HI.out]; omega
       · rw [hin] at hcon
         have hpos : (0 : Int) ≤ Lib.indexByte sgns x := of_decide_eq_true hcon.symm
         have HR : Hid (Lib.indexAny s.data.toList sgns = i) := Lib.indexAny_hit HN.out HX.out hin
         clear hcon hin
         generalize Lib.indexByte sgns x = z at cx hpos
         go_wp2_with fail
         refine (cx _).mono ?_
         rintro e w2 ⟨rfl, rfl⟩
         go_wp2_with fail
         go_ret
         exact ⟨ret_int HR.out.symm, E1⟩
     · have hnx := fun ty => Lib.run_next_any_at (P := Tryz.prog) wr w'.heap.size s i ty hit hlt
       have hsp := decode_span s i hlt (by rw [hx]; omega)
       obtain ⟨d1, d2⟩ := decode_high s i hlt (by rw [hx]; omega)
       have d3 := decode_le s i
       generalize (Utf8.decode s i).1 = r at hnx d1 d3
       generalize (Utf8.decode s i).2 = k at hnx hsp d2
       have hk : i + k ≤ s.size := by
         obtain ⟨h, _⟩ := hsp (i + k - 1) (by omega) (by omega)
         omega
       have HN2 : Hid (Lib.NoAny s.data.toList sgns (i + k)) := noany_more HN.out (fun j b h1 h2 hb => by
         obtain ⟨hj, h3⟩ := hsp j h1 h2
         rw [at_get s j hj] at hb
         obtain rfl := Option.some.inj hb
         exact sgn_high _ h3)
       have E1 := iter_ext (s := s) (q := i + k) E
       have HI1 : Hid (_ = _) := Lib.iterAt_heap wr w'.heap.size s i (i + k) hit
       generalize wr.iterAt w'.heap.size s (i + k) = W1 at hnx E1 HI1
       have HK : Hid (i + k ≤ s.size ∧ 1 ≤ k) := ⟨hk, d2⟩
       have cr : ∀ W, Calls Tryz.prog 142 #[.string C, .int .i32 (r : Int)] W fun e w' => e = .returned (.int .i64 (-1)) ∧ Ext W w' := by
         intro W
         by_cases g : (r : Int) = 65533
         · rw [g]; exact cE W HS.out
         · exact cH (r : Int) W (by omega) (by omega) g HS.out
       clear hsp hit hx ha hk d1 d2 d3
       go_wp2_with fail
       refine (cr _).mono ?_
       rintro e w2 ⟨rfl, E2⟩
       have HI2 : Hid (w2.heap[w'.heap.size]? = some (.stringIter s (i + k))) := by
         show _ = _
         rw [E2.block _ (Array.getElem?_eq_some_iff.1 HI1.out).1]; exact HI1.out
       have E3 := E1.trans E2
       go_wp2_with fail
       go_roundw
       case rel => exact ⟨i + k, HK.out.1, E3, HI2.out, HN2.out⟩
       case measure => rw [iterPos_of HI2.out, iterPos_of HI.out]; have := HK.out; omega
   · obtain rfl : i = s.size := by omega
     have hnx := fun ty => Lib.run_next_end_at (P := Tryz.prog) wr w'.heap.size s s.size ty hit hlt
     have HR : Hid (Lib.indexAny s.data.toList sgns = -1) := Lib.indexAny_none (by rw [HL.out]; exact HN.out)
     clear hit
     go_wp2_with fail
     go_ret
     exact ⟨ret_int HR.out.symm, E⟩

theorem info_set : (Tryz.prog.info? 123).map (fun i => (i.zero, i.size)) = some (some (.agg (Array.replicate 256 (.bool false))), 256) := by kernel_rfl
set_option maxRecDepth 1000000 in
set_option maxHeartbeats 4000000 in
theorem iany_long (s : ByteArray) (w : World) (h8 : ¬ s.size ≤ 8) (hs : s.size ≤ maxLen) :
   Calls Tryz.prog 169 #[.string s, .string sg] w fun e w' => e = .returned (.int .i64 (Lib.indexAny s.data.toList sgns)) ∧ Ext w w' := by
 unfold maxLen at hs
 have hz := zero_of_info info_set
 have cS := fun W => Tryz.strings_shouldUseASCIISet (s.size : Int) W
 rw [show decide ((8 : Int) < (s.size : Int)) = true from decide_eq_true (by omega)] at cS
 have cM := fun W => Tryz.strings_makeASCIISet hz.1 sg W (by decide) (by
   have : ∀ b ∈ sgns, b.toNat < 128 := by decide +kernel
   exact fun j b hb => this b (List.mem_of_getElem? hb))
 have h11 : sg.size = 11 := rfl
 have hemp : sg.toList.isEmpty = false := by decide +kernel
 have hd : sg.data.toList = sgns := rfl
 rw [hd] at cM
 have HL : Hid (s.data.toList.length = s.size) := size_list s
 clear hd
 generalize sg = C at *
 have hsI : (s.size : Int) ≤ 9223372036854775807 := by omega
 have hsc : (storeCells ⟨w.heap.size + 1, 0, none⟩ (Lib.setCells sgns).toList 0).run Tryz.prog ((w.alloc (.cells (Lib.setCells sgns) 123)).alloc (.cells Tryz.zeroCells123 123)) = .ok () ((w.alloc (.cells (Lib.setCells sgns) 123)).alloc (.cells (Lib.setCells sgns) 123)) := by
   have := run_storeCells_new (P := Tryz.prog) (w.alloc (.cells (Lib.setCells sgns) 123)) 123 Tryz.zeroCells123 (Lib.setCells sgns) (by rw [Lib.setCells_size]; exact hz.2) (by rw [Lib.setCells_size]; kernel_rfl) (Lib.setCells_one _)
   simpa using this
 have HC : Hid (∀ x : UInt8, ((w.alloc (.cells (Lib.setCells sgns) 123)).alloc (.cells (Lib.setCells sgns) 123)).cell? ⟨w.heap.size + 1, x.toNat, none⟩ = some (.bool (sgns.contains x))) := fun x => by
   rw [World.cell?_alloc_at _ _ _ _ (by simp), Lib.setCells_at]
 have hsz := Lib.setCells_size sgns
 have HSC : Hid (_ = _) := hsc
 have EX : Ext w ((w.alloc (.cells (Lib.setCells sgns) 123)).alloc (.cells (Lib.setCells sgns) 123)) := ((Ext.refl w).alloc _).alloc _
 clear hz hsc
 go_enter Tryz.func169, Tryz.ntmps169
 go_wp2_with fail
 refine (cS _).mono ?_
 rintro e w' ⟨rfl, rfl⟩
 go_wp2_with fail
 refine (cM _).mono ?_
 rintro e w1 ⟨rfl, rfl⟩
 go_wp2_with fail
 rw [HSC.out]
 clear HSC cS cM
 generalize (w'.alloc (.cells (Lib.setCells sgns) 123)).alloc (.cells (Lib.setCells sgns) 123) = W1 at *
 simp only [Result.andThen]
 rw [Oper.upon_skip]
 go_wp2_with fail
 go_loopw [8] (fun v8 wx => ∃ i : Nat, i ≤ s.size ∧ v8 = .int .i64 i ∧ wx = W1 ∧ Lib.NoAny s.data.toList sgns i) (fun v8 _ => s.size - (intOf v8).toNat)
 case atStart => exact ⟨0, Nat.zero_le _, rfl, rfl, Lib.NoAny.zero _ _⟩
 case round =>
   obtain ⟨i, hi, rfl, rfl, hno⟩ := hrel
   have HN : Hid (Lib.NoAny s.data.toList sgns i) := hno
   clear hno
   by_cases hlt : i < s.size
   · obtain ⟨x, hx⟩ : ∃ x : UInt8, s[i]'hlt = x := ⟨_, rfl⟩
     have HX : Hid (s.data.toList[i]? = some x) := by show _ = _; rw [← hx]; exact at_get s i hlt
     have cc := Tryz.asciiSet_contains (w'.heap.size + 1) x (sgns.contains x) wr (HC.out x)
     have hltI : (i : Int) < s.size := by omega
     cases hin : sgns.contains x
     · rw [hin] at cc
       have HIN : Hid (sgns.contains x = false) := hin
       clear hin
       go_wp2_with fail
       refine cc.mono ?_
       rintro e w2 ⟨rfl, rfl⟩
       go_wp2_with fail
       go_roundw
       case rel => exact ⟨i + 1, by omega, by go_num, by first | rfl | trivial, HN.out.succ HX.out HIN.out⟩
       case measure => simp [intOf]; omega
     · rw [hin] at cc
       have HR : Hid (Lib.indexAny s.data.toList sgns = i) := Lib.indexAny_hit HN.out HX.out hin
       clear hin
       go_wp2_with fail
       refine cc.mono ?_
       rintro e w2 ⟨rfl, rfl⟩
       go_wp2_with fail
       go_ret
       exact ⟨ret_int HR.out.symm, EX⟩
   · obtain rfl : i = s.size := by omega
     have HR : Hid (Lib.indexAny s.data.toList sgns = -1) := Lib.indexAny_none (by rw [HL.out]; exact HN.out)
     go_wp2_with fail
     go_ret
     exact ⟨ret_int HR.out.symm, EX⟩
theorem iany_any (s : ByteArray) (w : World) (hs : s.size ≤ maxLen) :
   Calls Tryz.prog 169 #[.string s, .string sg] w fun e w' => e = .returned (.int .i64 (Lib.indexAny s.data.toList sgns)) ∧ Ext w w' := by
 by_cases h : s.size ≤ 8
 · exact iany_short s w h
 · exact iany_long s w h hs

open Go.RowKit
set_option maxHeartbeats 1000000

theorem keep4 {w w1 : World} {a b c d : Value} {T : TypeId} (E : Ext (w.alloc (.cells #[a, b, c, d] T)) w1) : w.heap.size < w1.heap.size ∧
   (w1.cell? ⟨w.heap.size, 0, none⟩ = some a ∧ w1.cell? ⟨w.heap.size, 1, none⟩ = some b ∧ w1.cell? ⟨w.heap.size, 2, none⟩ = some c ∧ w1.cell? ⟨w.heap.size, 3, none⟩ = some d) ∧
   (w1.frozen? ⟨w.heap.size, 0, none⟩ = false ∧ w1.frozen? ⟨w.heap.size, 1, none⟩ = false ∧ w1.frozen? ⟨w.heap.size, 2, none⟩ = false ∧ w1.frozen? ⟨w.heap.size, 3, none⟩ = false) := by
 have hs : w.heap.size < (w.alloc (.cells #[a, b, c, d] T)).heap.size := by simp
 have k := fun o => E.cell.1 w.heap.size o hs
 have f := fun o => E.cell.2 w.heap.size o hs
 refine ⟨Nat.lt_of_lt_of_le hs E.sz, ⟨(k 0).trans ?_, (k 1).trans ?_, (k 2).trans ?_, (k 3).trans ?_⟩, (f 0).trans ?_, (f 1).trans ?_, (f 2).trans ?_, (f 3).trans ?_⟩
 all_goals simp [go_sem]
/-- The end of a function whose result lies in a block of its own: four cells are laid, and read. -/
theorem fin4g (v : Value) {fn : Func} {Q : Ending → World → Prop} {a : Act} {w w1 : World} {b : Nat} {o0 o1 o2 o3 x0 x1 x2 x3 : Value}
   (k0 : w1.cell? ⟨b, 0, none⟩ = some o0) (k1 : w1.cell? ⟨b, 1, none⟩ = some o1) (k2 : w1.cell? ⟨b, 2, none⟩ = some o2) (k3 : w1.cell? ⟨b, 3, none⟩ = some o3)
   (hd : a.defers = []) (hb : w.heap.size ≤ b) (E : Ext w w1)
   (hr : ∀ W : World, W.cell? ⟨b, 0, none⟩ = some x0 → W.cell? ⟨b, 1, none⟩ = some x1 → W.cell? ⟨b, 2, none⟩ = some x2 → W.cell? ⟨b, 3, none⟩ = some x3 → (results fn a.tmps).run Tryz.prog W = .ok v W)
   (hQ : ∀ W, Ext w W → Q (.returned v) W) :
   bodyPost Tryz.prog fn Q .ret a ((((w1.setCell ⟨b, 0, none⟩ x0).setCell ⟨b, 1, none⟩ x1).setCell ⟨b, 2, none⟩ x2).setCell ⟨b, 3, none⟩ x3) := by
 have e0 := World.cell?_setCell_same w1 ⟨b, 0, none⟩ x0 (by rw [k0])
 have j1 : (w1.setCell ⟨b, 0, none⟩ x0).cell? ⟨b, 1, none⟩ = some o1 := by rw [World.cell?_setCell_other _ _ _ _ (by simp)]; exact k1
 have e1 := World.cell?_setCell_same _ ⟨b, 1, none⟩ x1 (by rw [j1])
 have j2 : ((w1.setCell ⟨b, 0, none⟩ x0).setCell ⟨b, 1, none⟩ x1).cell? ⟨b, 2, none⟩ = some o2 := by rw [World.cell?_setCell_other _ _ _ _ (by simp), World.cell?_setCell_other _ _ _ _ (by simp)]; exact k2
 have e2 := World.cell?_setCell_same _ ⟨b, 2, none⟩ x2 (by rw [j2])
 have j3 : (((w1.setCell ⟨b, 0, none⟩ x0).setCell ⟨b, 1, none⟩ x1).setCell ⟨b, 2, none⟩ x2).cell? ⟨b, 3, none⟩ = some o3 := by
   rw [World.cell?_setCell_other _ _ _ _ (by simp), World.cell?_setCell_other _ _ _ _ (by simp), World.cell?_setCell_other _ _ _ _ (by simp)]; exact k3
 have e3 := World.cell?_setCell_same _ ⟨b, 3, none⟩ x3 (by rw [j3])
 refine bodyPost_ret (hr _ ?_ ?_ ?_ e3) hd (hQ _ ((((E.setCell hb _).setCell hb _).setCell hb _).setCell hb _))
 · rw [World.cell?_setCell_other _ _ _ _ (by simp), World.cell?_setCell_other _ _ _ _ (by simp), World.cell?_setCell_other _ _ _ _ (by simp)]; exact e0
 · rw [World.cell?_setCell_other _ _ _ _ (by simp), World.cell?_setCell_other _ _ _ _ (by simp)]; exact e1
 · rw [World.cell?_setCell_other _ _ _ _ (by simp)]; exact e2
theorem fin4 {fn : Func} {Q : Ending → World → Prop} {a : Act} {w w1 : World} {b : Nat} {o0 o1 o2 o3 x0 x1 x2 x3 : Value}
   (k0 : w1.cell? ⟨b, 0, none⟩ = some o0) (k1 : w1.cell? ⟨b, 1, none⟩ = some o1) (k2 : w1.cell? ⟨b, 2, none⟩ = some o2) (k3 : w1.cell? ⟨b, 3, none⟩ = some o3)
   (hd : a.defers = []) (hb : w.heap.size ≤ b) (E : Ext w w1)
   (hr : ∀ W : World, W.cell? ⟨b, 0, none⟩ = some x0 → W.cell? ⟨b, 1, none⟩ = some x1 → W.cell? ⟨b, 2, none⟩ = some x2 → W.cell? ⟨b, 3, none⟩ = some x3 → (results fn a.tmps).run Tryz.prog W = .ok (.agg #[x0, x1, x2, x3]) W)
   (hQ : ∀ W, Ext w W → Q (.returned (.agg #[x0, x1, x2, x3])) W) :
   bodyPost Tryz.prog fn Q .ret a ((((w1.setCell ⟨b, 0, none⟩ x0).setCell ⟨b, 1, none⟩ x1).setCell ⟨b, 2, none⟩ x2).setCell ⟨b, 3, none⟩ x3) := fin4g _ k0 k1 k2 k3 hd hb E hr hQ
theorem fin4b (t : Bool) {fn : Func} {Q : Ending → World → Prop} {a : Act} {w w1 : World} {b : Nat} {o0 o1 o2 o3 x0 x1 x2 x3 : Value}
   (k0 : w1.cell? ⟨b, 0, none⟩ = some o0) (k1 : w1.cell? ⟨b, 1, none⟩ = some o1) (k2 : w1.cell? ⟨b, 2, none⟩ = some o2) (k3 : w1.cell? ⟨b, 3, none⟩ = some o3)
   (hd : a.defers = []) (hb : w.heap.size ≤ b) (E : Ext w w1)
   (hr : ∀ W : World, W.cell? ⟨b, 0, none⟩ = some x0 → W.cell? ⟨b, 1, none⟩ = some x1 → W.cell? ⟨b, 2, none⟩ = some x2 → W.cell? ⟨b, 3, none⟩ = some x3 → (results fn a.tmps).run Tryz.prog W = .ok (.tuple #[.agg #[x0, x1, x2, x3], .bool t]) W)
   (hQ : ∀ W, Ext w W → Q (.returned (.tuple #[.agg #[x0, x1, x2, x3], .bool t])) W) :
   bodyPost Tryz.prog fn Q .ret a ((((w1.setCell ⟨b, 0, none⟩ x0).setCell ⟨b, 1, none⟩ x1).setCell ⟨b, 2, none⟩ x2).setCell ⟨b, 3, none⟩ x3) := fin4g _ k0 k1 k2 k3 hd hb E hr hQ
/-! ### Blocks of four cells -/
def Blk (W : World) (b : Nat) (x0 x1 x2 x3 : Value) : Prop := b < W.heap.size ∧
 (W.cell? ⟨b, 0, none⟩ = some x0 ∧ W.cell? ⟨b, 1, none⟩ = some x1 ∧ W.cell? ⟨b, 2, none⟩ = some x2 ∧ W.cell? ⟨b, 3, none⟩ = some x3) ∧
 (W.frozen? ⟨b, 0, none⟩ = false ∧ W.frozen? ⟨b, 1, none⟩ = false ∧ W.frozen? ⟨b, 2, none⟩ = false ∧ W.frozen? ⟨b, 3, none⟩ = false)
theorem blk_top {w w1 : World} {x0 x1 x2 x3 : Value} {T : TypeId} {b : Nat} (hb : b = w.heap.size) (E : Ext (w.alloc (.cells #[x0, x1, x2, x3] T)) w1) : Blk w1 b x0 x1 x2 x3 := by subst hb; exact keep4 E
theorem Blk.ext {w w' : World} {b : Nat} {x0 x1 x2 x3 : Value} (h : Blk w b x0 x1 x2 x3) (e : Ext w w') : Blk w' b x0 x1 x2 x3 := by
 obtain ⟨z, ⟨k0, k1, k2, k3⟩, f0, f1, f2, f3⟩ := h
 have k := fun o => e.cell.1 b o z
 have f := fun o => e.cell.2 b o z
 exact ⟨Nat.lt_of_lt_of_le z e.sz, ⟨(k 0).trans k0, (k 1).trans k1, (k 2).trans k2, (k 3).trans k3⟩, (f 0).trans f0, (f 1).trans f1, (f 2).trans f2, (f 3).trans f3⟩
theorem Blk.far1 {w : World} {b c : Nat} {x0 x1 x2 x3 : Value} (h : Blk w b x0 x1 x2 x3) (hc : c ≠ b) (o : Nat) (v : Value) : Blk (w.setCell ⟨c, o, none⟩ v) b x0 x1 x2 x3 := by
 obtain ⟨z, ⟨k0, k1, k2, k3⟩, f0, f1, f2, f3⟩ := h
 refine ⟨by simpa [World.setCell] using z, ⟨?_, ?_, ?_, ?_⟩, ?_, ?_, ?_, ?_⟩
 · rw [World.cell?_setCell_far _ _ _ _ hc]; exact k0
 · rw [World.cell?_setCell_far _ _ _ _ hc]; exact k1
 · rw [World.cell?_setCell_far _ _ _ _ hc]; exact k2
 · rw [World.cell?_setCell_far _ _ _ _ hc]; exact k3
 · rw [World.frozen?_setCell]; exact f0
 · rw [World.frozen?_setCell]; exact f1
 · rw [World.frozen?_setCell]; exact f2
 · rw [World.frozen?_setCell]; exact f3
theorem Blk.far {w : World} {b c : Nat} {x0 x1 x2 x3 : Value} (h : Blk w b x0 x1 x2 x3) (hc : c ≠ b) (y0 y1 y2 y3 : Value) :
   Blk ((((w.setCell ⟨c, 0, none⟩ y0).setCell ⟨c, 1, none⟩ y1).setCell ⟨c, 2, none⟩ y2).setCell ⟨c, 3, none⟩ y3) b x0 x1 x2 x3 := (((h.far1 hc _ _).far1 hc _ _).far1 hc _ _).far1 hc _ _
theorem Blk.set {w1 : World} {b : Nat} {o0 o1 o2 o3 : Value} (h : Blk w1 b o0 o1 o2 o3) (x0 x1 x2 x3 : Value) :
   Blk ((((w1.setCell ⟨b, 0, none⟩ x0).setCell ⟨b, 1, none⟩ x1).setCell ⟨b, 2, none⟩ x2).setCell ⟨b, 3, none⟩ x3) b x0 x1 x2 x3 := by
 obtain ⟨z, ⟨k0, k1, k2, k3⟩, f0, f1, f2, f3⟩ := h
 have e0 := World.cell?_setCell_same w1 ⟨b, 0, none⟩ x0 (by rw [k0])
 have j1 : (w1.setCell ⟨b, 0, none⟩ x0).cell? ⟨b, 1, none⟩ = some o1 := by rw [World.cell?_setCell_other _ _ _ _ (by simp)]; exact k1
 have e1 := World.cell?_setCell_same _ ⟨b, 1, none⟩ x1 (by rw [j1])
 have j2 : ((w1.setCell ⟨b, 0, none⟩ x0).setCell ⟨b, 1, none⟩ x1).cell? ⟨b, 2, none⟩ = some o2 := by rw [World.cell?_setCell_other _ _ _ _ (by simp), World.cell?_setCell_other _ _ _ _ (by simp)]; exact k2
 have e2 := World.cell?_setCell_same _ ⟨b, 2, none⟩ x2 (by rw [j2])
 have j3 : (((w1.setCell ⟨b, 0, none⟩ x0).setCell ⟨b, 1, none⟩ x1).setCell ⟨b, 2, none⟩ x2).cell? ⟨b, 3, none⟩ = some o3 := by
   rw [World.cell?_setCell_other _ _ _ _ (by simp), World.cell?_setCell_other _ _ _ _ (by simp), World.cell?_setCell_other _ _ _ _ (by simp)]; exact k3
 have e3 := World.cell?_setCell_same _ ⟨b, 3, none⟩ x3 (by rw [j3])
 refine ⟨by simpa [World.setCell] using z, ⟨?_, ?_, ?_, e3⟩, ?_, ?_, ?_, ?_⟩
 · rw [World.cell?_setCell_other _ _ _ _ (by simp), World.cell?_setCell_other _ _ _ _ (by simp), World.cell?_setCell_other _ _ _ _ (by simp)]; exact e0
 · rw [World.cell?_setCell_other _ _ _ _ (by simp), World.cell?_setCell_other _ _ _ _ (by simp)]; exact e1
 · rw [World.cell?_setCell_other _ _ _ _ (by simp)]; exact e2
 · simp only [World.frozen?_setCell]; exact f0
 · simp only [World.frozen?_setCell]; exact f1
 · simp only [World.frozen?_setCell]; exact f2
 · simp only [World.frozen?_setCell]; exact f3
theorem Blk.dr {w : World} {b : Nat} {x0 x1 x2 x3 : Value} (h : Blk w b x0 x1 x2 x3) : Blk w.drew b x0 x1 x2 x3 := h.ext (Ext.drew (Ext.refl _))
theorem Blk.al {w : World} {b : Nat} {x0 x1 x2 x3 : Value} (o : Obj) (h : Blk w b x0 x1 x2 x3) : Blk (w.alloc o) b x0 x1 x2 x3 := h.ext (Ext.alloc (Ext.refl _) _)

open Go.RowKit
set_option maxHeartbeats 1000000

/-- A $ ahead; what stands behind it. -/
def dlB (l : List UInt8) : Bool := l.head? == some 36
def undl (l : List UInt8) : List UInt8 := if dlB l then l.tail else l
/-- A name, up to the first $ or digit; what follows. -/
def nmL (l : List UInt8) : List UInt8 := (undl l).takeWhile (fun c => !sgns.contains c)
def rsL (l : List UInt8) : List UInt8 := (undl l).dropWhile (fun c => !sgns.contains c)
/-- The place that a text names, as the code reads it. -/
def rowP (l : List UInt8) : Int := rowC (undl (rsL l))
def colP (l : List UInt8) : Int := colN (nmL l)
def okP (l : List UInt8) : Bool := inB (rowP l) (colP l)
/-- A reference as a struct. -/
def refD (r c : Int) (ar ac : Bool) : Value := .agg #[.int .i64 r, .int .i64 c, .bool ar, .bool ac]
def prV (l : List UInt8) : Value := if okP l then refD (rowP l) (colP l) (dlB (rsL l)) (dlB l) else refD 0 0 false false

theorem pre_dollar (l : List UInt8) : Lib.hasPrefix l [36] = dlB l ∧ Lib.trimPrefix l [36] = undl l := by
 cases l with
 | nil => exact ⟨rfl, rfl⟩
 | cons c l =>
   unfold undl dlB Lib.trimPrefix Lib.hasPrefix
   by_cases h : c = 36
   · subst h; exact ⟨rfl, rfl⟩
   · have h' : (36 == c) = false := beq_eq_false_iff_ne.2 fun e => h e.symm
     have h2 : (c == 36) = false := beq_eq_false_iff_ne.2 h
     simp [List.isPrefixOf, h', h]
theorem rd_bd (l : List UInt8) : -9223372036854775807 ≤ rdV l ∧ rdV l ≤ 9223372036854775807 := by
 unfold rdV
 split
 · rename_i h
   simp at h
   split <;> omega
 · omega
theorem tdiv_bd (a : Int) (h : -9223372036854775807 ≤ a ∧ a ≤ 9223372036854775807) : -922337203685477 ≤ Int.tdiv a 10000 ∧ Int.tdiv a 10000 ≤ 922337203685477 := by
 obtain ⟨h1, h2⟩ := h
 by_cases h0 : 0 ≤ a
 · rw [Int.tdiv_eq_ediv_of_nonneg h0]; omega
 · have e := Int.neg_tdiv (-a) 10000
   rw [Int.neg_neg] at e
   rw [e, Int.tdiv_eq_ediv_of_nonneg (by omega)]; omega
theorem rownumber_any (s : ByteArray) (w : World) (hs : s.size ≤ maxLen) (hT : Tab w) :
   Calls Tryz.prog 170 #[.string s] w fun e w' => e = .returned (.int .i64 (rowC s.data.toList)) ∧ Ext w w' := by
 have c1 := fun W => parse_any s W hs
 have hb := rd_bd s.data.toList
 have hq := tdiv_bd _ hb
 obtain ⟨b1, b2⟩ := hb
 obtain ⟨q1, q2⟩ := hq
 have c2 := fun W h => digitsc_any (Int.tdiv (rdV s.data.toList) 10000) ⟨by omega, by omega⟩ W h
 have HR0 : Hid (rowC s.data.toList = if Lib.itoa (Int.tdiv (rdV s.data.toList) 10000) = s.data.toList then Int.tdiv (rdV s.data.toList) 10000 else 0) := rfl
 have hE : ((⟨(Lib.itoa (Int.tdiv (rdV s.data.toList) 10000)).toArray⟩ : ByteArray).toList == s.toList) = decide (Lib.itoa (Int.tdiv (rdV s.data.toList) 10000) = s.data.toList) := by
   rw [ByteArray.toList_eq, ByteArray.toList_eq, Bool.eq_iff_iff, beq_iff_eq, decide_eq_true_eq]
 generalize (⟨(Lib.itoa (Int.tdiv (rdV s.data.toList) 10000)).toArray⟩ : ByteArray) = q at c2 hE
 by_cases h : Lib.itoa (Int.tdiv (rdV s.data.toList) 10000) = s.data.toList
 · rw [show decide (Lib.itoa (Int.tdiv (rdV s.data.toList) 10000) = s.data.toList) = true from by simpa using h] at hE
   have HR : Hid (rowC s.data.toList = Int.tdiv (rdV s.data.toList) 10000) := by show _ = _; rw [HR0.out, if_pos h]
   clear h HR0
   generalize rdV s.data.toList = x at *
   generalize rdK s.data.toList = y at *
   go_enter Tryz.func170, Tryz.ntmps170
   go_wp2_with fail
   refine (c1 _).mono ?_
   rintro e w1 ⟨rfl, E1⟩
   go_wp2_with fail
   refine (c2 _ (hT.ext E1)).mono ?_
   rintro e w2 ⟨rfl, E2⟩
   go_wp2_with fail
   go_ret
   exact ⟨ret_int HR.out.symm, E1.trans E2⟩
 · rw [show decide (Lib.itoa (Int.tdiv (rdV s.data.toList) 10000) = s.data.toList) = false from by simpa using h] at hE
   have HR : Hid (rowC s.data.toList = 0) := by show _ = _; rw [HR0.out, if_neg h]
   clear h HR0
   generalize rdV s.data.toList = x at *
   generalize rdK s.data.toList = y at *
   go_enter Tryz.func170, Tryz.ntmps170
   go_wp2_with fail
   refine (c1 _).mono ?_
   rintro e w1 ⟨rfl, E1⟩
   go_wp2_with fail
   refine (c2 _ (hT.ext E1)).mono ?_
   rintro e w2 ⟨rfl, E2⟩
   go_wp2_with fail
   go_ret
   exact ⟨ret_int HR.out.symm, E1.trans E2⟩

def signL (b : Bool) : List UInt8 := if b then [36] else []
theorem csign_any (b : Bool) (w : World) : Calls Tryz.prog 66 #[.bool b] w fun e w' => e = .returned (.string ⟨(signL b).toArray⟩) ∧ w' = w := by
 cases b <;>
 · go_enter Tryz.func66, Tryz.ntmps66
   go_wp2_with fail
   go_ret
   exact ⟨rfl, rfl⟩

/-- Where the first sign stands. -/
theorem idx_none (l : List UInt8) (h : l.dropWhile (fun c => !sgns.contains c) = []) : Lib.indexAny l sgns = -1 ∧ l.takeWhile (fun c => !sgns.contains c) = l := by
 have e := List.takeWhile_append_dropWhile (p := fun c => !sgns.contains c) (l := l)
 rw [h, List.append_nil] at e
 refine ⟨Lib.indexAny_none ?_, e⟩
 intro j b _ hb
 have := List.mem_of_getElem? hb
 rw [← e] at this
 have := List.all_eq_true.1 (List.all_takeWhile (p := fun c => !sgns.contains c) (l := l)) _ this
 simpa using this
theorem idx_some (l : List UInt8) (h : l.dropWhile (fun c => !sgns.contains c) ≠ []) : Lib.indexAny l sgns = ((l.takeWhile (fun c => !sgns.contains c)).length : Int) := by
 have e := List.takeWhile_append_dropWhile (p := fun c => !sgns.contains c) (l := l)
 obtain ⟨x, t, hx⟩ : ∃ x t, l.dropWhile (fun c => !sgns.contains c) = x :: t := List.exists_cons_of_ne_nil h
 have hxx : sgns.contains x = true := by
   have := List.head?_dropWhile_not (fun c => !sgns.contains c) l
   rw [hx] at this
   simpa using this
 refine Lib.indexAny_hit ?_ (x := x) ?_ hxx
 · intro j b hj hb
   rw [← e, List.getElem?_append_left hj] at hb
   have := List.all_eq_true.1 (List.all_takeWhile (p := fun c => !sgns.contains c) (l := l)) _ (List.mem_of_getElem? hb)
   simpa using this
 · have : l[(l.takeWhile (fun c => !sgns.contains c)).length]? = (l.takeWhile (fun c => !sgns.contains c) ++ l.dropWhile (fun c => !sgns.contains c))[(l.takeWhile (fun c => !sgns.contains c)).length]? := by rw [e]
   rw [this, List.getElem?_append_right (Nat.le_refl _), Nat.sub_self, hx]; rfl
end Go.Proofs.YtcggiljlilbdfaaGreatDoor

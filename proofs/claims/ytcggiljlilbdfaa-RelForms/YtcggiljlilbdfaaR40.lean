/-
 The document's texts: bytes that are gathered in a slice.
 The document's word: what begins at a place.
 The document's Words.
 The document's Formula, of any text.
-/
import Derived.Test.YtcggiljlilbdfaaR39
import Derived.Test.YtcggiljlilbdfaaR18
import Derived.Test.YtcggiljlilbdfaaR11
import Derived.Laws.IdiomStrings
import Derived.BigQuiet
import Derived.Test.YtcggiljlilbdfaaR20
import Derived.Test.YtcggiljlilbdfaaR27
import Derived.Test.YtcggiljlilbdfaaR36
import Derived.Test.YtcggiljlilbdfaaR28
namespace Go.Proofs.Ytcggiljlilbdfaa
open Go.RowKit
set_option maxHeartbeats 1000000

/-- v holds the bytes l in a block of the call's own, from base on. -/
def OwB (w : World) (base : Nat) (v : Value) (l : List UInt8) : Prop := (∃ g cap, v = .slice (some ⟨g, 0, none⟩) l.length cap) ∧ w.ownsRow base 5 1 v l.length (Lib.byteCells l)
theorem OwB.alloc {w : World} {base : Nat} {v : Value} {l : List UInt8} (h : OwB w base v l) (o : Obj) : OwB (w.alloc o) base v l := ⟨h.1, h.2.alloc o⟩
theorem OwB.conv {w : World} {base : Nat} {v : Value} {l : List UInt8} (h : OwB w base v l) : (convert 107 9 v).run Try.prog w = .ok (.string (bs l)) w := by
 obtain ⟨⟨g, cap, rfl⟩, h2⟩ := h
 exact run_convert_bytes_back w 107 9 5 ⟨g, 0, none⟩ cap l Try.underlying107 Try.underlying5 Try.underlying9 (fun j hj => h2.cells (g := g) rfl j _ (by rw [List.getElem?_eq_getElem (by rw [Lib.byteCells_length]; exact hj)]; simp [Lib.byteCells]))
theorem owb_new (W : World) (base : Nat) (h : base ≤ W.heap.size) : OwB (W.alloc (.cells #[] 5)) base (.slice (some ⟨W.heap.size, 0, none⟩) 0 0) [] :=
 ⟨⟨_, _, rfl⟩, World.ownsRow_made W #[] 0 h (by unfold maxLen; omega) (by simp)⟩
theorem ob_append {ops : Array Oper} {rest : List Oper} {o : Oper} {a : Act} {Q : Exit → Act → World → Prop} (w W : World) (base : Nat) (hbase : base = w.heap.size) (s x : Operand) (v : Value) (b : Nat) (l : List UInt8) (c : UInt8) (hgd : o.guard = none)
   (ho : o.op = .call { callee := .builtin .append, args := #[s, x], argTypes := #[107, 107] })
   (hs : a.eval s = v) (hx : a.eval x = .slice (some ⟨b, 0, none⟩) 1 1) (hB : OwB W base v l) (hR : W.cell? ⟨b, 0, none⟩ = some (.int .u8 (c.toNat : Int))) (hlen : l.length ≤ 100000) (hE : Ext w W)
   (h : ∀ v' W', OwB W' base v' (l ++ [c]) → Ext w W' → wpList Try.prog ops Q rest (a.put o.dst v') W') : wpList Try.prog ops Q (o :: rest) a W := by
 subst hbase
 obtain ⟨i, hi, hz, h1, h2⟩ := byte_info
 refine wpList_append_own_at W hgd s x 107 ho w.heap.size 5 i _ 1 1 Try.underlying107 hi hz h1 h2 rfl (by decide) v l.length (Lib.byteCells l) hs hB.2 ⟨b, 0, none⟩ 1 1 [.int .u8 (c.toNat : Int)] hx rfl ?_ ?_ (by unfold maxLen; omega) (by omega) hE.size ?_
 · intro j u hj
   match j, hj with
   | 0, hj => simp at hj; subst hj; rw [Addr.add_lit]; exact hR
 · intro u hu; simp at hu; subst hu; rfl
 · intro v' W' h3 h4 _ _
   have e : Lib.byteCells l ++ [.int .u8 (c.toNat : Int)] = Lib.byteCells (l ++ [c]) := by simp [Lib.byteCells]
   rw [e] at h3
   have e2 : (l ++ [c]).length = l.length + 1 := by simp
   refine h v' W' ⟨?_, by rw [e2]; exact h3⟩ ⟨h4.os.trans hE.os, h4.tape.trans hE.tape, h4.output.trans hE.output, Nat.le_trans hE.size h4.size, fun k hk => ?_⟩
   · rw [e2]
     rcases h3.2 with ⟨_, h0⟩ | ⟨g, cap, cur, hv, _⟩
     · omega
     · exact ⟨g, cap, hv⟩
   · refine (h4.block k (Nat.lt_of_lt_of_le hk hE.size) (fun e => ?_)).trans (hE.block k hk)
     have := (hB.2.lt k e.symm).1
     omega

theorem qtext_any (s : ByteArray) (k : Nat) (w : World) (hk : k < s.size) (hs : s.size ≤ 300) :
   Calls Try.prog 109 #[.string s, .int .i64 (k : Int)] w fun e w' => RxR (txtR (s.data.toList.drop k)) k e ∧ Ext w w' := by
 have hl := size_list s
 obtain ⟨l, hll⟩ : ∃ l, s.data.toList = l := ⟨_, rfl⟩
 have HL : Hid (l.length = s.size) := by show _ = _; rw [← hll]; exact hl
 have HA : Hid (∀ i (h : i < s.size) (h' : i < l.length), l[i] = s[i]) := by intro i h h'; subst hll; rfl
 have cI : ∀ i W, i ≤ s.size → Calls Try.prog 110 #[.string s, .int .i64 (i : Int), .string ⟨#[34]⟩] W fun e w' => e = .returned (.bool (decide ((l.drop i).head? = some 34))) ∧ w' = W := by
   intro i W hi
   have h := qis_any s ⟨#[34]⟩ i W hi hs (by decide)
   rw [hll] at h
   have hdot : ((⟨#[34]⟩ : ByteArray).data.toList.isPrefixOf (l.drop i)) = decide ((l.drop i).head? = some 34) := by
     show List.isPrefixOf [34] (l.drop i) = _
     rw [Bool.eq_iff_iff]
     cases l.drop i with
     | nil => simp
     | cons c r => simp [List.isPrefixOf]; exact eq_comm
   rwa [hdot] at h
 have HI : Hid (∀ i W, i ≤ s.size → Calls Try.prog 110 #[.string s, .int .i64 (i : Int), .string ⟨#[34]⟩] W fun e w' => e = .returned (.bool (decide ((l.drop i).head? = some 34))) ∧ w' = W) := cI
 rw [hll]
 clear hl hll cI
 go_enter Try.func109, Try.ntmps109
 go_wp2_with fail
 go_loopw [7, 8] (fun v i wr => ∃ (j : Nat) (acc : List UInt8), j ≤ s.size ∧ i = .int .i64 (j : Int) ∧ TxA l k j acc ∧ OwB wr (w.heap.size + 1) v acc ∧ Ext (w.alloc (.cells #[.int .i64 0, .int .i64 0, .string ⟨#[]⟩, .int .i64 0, .int .i64 0] 83)) wr) (fun _ i _ => s.size - (intOf i).toNat)
 case atStart => exact ⟨k + 1, [], hk, by go_num, TxA.start l k, by have := owb_new (w.alloc (.cells #[.int .i64 0, .int .i64 0, .string ⟨#[]⟩, .int .i64 0, .int .i64 0] 83)) _ (Nat.le_refl _); simpa using this, (Ext.refl _).alloc _⟩
 case round =>
   obtain ⟨j, acc, hj, rfl, hT, hO, hE⟩ := hrel
   obtain ⟨⟨g, cap, rfl⟩, hO2⟩ := hO
   have HT : Hid (TxA l k j acc) := hT
   have HO : Hid (OwB wr (w.heap.size + 1) (.slice (some ⟨g, 0, none⟩) acc.length cap) acc) := ⟨⟨g, cap, rfl⟩, hO2⟩
   have HE : Hid (Ext (w.alloc (.cells #[.int .i64 0, .int .i64 0, .string ⟨#[]⟩, .int .i64 0, .int .i64 0] 83)) wr) := hE
   have HC : Hid (acc.length ≤ 1000) := by have := hT.2.1; show _ ≤ _; omega
   have HJ : Hid (k + 1 ≤ j) := hT.1
   clear hT hO2 hE
   by_cases hlt : j < s.size
   · have hltI : (j : Int) < (s.size : Int) := by omega
     have wk : wrap64 ((j : Int) + 1) = ((j + 1 : Nat) : Int) := by unfold wrap64; omega
     have hb := byte_ne (c := s[j]) 34 (by omega)
     by_cases h1 : s[j] = 34
     · have tb : (((s[j]).toNat : Int) != 34) = false := by rw [bne, show (34 : Int) = ((34 : Nat) : Int) from rfl, hb, h1]; rfl
       have c1 := fun W => HI.out (j + 1) W hlt
       by_cases h2 : (l.drop (j + 1)).head? = some 34
       · rw [decide_eq_true h2] at c1
         have hlt2 : j + 1 < l.length := by
           rw [List.head?_drop] at h2; exact (List.getElem?_eq_some_iff.mp h2).1
         have HX : Hid (TxA l k (j + 1 + 1) (acc ++ [34])) := by
           rw [List.head?_drop, List.getElem?_eq_getElem hlt2] at h2
           exact HT.out.two hlt2 (by rw [HA.out j hlt]; exact h1) (Option.some.inj h2)
         have hlt3 : (j : Int) + 1 < (s.size : Int) := by have := HL.out; omega
         have HB : Hid (j + 1 + 1 ≤ s.size) := by have := HL.out; show _ ≤ _; omega
         clear hb h1 h2 hlt2
         go_wp2_with fail
         refine (c1 _).mono ?_
         rintro e w1 ⟨rfl, rfl⟩
         go_wp2_with (at_builtin; refine ob_append (w.alloc (.cells #[.int .i64 0, .int .i64 0, .string ⟨#[]⟩, .int .i64 0, .int .i64 0] 83)) _ (w.heap.size + 1) (by simp) _ _ _ _ acc 34 rfl rfl (by rfl) (by rfl) (HO.out.alloc _) (by simp) (by have := HC.out; omega) (HE.out.alloc _) ?_)
         intro v' w2 k1 k2
         have HO2 : Hid (OwB w2 (w.heap.size + 1) v' (acc ++ [34]) ∧ Ext (w.alloc (.cells #[.int .i64 0, .int .i64 0, .string ⟨#[]⟩, .int .i64 0, .int .i64 0] 83)) w2) := ⟨k1, k2⟩
         clear k1 k2
         go_wp2_with fail
         go_roundw
         case rel => exact ⟨j + 1 + 1, acc ++ [34], HB.out, by go_num, HX.out, HO2.out.1, HO2.out.2⟩
         case measure => simp [intOf]; omega
       · rw [decide_eq_false h2] at c1
         have HX : Hid (txtR (l.drop k) = .ok (1, acc, 0, 0, j + 1 - k)) := HT.out.done (by have := HL.out; omega) (by rw [HA.out j hlt]; exact h1) h2
         have CV : Hid (∀ v, v = Value.slice (some ⟨g, 0, none⟩) acc.length cap → (convert 107 9 v).run Try.prog wr = .ok (.string (bs acc)) wr) := by rintro v rfl; exact HO.out.conv
         clear hb h1 h2
         go_wp2_with fail
         refine (c1 _).mono ?_
         rintro e w1 ⟨rfl, rfl⟩
         have hcv := CV.out _ rfl
         obtain ⟨q, hq⟩ : ∃ q, bs acc = q := ⟨_, rfl⟩
         rw [hq] at hcv
         have HQ : Hid (bs acc = q) := hq
         have B3 := blk5_top rfl HE.out
         have X3 := ((Ext.refl w).alloc _).trans HE.out
         have D3 := B3
         obtain ⟨_, ⟨b0, b1, b2, b3, b4⟩, f0, f1, f2, f3, f4⟩ := D3
         clear hq
         go_wp2_with fail
         refine fin5 _ (B3.set _ _ _ _ _) rfl (by with_reducible repeat (first | assumption | exact Ext.refl _ | apply Ext.alloc | apply Ext.drewN | (refine Ext.setCell ?_ (by simp) _))) (fun g0 g1 g2 g3 g4 => by simp [results, Try.results109, go_sem, g0, g1, g2, g3, g4]; rfl) (fun h => ⟨?_, h⟩)
         rw [HX.out]
         rw [← HQ.out]
         exact rx_fin (1, acc, 0, 0, j + 1 - k) k _ (by have := HJ.out; simp; omega)
     · have tb : (((s[j]).toNat : Int) != 34) = true := by rw [bne, show (34 : Int) = ((34 : Nat) : Int) from rfl, hb]; simpa using h1
       have HX : Hid (TxA l k (j + 1) (acc ++ [s[j]])) := by
         have h3 : j < l.length := by have := HL.out; omega
         have := HT.out.one h3 (by rw [HA.out j hlt]; exact h1)
         rwa [HA.out j hlt] at this
       clear hb h1
       go_wp2_with (at_builtin; refine ob_append (w.alloc (.cells #[.int .i64 0, .int .i64 0, .string ⟨#[]⟩, .int .i64 0, .int .i64 0] 83)) _ (w.heap.size + 1) (by simp) _ _ _ _ acc s[j] rfl rfl (by rfl) (by rfl) (HO.out.alloc _) (by simp) (by have := HC.out; omega) (HE.out.alloc _) ?_)
       intro v' w2 k1 k2
       have HO2 : Hid (OwB w2 (w.heap.size + 1) v' (acc ++ [s[j]]) ∧ Ext (w.alloc (.cells #[.int .i64 0, .int .i64 0, .string ⟨#[]⟩, .int .i64 0, .int .i64 0] 83)) w2) := ⟨k1, k2⟩
       clear k1 k2
       go_wp2_with fail
       go_roundw
       case rel => exact ⟨j + 1, acc ++ [s[j]], by omega, by go_num, HX.out, HO2.out.1, HO2.out.2⟩
       case measure => simp [intOf]; omega
   · have hltI : ¬ (j : Int) < (s.size : Int) := by omega
     have HX : Hid (txtR (l.drop k) = .error 4) := HT.out.none (by have := HL.out; omega)
     have B3 := blk5_top rfl HE.out
     have X3 := ((Ext.refl w).alloc _).trans HE.out
     have D3 := B3
     obtain ⟨_, ⟨b0, b1, b2, b3, b4⟩, f0, f1, f2, f3, f4⟩ := D3
     go_wp2_with fail
     refine fin5 _ (B3.set _ _ _ _ _) rfl (by with_reducible repeat (first | assumption | exact Ext.refl _ | apply Ext.alloc | apply Ext.drewN | (refine Ext.setCell ?_ (by simp) _))) (fun g0 g1 g2 g3 g4 => by simp [results, Try.results109, go_sem, g0, g1, g2, g3, g4]; rfl) (fun h => ⟨?_, h⟩)
     rw [HX.out]
     exact rfl

open Go.RowKit
set_option maxHeartbeats 1000000

theorem kind_two (c : UInt8) (h : dgB c = false) : (kindN c == 2) = ltB c := by
 unfold kindN; rw [h]; cases ltB c <;> rfl
theorem kind_pos (c : UInt8) : decide (0 < kindN c) = (ltB c || dgB c) := by
 unfold kindN; cases dgB c <;> cases ltB c <;> rfl
theorem err_first {l : List UInt8} {x : Int × List UInt8} (h : errT l = some x) : l.head? = some 35 := by
 unfold errT at h
 have h1 := List.find?_some h
 have h2 := List.mem_of_find?_eq_some h
 obtain ⟨t, rfl⟩ := List.isPrefixOf_iff_prefix.mp h1
 simp [errsL] at h2; rcases h2 with rfl | rfl | rfl | rfl | rfl <;> rfl
def sg12 : List UInt8 := [60, 62, 61, 43, 45, 42, 47, 38, 40, 41, 44, 58]
/-- A sign, as the document asks for it. -/
theorem sg_two {l p : List UInt8} (hp : p = [60, 62] ∨ p = [60, 61] ∨ p = [62, 61]) (h : p.isPrefixOf l = true) : sgR l = .ok (3, l.take 2, 0, 0, 2) := by
 obtain ⟨t, rfl⟩ := List.isPrefixOf_iff_prefix.mp h
 rcases hp with rfl | rfl | rfl <;> rfl
theorem sg_one {c : UInt8} {r : List UInt8} (h1 : List.isPrefixOf [60, 62] (c :: r) = false) (h2 : List.isPrefixOf [60, 61] (c :: r) = false) (h3 : List.isPrefixOf [62, 61] (c :: r) = false) :
   sgR (c :: r) = if c ∈ sg12 then .ok (3, [c], 0, 0, 1) else .error 4 := by
 unfold sgR sgT sgsL
 simp only [List.find?_cons, h1, h2, h3]
 simp only [List.isPrefixOf_cons_cons, List.isPrefixOf_nil_left, Bool.and_true, List.find?_nil]
 unfold sg12
 simp only [List.mem_cons, List.not_mem_nil, or_false]
 by_cases g0 : c = 60
 · subst g0; rfl
 by_cases g1 : c = 62
 · subst g1; rfl
 by_cases g2 : c = 61
 · subst g2; rfl
 by_cases g3 : c = 43
 · subst g3; rfl
 by_cases g4 : c = 45
 · subst g4; rfl
 by_cases g5 : c = 42
 · subst g5; rfl
 by_cases g6 : c = 47
 · subst g6; rfl
 by_cases g7 : c = 38
 · subst g7; rfl
 by_cases g8 : c = 40
 · subst g8; rfl
 by_cases g9 : c = 41
 · subst g9; rfl
 by_cases g10 : c = 44
 · subst g10; rfl
 by_cases g11 : c = 58
 · subst g11; rfl
 have e : ∀ d : UInt8, c ≠ d → (d == c) = false := fun d h => by simpa using fun e : d = c => h e.symm
 rw [e 60 g0, e 62 g1, e 61 g2, e 43 g3, e 45 g4, e 42 g5, e 47 g6, e 38 g7, e 40 g8, e 41 g9, e 44 g10, e 58 g11, if_neg (by simp [g0, g1, g2, g3, g4, g5, g6, g7, g8, g9, g10, g11])]
theorem nxt_err {c : UInt8} {r : List UInt8} (h1 : dgB c = false) (h2 : c ≠ 34) (h3 : ltB c = false) {x : Int × List UInt8} (h : errT (c :: r) = some x) : nxt (c :: r) = .ok (4, [], 0, x.1, x.2.length) := by
 have hc := err_first h
 simp at hc
 rw [nxt_cons, h1, if_neg (by simp), if_neg h2, h3, if_neg (by simp), if_pos hc]; unfold errR; rw [h]
theorem nxt_sg {c : UInt8} {r : List UInt8} (h1 : dgB c = false) (h2 : c ≠ 34) (h3 : ltB c = false) (h : errT (c :: r) = none) : nxt (c :: r) = sgR (c :: r) := by
 rw [nxt_cons, h1, if_neg (by simp), if_neg h2, h3, if_neg (by simp)]
 by_cases hc : c = 35
 · rw [if_pos hc]; unfold errR; rw [h]; subst hc; rfl
 · rw [if_neg hc]
theorem sg12_0 (W : World) : (Instr.index 9 (.string ⟨#[60, 62, 61, 43, 45, 42, 47, 38, 40, 41, 44, 58]⟩) (.int .i64 0)).run Try.prog W = .ok (.int .u8 60) W := by kernel_rfl
theorem sg12_1 (W : World) : (Instr.index 9 (.string ⟨#[60, 62, 61, 43, 45, 42, 47, 38, 40, 41, 44, 58]⟩) (.int .i64 1)).run Try.prog W = .ok (.int .u8 62) W := by kernel_rfl
theorem sg12_2 (W : World) : (Instr.index 9 (.string ⟨#[60, 62, 61, 43, 45, 42, 47, 38, 40, 41, 44, 58]⟩) (.int .i64 2)).run Try.prog W = .ok (.int .u8 61) W := by kernel_rfl
theorem sg12_3 (W : World) : (Instr.index 9 (.string ⟨#[60, 62, 61, 43, 45, 42, 47, 38, 40, 41, 44, 58]⟩) (.int .i64 3)).run Try.prog W = .ok (.int .u8 43) W := by kernel_rfl
theorem sg12_4 (W : World) : (Instr.index 9 (.string ⟨#[60, 62, 61, 43, 45, 42, 47, 38, 40, 41, 44, 58]⟩) (.int .i64 4)).run Try.prog W = .ok (.int .u8 45) W := by kernel_rfl
theorem sg12_5 (W : World) : (Instr.index 9 (.string ⟨#[60, 62, 61, 43, 45, 42, 47, 38, 40, 41, 44, 58]⟩) (.int .i64 5)).run Try.prog W = .ok (.int .u8 42) W := by kernel_rfl
theorem sg12_6 (W : World) : (Instr.index 9 (.string ⟨#[60, 62, 61, 43, 45, 42, 47, 38, 40, 41, 44, 58]⟩) (.int .i64 6)).run Try.prog W = .ok (.int .u8 47) W := by kernel_rfl
theorem sg12_7 (W : World) : (Instr.index 9 (.string ⟨#[60, 62, 61, 43, 45, 42, 47, 38, 40, 41, 44, 58]⟩) (.int .i64 7)).run Try.prog W = .ok (.int .u8 38) W := by kernel_rfl
theorem sg12_8 (W : World) : (Instr.index 9 (.string ⟨#[60, 62, 61, 43, 45, 42, 47, 38, 40, 41, 44, 58]⟩) (.int .i64 8)).run Try.prog W = .ok (.int .u8 40) W := by kernel_rfl
theorem sg12_9 (W : World) : (Instr.index 9 (.string ⟨#[60, 62, 61, 43, 45, 42, 47, 38, 40, 41, 44, 58]⟩) (.int .i64 9)).run Try.prog W = .ok (.int .u8 41) W := by kernel_rfl
theorem sg12_10 (W : World) : (Instr.index 9 (.string ⟨#[60, 62, 61, 43, 45, 42, 47, 38, 40, 41, 44, 58]⟩) (.int .i64 10)).run Try.prog W = .ok (.int .u8 44) W := by kernel_rfl
theorem sg12_11 (W : World) : (Instr.index 9 (.string ⟨#[60, 62, 61, 43, 45, 42, 47, 38, 40, 41, 44, 58]⟩) (.int .i64 11)).run Try.prog W = .ok (.int .u8 58) W := by kernel_rfl
theorem sg12_at (j : Nat) (p : UInt8) (h : sg12[j]? = some p) (W : World) : (Instr.index 9 (.string ⟨#[60, 62, 61, 43, 45, 42, 47, 38, 40, 41, 44, 58]⟩) (.int .i64 (j : Int))).run Try.prog W = .ok (.int .u8 (p.toNat : Int)) W := by
 have hj : j < 12 := (List.getElem?_eq_some_iff.mp h).1
 have hh : j = 0 ∨ j = 1 ∨ j = 2 ∨ j = 3 ∨ j = 4 ∨ j = 5 ∨ j = 6 ∨ j = 7 ∨ j = 8 ∨ j = 9 ∨ j = 10 ∨ j = 11 := by omega
 rcases hh with rfl | rfl | rfl | rfl | rfl | rfl | rfl | rfl | rfl | rfl | rfl | rfl
 · simp [sg12] at h; subst h; exact sg12_0 W
 · simp [sg12] at h; subst h; exact sg12_1 W
 · simp [sg12] at h; subst h; exact sg12_2 W
 · simp [sg12] at h; subst h; exact sg12_3 W
 · simp [sg12] at h; subst h; exact sg12_4 W
 · simp [sg12] at h; subst h; exact sg12_5 W
 · simp [sg12] at h; subst h; exact sg12_6 W
 · simp [sg12] at h; subst h; exact sg12_7 W
 · simp [sg12] at h; subst h; exact sg12_8 W
 · simp [sg12] at h; subst h; exact sg12_9 W
 · simp [sg12] at h; subst h; exact sg12_10 W
 · simp [sg12] at h; subst h; exact sg12_11 W
theorem qerrname_at (i : Nat) (x : Int × List UInt8) (hx : errsL[i]? = some x) (w : World) : Calls Try.prog 69 #[.int .i64 ((i + 1 : Nat) : Int)] w fun r w' => r = .returned (.string (bs x.2)) ∧ w' = w := by
 have hi : i < 5 := (List.getElem?_eq_some_iff.mp hx).1
 have hh : i = 0 ∨ i = 1 ∨ i = 2 ∨ i = 3 ∨ i = 4 := by omega
 rcases hh with rfl | rfl | rfl | rfl | rfl
 all_goals
   simp [errsL] at hx
   subst hx
   clear hi
   go_enter Try.func69, Try.ntmps69
   go_wp2_with fail
   go_ret
   exact ⟨rfl, rfl⟩

set_option maxHeartbeats 4000000 in
theorem qword_any (s : ByteArray) (k : Nat) (w : World) (hk : k < s.size) (hs : s.size ≤ 300) :
   Calls Try.prog 92 #[.string s, .int .i64 (k : Int)] w fun e w' => RxR (nxt (s.data.toList.drop k)) k e ∧ Ext w w' := by
 have hl := size_list s
 have hkI : (k : Int) < (s.size : Int) := by omega
 obtain ⟨l, hll⟩ : ∃ l, s.data.toList.drop k = l := ⟨_, rfl⟩
 have hc : l = s[k] :: s.data.toList.drop (k + 1) := by rw [← hll, List.drop_eq_getElem_cons (by rw [hl]; exact hk)]; rfl
 have hn : nxt l = if dgB s[k] then numR l else if s[k] = 34 then txtR l else if ltB s[k] then wdR l else if s[k] = 35 then errR l else sgR l := by
   rw [hc]; exact nxt_cons _ _
 have d1 := fun W => qkind_any s[k] W
 have k1 := kind_one s[k]
 have k2 := kind_two s[k]
 obtain ⟨K, hK⟩ : ∃ K, kindN s[k] = K := ⟨_, rfl⟩
 rw [hK] at d1 k1 k2
 have b1 := byte_ne (c := s[k]) 34 (by omega)
 have c1 := fun W => qnumber_any s k W (Nat.le_of_lt hk) hs
 have c2 := fun W => qtext_any s k W hk hs
 rw [hll] at c1 c2 ⊢
 cases h1 : dgB s[k]
 case true =>
   rw [h1] at k1 hn
   simp only [if_true] at hn
   clear h1 b1 k2 hK hl hll hc
   have HN : Hid (nxt l = numR l) := hn
   clear hn
   cases hr : numR l with
   | ok x =>
     have HR : Hid (numR l = .ok x) := hr
     obtain ⟨x0, x1, x2, x3, x4⟩ := x
     have C : ∀ W, Calls Try.prog 108 #[.string s, .int .i64 (k : Int)] W fun e w' => e = .returned (.tuple #[.agg #[.int .i64 x0, .int .i64 (k : Int), .string (bs x1), .int .i64 x2, .int .i64 x3], .int .i64 ((k + x4 : Nat) : Int), .int .i64 0]) ∧ Ext W w' := by rw [hr] at c1; exact c1
     clear hr c1 c2
     obtain ⟨q1, hq1⟩ : ∃ q1, bs x1 = q1 := ⟨_, rfl⟩
     obtain ⟨m, hm⟩ : ∃ m, k + x4 = m := ⟨_, rfl⟩
     rw [hq1, hm] at C
     have HQ : Hid (bs x1 = q1 ∧ k + x4 = m) := ⟨hq1, hm⟩
     clear hq1 hm
     go_enter Try.func92, Try.ntmps92
     go_wp2_with fail
     refine (d1 _).mono ?_
     rintro e w1 ⟨rfl, rfl⟩
     go_wp2_with fail
     refine (C _).mono ?_
     rintro e w3 ⟨rfl, E3⟩
     have B3 := blk5_top rfl E3
     have X3 := ((Ext.refl w).alloc _).trans E3
     have D3 := B3
     obtain ⟨_, ⟨b0, b1, b2, b3, b4⟩, f0, f1, f2, f3, f4⟩ := D3
     clear E3
     go_wp2_with fail
     refine fin5 _ (B3.set _ _ _ _ _) rfl (by with_reducible repeat (first | assumption | exact Ext.refl _ | apply Ext.alloc | apply Ext.drewN | (refine Ext.setCell ?_ (by simp) _))) (fun g0 g1 g2 g3 g4 => by simp [results, Try.results92, go_sem, g0, g1, g2, g3, g4]; rfl) (fun h => ⟨?_, h⟩)
     rw [HN.out, HR.out, ← HQ.out.1]
     exact rx_fin (x0, x1, x2, x3, x4) k _ (by rw [← HQ.out.2])
   | error c =>
     have HR : Hid (numR l = .error c) := hr
     have C : ∀ W, Calls Try.prog 108 #[.string s, .int .i64 (k : Int)] W fun e w' => e = .returned (.tuple #[.agg #[.int .i64 0, .int .i64 0, .string ⟨#[]⟩, .int .i64 0, .int .i64 0], .int .i64 (k : Int), .int .i64 c]) ∧ Ext W w' := by rw [hr] at c1; exact c1
     clear hr c1 c2
     go_enter Try.func92, Try.ntmps92
     go_wp2_with fail
     refine (d1 _).mono ?_
     rintro e w1 ⟨rfl, rfl⟩
     go_wp2_with fail
     refine (C _).mono ?_
     rintro e w3 ⟨rfl, E3⟩
     have B3 := blk5_top rfl E3
     have X3 := ((Ext.refl w).alloc _).trans E3
     have D3 := B3
     obtain ⟨_, ⟨b0, b1, b2, b3, b4⟩, f0, f1, f2, f3, f4⟩ := D3
     clear E3
     go_wp2_with fail
     refine fin5 _ (B3.set _ _ _ _ _) rfl (by with_reducible repeat (first | assumption | exact Ext.refl _ | apply Ext.alloc | apply Ext.drewN | (refine Ext.setCell ?_ (by simp) _))) (fun g0 g1 g2 g3 g4 => by simp [results, Try.results92, go_sem, g0, g1, g2, g3, g4]; rfl) (fun h => ⟨?_, h⟩)
     rw [HN.out, HR.out]
     exact rfl
 rw [h1] at k1 hn
 simp only [Bool.false_eq_true, if_false] at hn
 replace k2 := k2 h1
 by_cases h2 : s[k] = 34
 · rw [if_pos h2] at hn
   have t1 : (((s[k]).toNat : Int) == 34) = true := by rw [show (34 : Int) = ((34 : Nat) : Int) from rfl, b1, h2]; rfl
   clear h1 h2 b1 k2 hK hl hll hc
   have HN : Hid (nxt l = txtR l) := hn
   clear hn
   cases hr : txtR l with
   | ok x =>
     have HR : Hid (txtR l = .ok x) := hr
     obtain ⟨x0, x1, x2, x3, x4⟩ := x
     have C : ∀ W, Calls Try.prog 109 #[.string s, .int .i64 (k : Int)] W fun e w' => e = .returned (.tuple #[.agg #[.int .i64 x0, .int .i64 (k : Int), .string (bs x1), .int .i64 x2, .int .i64 x3], .int .i64 ((k + x4 : Nat) : Int), .int .i64 0]) ∧ Ext W w' := by rw [hr] at c2; exact c2
     clear hr c1 c2
     obtain ⟨q1, hq1⟩ : ∃ q1, bs x1 = q1 := ⟨_, rfl⟩
     obtain ⟨m, hm⟩ : ∃ m, k + x4 = m := ⟨_, rfl⟩
     rw [hq1, hm] at C
     have HQ : Hid (bs x1 = q1 ∧ k + x4 = m) := ⟨hq1, hm⟩
     clear hq1 hm
     go_enter Try.func92, Try.ntmps92
     go_wp2_with fail
     refine (d1 _).mono ?_
     rintro e w1 ⟨rfl, rfl⟩
     go_wp2_with fail
     refine (C _).mono ?_
     rintro e w3 ⟨rfl, E3⟩
     have B3 := blk5_top rfl E3
     have X3 := ((Ext.refl w).alloc _).trans E3
     have D3 := B3
     obtain ⟨_, ⟨b0, b1, b2, b3, b4⟩, f0, f1, f2, f3, f4⟩ := D3
     clear E3
     go_wp2_with fail
     refine fin5 _ (B3.set _ _ _ _ _) rfl (by with_reducible repeat (first | assumption | exact Ext.refl _ | apply Ext.alloc | apply Ext.drewN | (refine Ext.setCell ?_ (by simp) _))) (fun g0 g1 g2 g3 g4 => by simp [results, Try.results92, go_sem, g0, g1, g2, g3, g4]; rfl) (fun h => ⟨?_, h⟩)
     rw [HN.out, HR.out, ← HQ.out.1]
     exact rx_fin (x0, x1, x2, x3, x4) k _ (by rw [← HQ.out.2])
   | error c =>
     have HR : Hid (txtR l = .error c) := hr
     have C : ∀ W, Calls Try.prog 109 #[.string s, .int .i64 (k : Int)] W fun e w' => e = .returned (.tuple #[.agg #[.int .i64 0, .int .i64 0, .string ⟨#[]⟩, .int .i64 0, .int .i64 0], .int .i64 (k : Int), .int .i64 c]) ∧ Ext W w' := by rw [hr] at c2; exact c2
     clear hr c1 c2
     go_enter Try.func92, Try.ntmps92
     go_wp2_with fail
     refine (d1 _).mono ?_
     rintro e w1 ⟨rfl, rfl⟩
     go_wp2_with fail
     refine (C _).mono ?_
     rintro e w3 ⟨rfl, E3⟩
     have B3 := blk5_top rfl E3
     have X3 := ((Ext.refl w).alloc _).trans E3
     have D3 := B3
     obtain ⟨_, ⟨b0, b1, b2, b3, b4⟩, f0, f1, f2, f3, f4⟩ := D3
     clear E3
     go_wp2_with fail
     refine fin5 _ (B3.set _ _ _ _ _) rfl (by with_reducible repeat (first | assumption | exact Ext.refl _ | apply Ext.alloc | apply Ext.drewN | (refine Ext.setCell ?_ (by simp) _))) (fun g0 g1 g2 g3 g4 => by simp [results, Try.results92, go_sem, g0, g1, g2, g3, g4]; rfl) (fun h => ⟨?_, h⟩)
     rw [HN.out, HR.out]
     exact rfl
 rw [if_neg h2] at hn
 have t1 : (((s[k]).toNat : Int) == 34) = false := by rw [show (34 : Int) = ((34 : Nat) : Int) from rfl, b1]; simpa using h2
 cases h3 : ltB s[k]
 case true =>
   rw [h3] at k2 hn
   simp only [if_true] at hn
   have HN : Hid (nxt l = .ok (2, l.take (run inW l), 0, 0, run inW l)) := hn
   have HL : Hid (s.data.toList.length = s.size) := hl
   have HD : Hid (s.data.toList.drop k = l) := hll
   clear h1 h2 h3 b1 hK hl hll hc hn c1 c2
   go_enter Try.func92, Try.ntmps92
   go_wp2_with fail
   refine (d1 _).mono ?_
   rintro e w1 ⟨rfl, rfl⟩
   go_wp2_with fail
   refine (d1 _).mono ?_
   rintro e w1 ⟨rfl, rfl⟩
   go_wp2_with fail
   go_loopw [7] (fun i wr => ∃ j : Nat, k ≤ j ∧ j ≤ s.size ∧ i = .int .i64 (j : Int) ∧ k + run inW l = j + run inW (s.data.toList.drop j) ∧ wr = w.alloc (.cells #[.int .i64 0, .int .i64 0, .string ⟨#[]⟩, .int .i64 0, .int .i64 0] 83)) (fun i _ => s.size - (intOf i).toNat)
   case atStart => exact ⟨k, Nat.le_refl _, Nat.le_of_lt hk, rfl, by rw [HD.out], rfl⟩
   case round =>
     obtain ⟨j, hkj, hj, rfl, ha, rfl⟩ := hrel
     have HA : Hid (k + run inW l = j + run inW (s.data.toList.drop j)) := ha
     clear ha
     by_cases hlt : j < s.size
     · have hltI : (j : Int) < (s.size : Int) := by omega
       have HT : Hid (run inW (s.data.toList.drop j) = if inW s[j] then run inW (s.data.toList.drop (j + 1)) + 1 else 0) := run_at inW s.data.toList j (by have := HL.out; omega)
       have e1 := fun W => qkind_any s[j] W
       have p1 := kind_pos s[j]
       obtain ⟨N, hN⟩ : ∃ N, kindN s[j] = N := ⟨_, rfl⟩
       rw [hN] at e1 p1
       have b2 := byte_ne (c := s[j]) 95 (by omega)
       have b3 : (((s[j]).toNat : Int) == 95) = (s[j] == 95) := by rw [show (95 : Int) = ((95 : Nat) : Int) from rfl, b2]; rfl
       have wk : wrap64 ((j : Int) + 1) = ((j + 1 : Nat) : Int) := by unfold wrap64; omega
       cases hp : (ltB s[j] || dgB s[j])
       · rw [hp] at p1
         have q1 : ¬ (0 : Int) < N := by simpa using p1
         cases hu : (s[j] == 95)
         · have HP : Hid (inW s[j] = false) := by show _ = _; unfold inW; rw [hp, hu]; rfl
           rw [hu] at b3
           clear hp hu hN b2
           go_wp2_with fail
           refine (e1 _).mono ?_
           rintro e w1 ⟨rfl, rfl⟩
           go_wp2_with fail
           refine fin5 _ (blk5_top rfl (Ext.refl _)) rfl ((Ext.refl _).alloc _) (fun g0 g1 g2 g3 g4 => by simp [results, Try.results92, go_sem, g0, g1, g2, g3, g4]; rfl) (fun h => ⟨?_, h⟩)
           have hm : j = k + run inW l := by have h1 := HA.out; have h2 := HT.out; rw [HP.out] at h2; simp at h2; omega
           rw [HN.out, hm, sub_bs, HD.out]
           exact rx_fin (2, l.take (run inW l), 0, 0, run inW l) k _ rfl
         · have HP : Hid (inW s[j] = true) := by show _ = _; unfold inW; rw [hp, hu]; rfl
           rw [hu] at b3
           clear hp hu hN b2
           go_wp2_with fail
           refine (e1 _).mono ?_
           rintro e w1 ⟨rfl, rfl⟩
           go_wp2_with fail
           go_roundw
           case rel => exact ⟨j + 1, by omega, by omega, by go_num, by rw [HA.out, HT.out, HP.out]; simp; omega, trivial⟩
           case measure => simp [intOf]; omega
       · rw [hp] at p1
         have q1 : (0 : Int) < N := by simpa using p1
         have HP : Hid (inW s[j] = true) := by show _ = _; unfold inW; rw [hp]; rfl
         clear hp hN b2 b3
         go_wp2_with fail
         refine (e1 _).mono ?_
         rintro e w1 ⟨rfl, rfl⟩
         go_wp2_with fail
         go_roundw
         case rel => exact ⟨j + 1, by omega, by omega, by go_num, by rw [HA.out, HT.out, HP.out]; simp; omega, trivial⟩
         case measure => simp [intOf]; omega
     · have hltI : ¬ (j : Int) < (s.size : Int) := by omega
       have HT : Hid (run inW (s.data.toList.drop j) = 0) := run_off inW s.data.toList j (by have := HL.out; omega)
       have hjs : j ≤ s.size := hj
       go_wp2_with fail
       refine fin5 _ (blk5_top rfl (Ext.refl _)) rfl ((Ext.refl _).alloc _) (fun g0 g1 g2 g3 g4 => by simp [results, Try.results92, go_sem, g0, g1, g2, g3, g4]; rfl) (fun h => ⟨?_, h⟩)
       have hm : j = k + run inW l := by have h1 := HA.out; have h2 := HT.out; omega
       rw [HN.out, hm, sub_bs, HD.out]
       exact rx_fin (2, l.take (run inW l), 0, 0, run inW l) k _ rfl
 rw [h3] at k2
 have HE : Hid (∀ x, errT l = some x → nxt l = .ok (4, [], 0, x.1, x.2.length)) := by intro x hx; rw [hc] at hx ⊢; exact nxt_err h1 h2 h3 hx
 have HS : Hid (errT l = none → nxt l = sgR l) := by intro hx; rw [hc] at hx ⊢; exact nxt_sg h1 h2 h3 hx
 have HC : Hid (∃ r, l = s[k] :: r) := ⟨_, hc⟩
 have HD : Hid (s.data.toList.drop k = l) := hll
 have cI : ∀ t : ByteArray, t.size ≤ 10 → ∀ W, Calls Try.prog 110 #[.string s, .int .i64 (k : Int), .string t] W fun e w' => e = .returned (.bool (t.data.toList.isPrefixOf l)) ∧ w' = W := by
   intro t ht W
   have h := qis_any s t k W (Nat.le_of_lt hk) hs ht
   rwa [hll] at h
 have HI : Hid (∀ t : ByteArray, t.size ≤ 10 → ∀ W, Calls Try.prog 110 #[.string s, .int .i64 (k : Int), .string t] W fun e w' => e = .returned (.bool (t.data.toList.isPrefixOf l)) ∧ w' = W) := cI
 clear h1 h2 h3 b1 hK hl hll hc hn c1 c2 cI
 go_enter Try.func92, Try.ntmps92
 go_wp2_with fail
 refine (d1 _).mono ?_
 rintro e w1 ⟨rfl, rfl⟩
 go_wp2_with fail
 refine (d1 _).mono ?_
 rintro e w1 ⟨rfl, rfl⟩
 go_wp2_with fail
 go_loopw [8] (fun i wr => ∃ j : Nat, j ≤ 5 ∧ i = .int .i64 ((j + 1 : Nat) : Int) ∧ (errsL.take j).find? (fun x => x.2.isPrefixOf l) = none ∧ wr = w.alloc (.cells #[.int .i64 0, .int .i64 0, .string ⟨#[]⟩, .int .i64 0, .int .i64 0] 83)) (fun i _ => 6 - (intOf i).toNat)
 case atStart => exact ⟨0, by omega, rfl, rfl, rfl⟩
 case round =>
   obtain ⟨j, hj, rfl, hf, rfl⟩ := hrel
   have HF : Hid ((errsL.take j).find? (fun x => x.2.isPrefixOf l) = none) := hf
   clear hf
   by_cases hlt : j < 5
   · obtain ⟨x, hx⟩ : ∃ x, errsL[j]? = some x := ⟨_, List.getElem?_eq_getElem (by simp [errsL]; omega)⟩
     have e1 := fun W => qerrname_at j x hx W
     have HY : Hid (x.1 = (j : Int) + 1 ∧ (bs x.2).size ≤ 10) := by
       have hh : j = 0 ∨ j = 1 ∨ j = 2 ∨ j = 3 ∨ j = 4 := by omega
       rcases hh with rfl | rfl | rfl | rfl | rfl <;> (simp [errsL] at hx; subst hx; exact ⟨rfl, by decide⟩)
     have HX : Hid (errsL[j]? = some x) := hx
     have hxs : (bs x.2).size ≤ 10 := HY.out.2
     have HZ : Hid ((bs x.2).size = x.2.length) := bs_size _
     have e2 := fun W => HI.out (bs x.2) hxs W
     rw [bs_list] at e2
     obtain ⟨t, ht⟩ : ∃ t, x.2.isPrefixOf l = t := ⟨_, rfl⟩
     rw [ht] at e2
     have HT : Hid (x.2.isPrefixOf l = t) := ht
     clear hx ht
     generalize hb : bs x.2 = b at e1 e2 hxs HZ
     clear hb
     have hl1 : ((j + 1 : Nat) : Int) ≤ 5 := by omega
     cases t
     · go_wp2_with fail
       refine (e1 _).mono ?_
       rintro e w1 ⟨rfl, rfl⟩
       go_wp2_with fail
       refine (e2 _).mono ?_
       rintro e w1 ⟨rfl, rfl⟩
       go_wp2_with fail
       go_roundw
       case rel => exact ⟨j + 1, by omega, by go_num, find_on HF.out HX.out HT.out, trivial⟩
       case measure => simp [intOf]; omega
     · go_wp2_with fail
       refine (e1 _).mono ?_
       rintro e w1 ⟨rfl, rfl⟩
       go_wp2_with fail
       refine (e2 _).mono ?_
       rintro e w1 ⟨rfl, rfl⟩
       go_wp2_with fail
       refine (e1 _).mono ?_
       rintro e w1 ⟨rfl, rfl⟩
       go_wp2_with fail
       refine fin5 _ (blk5_top rfl (Ext.refl _)) rfl ((Ext.refl _).alloc _) (fun g0 g1 g2 g3 g4 => by simp [results, Try.results92, go_sem, g0, g1, g2, g3, g4]; rfl) (fun h => ⟨?_, h⟩)
       rw [HE.out x (by unfold errT; exact find_here HF.out HX.out HT.out), HY.out.1, ← HZ.out]
       exact rx_fin (4, [], 0, (j : Int) + 1, b.size) k _ (by simp)
   · have hl1 : ¬ ((j + 1 : Nat) : Int) ≤ 5 := by omega
     have HR : Hid (nxt l = sgR l) := HS.out (by unfold errT; exact find_end HF.out (by simp [errsL]; omega))
     have s1 := HI.out ⟨#[60, 62]⟩ (by decide)
     have s2 := HI.out ⟨#[60, 61]⟩ (by decide)
     have s3 := HI.out ⟨#[62, 61]⟩ (by decide)
     have ht2 : ∀ p, (p = [60, 62] ∨ p = [60, 61] ∨ p = [62, 61]) → List.isPrefixOf p l = true → k + 2 ≤ s.size := by
       intro p hp h
       have h4 := (List.isPrefixOf_iff_prefix.mp h).length_le
       have h5 := congrArg List.length HD.out
       rw [List.length_drop, size_list] at h5
       rcases hp with rfl | rfl | rfl <;> (simp at h4; omega)
     clear HE HS
     cases g1 : List.isPrefixOf [60, 62] l
     case true =>
       have HW : Hid (sgR l = .ok (3, l.take 2, 0, 0, 2)) := sg_two (.inl rfl) g1
       have hm : k + 2 ≤ s.size := ht2 _ (.inl rfl) g1
       replace s1 : ∀ W, Calls Try.prog 110 #[.string s, .int .i64 (k : Int), .string ⟨#[60, 62]⟩] W fun e w' => e = .returned (.bool true) ∧ w' = W := by intro W; have := s1 W; rwa [show (⟨#[60, 62]⟩ : ByteArray).data.toList = [60, 62] from rfl, g1] at this
       clear g1 ht2 s2 s3
       go_wp2_with fail
       refine (s1 _).mono ?_
       rintro e w1 ⟨rfl, rfl⟩
       go_wp2_with fail
       refine fin5 _ (blk5_top rfl (Ext.refl _)) rfl ((Ext.refl _).alloc _) (fun g0 g1 g2 g3 g4 => by simp [results, Try.results92, go_sem, g0, g1, g2, g3, g4]; rfl) (fun h => ⟨?_, h⟩)
       rw [HR.out, HW.out, sub_bs, HD.out]
       exact rx_fin (3, l.take 2, 0, 0, 2) k _ (by simp)
     replace s1 : ∀ W, Calls Try.prog 110 #[.string s, .int .i64 (k : Int), .string ⟨#[60, 62]⟩] W fun e w' => e = .returned (.bool false) ∧ w' = W := by intro W; have := s1 W; rwa [show (⟨#[60, 62]⟩ : ByteArray).data.toList = [60, 62] from rfl, g1] at this
     cases g2 : List.isPrefixOf [60, 61] l
     case true =>
       have HW : Hid (sgR l = .ok (3, l.take 2, 0, 0, 2)) := sg_two (.inr (.inl rfl)) g2
       have hm : k + 2 ≤ s.size := ht2 _ (.inr (.inl rfl)) g2
       replace s2 : ∀ W, Calls Try.prog 110 #[.string s, .int .i64 (k : Int), .string ⟨#[60, 61]⟩] W fun e w' => e = .returned (.bool true) ∧ w' = W := by intro W; have := s2 W; rwa [show (⟨#[60, 61]⟩ : ByteArray).data.toList = [60, 61] from rfl, g2] at this
       clear g1 g2 ht2 s3
       go_wp2_with fail
       refine (s1 _).mono ?_
       rintro e w1 ⟨rfl, rfl⟩
       go_wp2_with fail
       refine (s2 _).mono ?_
       rintro e w1 ⟨rfl, rfl⟩
       go_wp2_with fail
       refine fin5 _ (blk5_top rfl (Ext.refl _)) rfl ((Ext.refl _).alloc _) (fun g0 g1 g2 g3 g4 => by simp [results, Try.results92, go_sem, g0, g1, g2, g3, g4]; rfl) (fun h => ⟨?_, h⟩)
       rw [HR.out, HW.out, sub_bs, HD.out]
       exact rx_fin (3, l.take 2, 0, 0, 2) k _ (by simp)
     replace s2 : ∀ W, Calls Try.prog 110 #[.string s, .int .i64 (k : Int), .string ⟨#[60, 61]⟩] W fun e w' => e = .returned (.bool false) ∧ w' = W := by intro W; have := s2 W; rwa [show (⟨#[60, 61]⟩ : ByteArray).data.toList = [60, 61] from rfl, g2] at this
     cases g3 : List.isPrefixOf [62, 61] l
     case true =>
       have HW : Hid (sgR l = .ok (3, l.take 2, 0, 0, 2)) := sg_two (.inr (.inr rfl)) g3
       have hm : k + 2 ≤ s.size := ht2 _ (.inr (.inr rfl)) g3
       replace s3 : ∀ W, Calls Try.prog 110 #[.string s, .int .i64 (k : Int), .string ⟨#[62, 61]⟩] W fun e w' => e = .returned (.bool true) ∧ w' = W := by intro W; have := s3 W; rwa [show (⟨#[62, 61]⟩ : ByteArray).data.toList = [62, 61] from rfl, g3] at this
       clear g1 g2 g3 ht2
       go_wp2_with fail
       refine (s1 _).mono ?_
       rintro e w1 ⟨rfl, rfl⟩
       go_wp2_with fail
       refine (s2 _).mono ?_
       rintro e w1 ⟨rfl, rfl⟩
       go_wp2_with fail
       refine (s3 _).mono ?_
       rintro e w1 ⟨rfl, rfl⟩
       go_wp2_with fail
       refine fin5 _ (blk5_top rfl (Ext.refl _)) rfl ((Ext.refl _).alloc _) (fun g0 g1 g2 g3 g4 => by simp [results, Try.results92, go_sem, g0, g1, g2, g3, g4]; rfl) (fun h => ⟨?_, h⟩)
       rw [HR.out, HW.out, sub_bs, HD.out]
       exact rx_fin (3, l.take 2, 0, 0, 2) k _ (by simp)
     replace s3 : ∀ W, Calls Try.prog 110 #[.string s, .int .i64 (k : Int), .string ⟨#[62, 61]⟩] W fun e w' => e = .returned (.bool false) ∧ w' = W := by intro W; have := s3 W; rwa [show (⟨#[62, 61]⟩ : ByteArray).data.toList = [62, 61] from rfl, g3] at this
     have HW : Hid (sgR l = if s[k] ∈ sg12 then .ok (3, [s[k]], 0, 0, 1) else .error 4) := by
       obtain ⟨r, hr⟩ := HC.out
       rw [hr] at g1 g2 g3 ⊢
       exact sg_one g1 g2 g3
     have HO : Hid (bs [s[k]] = s.extract k (k + 1)) := by
       obtain ⟨r, hr⟩ := HC.out
       show _ = _; rw [sub_bs, HD.out, hr]; rfl
     clear g1 g2 g3 ht2
     go_wp2_with fail
     refine (s1 _).mono ?_
     rintro e w1 ⟨rfl, rfl⟩
     go_wp2_with fail
     refine (s2 _).mono ?_
     rintro e w1 ⟨rfl, rfl⟩
     go_wp2_with fail
     refine (s3 _).mono ?_
     rintro e w1 ⟨rfl, rfl⟩
     go_wp2_with fail
     go_loopw [9] (fun i wr => ∃ j : Nat, j ≤ 12 ∧ i = .int .i64 (j : Int) ∧ (∀ i (h : i < j) p, sg12[i]? = some p → s[k] ≠ p) ∧ Ext w wr ∧ Blk5 wr w.heap.size (.int .i64 0) (.int .i64 0) (.string ⟨#[]⟩) (.int .i64 0) (.int .i64 0)) (fun i _ => 12 - (intOf i).toNat)
     case atStart => exact ⟨0, by omega, rfl, fun i h => by omega, (Ext.refl _).alloc _, blk5_top rfl (Ext.refl _)⟩
     case round =>
       obtain ⟨i, hi, rfl, hf, hX, hB⟩ := hrel
       have HF2 : Hid (∀ m (h : m < i) p, sg12[m]? = some p → s[k] ≠ p) := hf
       have HX : Hid (Ext w wr) := hX
       have HB : Hid (Blk5 wr w.heap.size (.int .i64 0) (.int .i64 0) (.string ⟨#[]⟩) (.int .i64 0) (.int .i64 0)) := hB
       clear hf hX hB
       by_cases hlt2 : i < 12
       · have hl2 : (i : Int) < 12 := by omega
         obtain ⟨p, hp⟩ : ∃ p, sg12[i]? = some p := ⟨_, List.getElem?_eq_getElem (by simp [sg12]; omega)⟩
         have hix := fun W => sg12_at i p hp W
         have HP : Hid (sg12[i]? = some p) := hp
         clear hp
         have wk : wrap64 ((i : Int) + 1) = ((i + 1 : Nat) : Int) := by unfold wrap64; omega
         by_cases he : s[k] = p
         · have te : (((s[k]).toNat : Int) == (p.toNat : Int)) = true := by rw [he]; simp
           have HE : Hid (s[k] = p) := he
           clear he
           go_upto_region 20 with fail
           go_quiet (fail)
           have X3 : Ext w (wr.drewN nq) := HX.out.drewN _
           have B3 := HB.out.ext ((Ext.refl wr).drewN nq)
           have D3 := B3
           obtain ⟨_, ⟨b0, b1, b2, b3, b4⟩, f0, f1, f2, f3, f4⟩ := D3
           generalize wr.drewN nq = w3 at *
           go_wp2_with fail
           refine fin5 _ (B3.set _ _ _ _ _) rfl (by with_reducible repeat (first | assumption | exact Ext.refl _ | apply Ext.alloc | apply Ext.drewN | (refine Ext.setCell ?_ (by simp) _))) (fun g0 g1 g2 g3 g4 => by simp [results, Try.results92, go_sem, g0, g1, g2, g3, g4]; rfl) (fun h => ⟨?_, h⟩)
           rw [HR.out, HW.out, if_pos (by rw [HE.out]; exact List.mem_of_getElem? HP.out), ← HO.out]
           exact rx_fin (3, [s[k]], 0, 0, 1) k _ (by simp)
         · have te : (((s[k]).toNat : Int) == (p.toNat : Int)) = false := by
             simp; intro h; exact he (UInt8.toNat_inj.mp (by omega))
           have HE : Hid (s[k] ≠ p) := he
           clear he
           go_upto_region 20 with fail
           go_quiet (fail)
           go_wp2_with fail
           go_roundw
           case rel =>
             refine ⟨i + 1, by omega, by go_num, fun m h p' hp' => ?_, HX.out.drewN _, HB.out.ext ((Ext.refl wr).drewN _)⟩
             by_cases hm : m = i
             · subst hm
               have e := HP.out
               rw [hp'] at e
               cases e
               exact HE.out
             · exact HF2.out m (by omega) p' hp'
           case measure => simp [intOf]; omega
       · have hl2 : ¬ (i : Int) < 12 := by omega
         have B3 := HB.out
         have X3 := HX.out
         have D3 := B3
         obtain ⟨_, ⟨b0, b1, b2, b3, b4⟩, f0, f1, f2, f3, f4⟩ := D3
         go_wp2_with fail
         refine fin5 _ (B3.set _ _ _ _ _) rfl (by with_reducible repeat (first | assumption | exact Ext.refl _ | apply Ext.alloc | apply Ext.drewN | (refine Ext.setCell ?_ (by simp) _))) (fun g0 g1 g2 g3 g4 => by simp [results, Try.results92, go_sem, g0, g1, g2, g3, g4]; rfl) (fun h => ⟨?_, h⟩)
         have hno : s[k] ∉ sg12 := by
           intro hm
           obtain ⟨m, hm1, hm2⟩ := List.getElem_of_mem hm
           exact HF2.out m (by simp [sg12] at hm1; omega) s[k] (by rw [List.getElem?_eq_getElem hm1, hm2]) rfl
         rw [HR.out, HW.out, if_neg hno]
         exact rfl

open Go.RowKit
set_option maxHeartbeats 1000000

theorem owt_new (W : World) (base : Nat) (h : base ≤ W.heap.size) : OwT (W.alloc (.cells #[] 83)) base (.slice (some ⟨W.heap.size, 0, none⟩) 0 0) [] :=
 World.ownsRow_made W #[] 0 h (by unfold maxLen; omega) (by simp)
theorem W_spz (l : List UInt8) (j : Nat) (h : j < l.length) (hc : l[j] = 32) : W j (l.drop j) = W (j + 1) (l.drop (j + 1)) := by
 rw [List.drop_eq_getElem_cons h, hc, W_blank]
theorem qwords_any (s : ByteArray) (w : World) (hs : s.size ≤ maxLen) :
   Calls Try.prog 61 #[.string s] w (WordsQ w s.data.toList) := by
 unfold maxLen at hs
 have hl := size_list s
 by_cases h : 300 < s.size
 · have hI : (300 : Int) < (s.size : Int) := by omega
   have HX : Hid (lexR s.data.toList = ([], 0, 2)) := by show _ = _; unfold lexR; rw [if_pos (by omega)]
   go_enter Try.func61, Try.ntmps61
   go_wp2_with fail
   go_ret3
   unfold WordsQ
   rw [HX.out]
   exact ⟨_, rfl, RdT.nil _, Ext.refl _⟩
 have hI : ¬ (300 : Int) < (s.size : Int) := by omega
 have hs3 : s.size ≤ 300 := by omega
 obtain ⟨l, hll⟩ : ∃ l, s.data.toList = l := ⟨_, rfl⟩
 have HL : Hid (l.length = s.size) := by show _ = _; rw [← hll]; exact hl
 have HG : Hid (∀ i (h : i < s.size) (h' : i < l.length), l[i] = s[i]) := by intro i h h'; subst hll; rfl
 have cN := fun k W h => qword_any s k W h hs3
 have HN : Hid (∀ k W (h : k < s.size), Calls Try.prog 92 #[.string s, .int .i64 (k : Int)] W fun e w' => RxR (nxt (l.drop k)) k e ∧ Ext W w') := by intro k W h; have := cN k W h; rwa [hll] at this
 have HR : Hid (∀ ts, W 0 l = .ok ts → lexR l = (ts, 0, 0)) := by intro ts h; unfold lexR; rw [if_neg (by rw [← hll]; omega), h]
 have HF : Hid (∀ p c, W 0 l = .error (p, c) → lexR l = ([], (p : Int), c)) := by intro p c h; unfold lexR; rw [if_neg (by rw [← hll]; omega), h]
 rw [hll]
 clear hl hll cN h hs
 go_enter Try.func61, Try.ntmps61
 go_wp2_with fail
 go_loopw [5, 6] (fun v x wr => ∃ (j : Nat) (acc : List Tk), x = .int .i64 (j : Int) ∧ j ≤ s.size ∧ W 0 l = (W j (l.drop j)).map (fun ts => acc ++ ts) ∧ acc.length ≤ j ∧ OwT wr w.heap.size v acc ∧ Ext w wr) (fun _ x _ => s.size - (intOf x).toNat)
 case atStart => exact ⟨0, [], rfl, Nat.zero_le _, map_nil _, Nat.le_refl _, owt_new w _ (Nat.le_refl _), (Ext.refl _).alloc _⟩
 case round =>
   obtain ⟨j, acc, rfl, hj, hW, ha, hO, hE⟩ := hrel
   have HW : Hid (W 0 l = (W j (l.drop j)).map (fun ts => acc ++ ts)) := hW
   have HA : Hid (acc.length ≤ j) := ha
   have HO : Hid (OwT wr w.heap.size u5 acc ∧ Ext w wr) := ⟨hO, hE⟩
   clear hW ha hO hE
   by_cases hlt : j < s.size
   · have hltI : (j : Int) < (s.size : Int) := by omega
     have wk : wrap64 ((j : Int) + 1) = ((j + 1 : Nat) : Int) := by unfold wrap64; omega
     have hb := byte_ne (c := s[j]) 32 (by omega)
     by_cases h1 : s[j] = 32
     · have tb : (((s[j]).toNat : Int) == 32) = true := by rw [show (32 : Int) = ((32 : Nat) : Int) from rfl, hb, h1]; rfl
       have HX : Hid (W 0 l = (W (j + 1) (l.drop (j + 1))).map (fun ts => acc ++ ts)) := by
         show _ = _; rw [HW.out, W_spz l j (by have := HL.out; omega) (by rw [HG.out j hlt]; exact h1)]
       clear hb h1
       go_wp2_with fail
       go_roundw
       case rel => exact ⟨j + 1, acc, by go_num, by omega, HX.out, by have := HA.out; omega, HO.out.1, HO.out.2⟩
       case measure => simp [intOf]; omega
     have tb : (((s[j]).toNat : Int) == 32) = false := by rw [show (32 : Int) = ((32 : Nat) : Int) from rfl, hb]; simpa using h1
     have hW2 := W_at l j (by have := HL.out; omega) (by rw [HG.out j hlt]; exact h1)
     have c1 := HN.out j wr hlt
     cases hx : nxt (l.drop j) with
     | error c =>
       have HX : Hid (lexR l = ([], (j : Int), c)) := HF.out j c (by rw [HW.out, hW2, hx]; rfl)
       have hc0 : (c != 0) = true := by
         have := nxt_code hx
         rcases this with rfl | rfl <;> rfl
       have C : Calls Try.prog 92 #[.string s, .int .i64 (j : Int)] wr fun e w' => e = .returned (.tuple #[.agg #[.int .i64 0, .int .i64 0, .string ⟨#[]⟩, .int .i64 0, .int .i64 0], .int .i64 (j : Int), .int .i64 c]) ∧ Ext wr w' := by rw [hx] at c1; exact c1
       clear hx c1 hW2 hb h1
       go_wp2_with fail
       refine C.mono ?_
       rintro e w1 ⟨rfl, E1⟩
       have HE1 : Hid (Ext w w1) := HO.out.2.trans E1
       clear E1
       go_wp2_with fail
       go_ret3
       unfold WordsQ
       rw [HX.out]
       exact ⟨_, rfl, RdT.nil _, HE1.out.alloc _⟩
     | ok x =>
       have hpos := nxt_pos hx
       have HX : Hid (W 0 l = (W (j + x.2.2.2.2) (l.drop (j + x.2.2.2.2))).map (fun ts => acc ++ [tkOf x j] ++ ts)) := by
         show _ = _
         rw [HW.out, hW2, hx]
         simp only []
         cases W (j + x.2.2.2.2) (l.drop (j + x.2.2.2.2)) <;> simp [Except.map]
       have hmS : j + x.2.2.2.2 ≤ s.size := by have := hpos.2; have := HL.out; simp at *; omega
       have hmJ : 1 ≤ x.2.2.2.2 := hpos.1
       have C : Calls Try.prog 92 #[.string s, .int .i64 (j : Int)] wr fun e w' => e = .returned (.tuple #[.agg #[.int .i64 x.1, .int .i64 (j : Int), .string (bs x.2.1), .int .i64 x.2.2.1, .int .i64 x.2.2.2.1], .int .i64 ((j + x.2.2.2.2 : Nat) : Int), .int .i64 0]) ∧ Ext wr w' := by rw [hx] at c1; exact c1
       obtain ⟨x0, x1, x2, x3, x4⟩ := x
       simp only [] at C HX hmS hmJ
       obtain ⟨m, hm⟩ : ∃ m, j + x4 = m := ⟨_, rfl⟩
       obtain ⟨q1, hq1⟩ : ∃ q1, bs x1 = q1 := ⟨_, rfl⟩
       rw [hm] at C HX hmS
       rw [hq1] at C
       have HJ : Hid (j < m ∧ m ≤ s.size) := ⟨by omega, hmS⟩
       have HQ : Hid (bs x1 = q1) := hq1
       have HA2 : Hid (acc.length ≤ 100000) := by have := HA.out; show _ ≤ _; omega
       clear hx c1 hpos hm hq1 hmJ hW2 hb h1
       go_wp2_with fail
       refine C.mono ?_
       rintro e w1 ⟨rfl, E1⟩
       have HO1 : Hid (OwT w1 w.heap.size u5 acc ∧ Ext w w1) := ⟨HO.out.1.ext E1, HO.out.2.trans E1⟩
       clear E1
       go_wp2_with (at_builtin; refine tk_append _ w.heap.size _ _ _ _ acc (x0, (j : Int), x1, x2, x3) rfl rfl (by rfl) (by rfl) (HO1.out.1.ext (((Ext.refl _).alloc _).alloc _)) ?cR HA2.out (by have := HO1.out.2.sz; simp; omega) ?_)
       case cR => exact new_tk (by simp) HQ.out
       intro v' w2 k1 k2 g cap hv
       have hE2 := grown_ext k2 (HO1.out.1.ext (((Ext.refl _).alloc _).alloc _)) ((HO1.out.2.alloc _).alloc _) (Nat.le_refl _)
       have HO2 : Hid (OwT w2 w.heap.size v' (acc ++ [(x0, (j : Int), x1, x2, x3)]) ∧ Ext w w2) := ⟨k1, hE2⟩
       clear k1 k2 hE2
       subst hv
       go_wp2_with fail
       go_roundw
       case rel =>
         have h4 := HJ.out
         have h7 := HA.out
         exact ⟨m, acc ++ [(x0, (j : Int), x1, x2, x3)], rfl, h4.2, HX.out, by simp; omega, HO2.out.1, HO2.out.2⟩
       case measure => have h4 := HJ.out; simp [intOf]; omega
   · have hltI : ¬ (j : Int) < (s.size : Int) := by omega
     have hjs : j = s.size := by omega
     have HX : Hid (lexR l = (acc ++ [endT s.size], 0, 0)) := HR.out _ (by rw [HW.out, List.drop_eq_nil_of_le (by have := HL.out; omega), W_nil, hjs]; rfl)
     have HA2 : Hid (acc.length ≤ 100000) := by have := HA.out; show _ ≤ _; omega
     clear hjs
     go_wp2_with (at_builtin; refine tk_append _ w.heap.size _ _ _ _ acc (endT s.size) rfl rfl (by rfl) (by rfl) (HO.out.1.ext ((Ext.refl _).alloc _)) ?cR HA2.out (by have := HO.out.2.sz; simp; omega) ?_)
     case cR => exact fun _ _ h => h
     intro v' w2 k1 k2 g cap hv
     have hE2 := grown_ext k2 (HO.out.1.ext ((Ext.refl _).alloc _)) (HO.out.2.alloc _) (Nat.le_refl _)
     have HO2 : Hid (OwT w2 w.heap.size v' (acc ++ [endT s.size]) ∧ Ext w w2) := ⟨k1, hE2⟩
     clear k1 k2 hE2
     subst hv
     go_wp2_with fail
     go_ret3
     unfold WordsQ
     rw [HX.out]
     exact ⟨_, rfl, HO2.out.1.rd, HO2.out.2⟩

open Go.RowKit
set_option maxHeartbeats 6000000

/-- What the document's Formula answers: the tree, or some fault. -/
def RFormQ (w : World) (l : List UInt8) (e : Ending) (w' : World) : Prop := ∃ (x : T) (lv : Value) (pa pe : Int), e = .returned (.tuple #[aggX x lv, .int .i64 pa, .int .i64 pe]) ∧ IsL w' (w.heap.size ≤ ·) lv x.l ∧ Ext w w' ∧ (if (parR l).2.2 = 0 then x = (parR l).1 ∧ pa = 0 ∧ pe = 0 else x = tz ∧ pe ≠ 0)
theorem prs_cases (ts : List Tk) : (∃ x ts1, LvK (O ts.length) 1 0 ts = .ok (x, ts1) ∧ (hd ts1).1 = 5 ∧ prs ts = (x, 0, 0)) ∨ (∃ x ts1, LvK (O ts.length) 1 0 ts = .ok (x, ts1) ∧ (hd ts1).1 ≠ 5 ∧ (prs ts).2.2 ≠ 0) ∨ (∃ f, LvK (O ts.length) 1 0 ts = .error f ∧ (prs ts).2.2 ≠ 0) := by
 have e : LvK (O ts.length) 1 0 ts = frm (O ts.length) 0 ts := rfl
 rw [e]
 unfold prs
 cases frm (O ts.length) 0 ts with
 | error f =>
   refine .inr (.inr ⟨f, rfl, ?_⟩)
   show cd f.2 ≠ 0
   unfold cd
   split <;> decide
 | ok q =>
   obtain ⟨x, ts1⟩ := q
   by_cases h5 : (hd ts1).1 = 5
   · exact .inl ⟨x, ts1, rfl, h5, if_pos h5⟩
   · refine .inr (.inl ⟨x, ts1, rfl, h5, ?_⟩)
     show (if (hd ts1).1 = 5 then (x, 0, 0) else (tz, (hd ts1).2.1, 4) : T × Int × Int).2.2 ≠ 0
     rw [if_neg h5]
     exact (by decide : (4 : Int) ≠ 0)
set_option maxRecDepth 100000 in
theorem rformula_bad (s : ByteArray) (w : World) (l : List UInt8) (hl : s.data.toList = l) (hs : s.size ≤ maxLen) (h0 : (lexR l).2.2 ≠ 0) : Calls Try.prog 38 #[.string s] w (RFormQ w l) := by
 have c1 := qwords_any s (w.alloc (.cells #[.int .i64 0, .int .i64 0, .string ⟨#[]⟩, .int .i64 0, .int .i64 0, .int .i64 0, .bool false, .bool false, .int .i64 0, .int .i64 0, .bool false, .bool false, .slice none 0 0] 26)) hs
 rw [hl] at c1
 have HPR : Hid (parR l = (tz, (lexR l).2.1, (lexR l).2.2)) := by show _ = _; unfold parR; rw [if_neg h0]
 have hne : ((lexR l).2.2 != 0) = true := by simpa using h0
 have hne2 : ((lexR l).2.2 == 0) = false := by simpa using h0
 unfold WordsQ at c1
 obtain ⟨pa, hpa⟩ : ∃ pa, (lexR l).2.1 = pa := ⟨_, rfl⟩
 obtain ⟨pe, hpe⟩ : ∃ pe, (lexR l).2.2 = pe := ⟨_, rfl⟩
 rw [hpa, hpe] at c1 HPR
 rw [hpe] at hne hne2
 have HP0 : Hid (pe ≠ 0) := by rw [hpe] at h0; exact h0
 clear hpa hpe h0 hl
 go_enter Try.func38, Try.ntmps38
 go_wp2_with fail
 refine c1.mono ?_
 rintro e w1 ⟨v, rfl, hR, E1⟩
 have HB : Hid (BlkX w1 w.heap.size tz (.slice none 0 0) ∧ Ext w w1) := ⟨BlkX.top rfl E1, ((Ext.refl w).alloc _).trans E1⟩
 have HB0 := HB.out.1
 obtain ⟨qa, ⟨la0, la1, la2, la3, la4, la5, la6, la7, la8, la9, la10, la11, la12⟩, ga0, ga1, ga2, ga3, ga4, ga5, ga6, ga7, ga8, ga9, ga10, ga11, ga12⟩ := HB0
 clear c1 hR E1
 go_wp2_with fail
 have HB9 := HB.out.1
 have HX9 := HB.out.2
 show bodyPost Try.prog _ _ _ _ (putX w1 w.heap.size (tz) (.slice none 0 0))
 obtain ⟨z, ⟨k0, k1, k2, k3, k4, k5, k6, k7, k8, k9, k10, k11, k12⟩, ff⟩ := HB9.put (tz) (.slice none 0 0)
 have HE9 := putX_E HX9 (Nat.le_refl w.heap.size) (tz) (.slice none 0 0)
 refine bodyPost_ret (v := .tuple #[aggX (tz) (.slice none 0 0), .int .i64 pa, .int .i64 pe]) (by simp [results, Try.results38, go_sem, k0, k1, k2, k3, k4, k5, k6, k7, k8, k9, k10, k11, k12, aggX]) rfl ?_
 refine ⟨tz, _, pa, pe, rfl, .nil, HE9, ?_⟩
 rw [HPR.out]
 show (if pe = 0 then _ else _)
 rw [if_neg HP0.out]
 exact ⟨rfl, HP0.out⟩
set_option maxRecDepth 100000 in
theorem rformula_ok (s : ByteArray) (w : World) (l : List UInt8) (hl : s.data.toList = l) (hs : s.size ≤ maxLen) (h0 : (lexR l).2.2 = 0) : Calls Try.prog 38 #[.string s] w (RFormQ w l) := by
 have c1 := qwords_any s (w.alloc (.cells #[.int .i64 0, .int .i64 0, .string ⟨#[]⟩, .int .i64 0, .int .i64 0, .int .i64 0, .bool false, .bool false, .int .i64 0, .int .i64 0, .bool false, .bool false, .slice none 0 0] 26)) hs
 rw [hl] at c1
 obtain ⟨ts, hl300, hW, hlex⟩ := lexR_cases l |>.resolve_right (by rintro ⟨p, c, h1, h2, _⟩; rw [h1] at h0; simp only [] at h0; omega)
 have HPR : Hid (parR l = prs ts) := by show _ = _; unfold parR; rw [if_pos h0, hlex]
 have HTS : Hid (Nz ts ∧ (∀ t ∈ ts, Kd t) ∧ ts.length ≤ 400) := ⟨W_nz hW, fun t ht => ⟨Nat.le_trans (W_len l.length l 0 ts (Nat.le_refl _) hW t ht) hl300, W_kd l.length l 0 ts (Nat.le_refl _) hW t ht⟩, by have := (W_count l.length l 0 ts (Nat.le_refl _) hW).1; omega⟩
 unfold WordsQ at c1
 rw [hlex] at c1
 clear hl300 hW hlex h0 hl
 go_enter Try.func38, Try.ntmps38
 go_wp2_with fail
 refine c1.mono ?_
 rintro e w1 ⟨v, rfl, hR, E1⟩
 obtain ⟨tp, tc, hv, htc⟩ := hR.form
 obtain ⟨tb, off, t0, htp, _⟩ := (hv ▸ hR).at (k := 0) (by have := HTS.out.1.pos; omega)
 subst htp
 obtain ⟨tn, htn⟩ : ∃ tn, ts.length = tn := ⟨_, rfl⟩
 rw [htn] at hv
 subst hv
 have hw1 : w.heap.size + 1 ≤ w1.heap.size := by have := E1.size; simp at this; omega
 have HB : Hid (BlkX w1 w.heap.size tz (.slice none 0 0) ∧ Ext w w1 ∧ RdT w1 (.slice (some ⟨tb, off, none⟩) tn tc) ts ∧ ts.length = tn) := ⟨BlkX.top rfl E1, ((Ext.refl w).alloc _).trans E1, hR, htn⟩
 clear c1 hR E1 htc htn
 go_wp2_with fail
 have E2 : Ext w1 (w1.alloc (.cells #[.slice (some ⟨tb, off, none⟩) tn tc, .int .i64 0, .int .i64 0, .int .i64 0, .int .i64 0] 80)) := (Ext.refl _).alloc _
 have hz2 : w1.heap.size < (w1.alloc (.cells #[.slice (some ⟨tb, off, none⟩) tn tc, .int .i64 0, .int .i64 0, .int .i64 0, .int .i64 0] 80)).heap.size := by simp
 have R2 : Rp w1 w1.heap.size (w1.alloc (.cells #[.slice (some ⟨tb, off, none⟩) tn tc, .int .i64 0, .int .i64 0, .int .i64 0, .int .i64 0] 80)) ts ((0 : Nat) : Int) 0 0 := ⟨E2, Nat.le_refl _, HTS.out.1, HTS.out.2.2, HTS.out.2.1, by decide, by decide, tb, off, tc, tn, 0, ts, HB.out.2.2.1, HB.out.2.2.2, by have := HTS.out.2.2; have := HB.out.2.2.2; omega, by have := HTS.out.1.pos; have := HB.out.2.2.2; omega, rfl, blk5_top rfl (Ext.refl _)⟩
 have c2 := reader_all w1 w1.heap.size ts.length (w1.alloc (.cells #[.slice (some ⟨tb, off, none⟩) tn tc, .int .i64 0, .int .i64 0, .int .i64 0, .int .i64 0] 80)) ts 0 0 1 R2 (Nat.le_refl _) (by omega) (by omega) (by omega)
 have H2 : Hid (BlkX (w1.alloc (.cells #[.slice (some ⟨tb, off, none⟩) tn tc, .int .i64 0, .int .i64 0, .int .i64 0, .int .i64 0] 80)) w.heap.size tz (.slice none 0 0) ∧ Ext w (w1.alloc (.cells #[.slice (some ⟨tb, off, none⟩) tn tc, .int .i64 0, .int .i64 0, .int .i64 0, .int .i64 0] 80))) := ⟨HB.out.1.ext E2, HB.out.2.1.trans E2⟩
 clear R2 E2
 generalize (w1.alloc (.cells #[.slice (some ⟨tb, off, none⟩) tn tc, .int .i64 0, .int .i64 0, .int .i64 0, .int .i64 0] 80)) = W2 at *
 refine c2.mono ?_
 intro e w3 h3
 obtain ⟨x, p, ln, c, rfl, hY⟩ := h3.form
 obtain ⟨us, d2, pa2, why2, R3, hd2, hd3, HY⟩ := hY.state (by decide)
 have H3 : Hid (BlkX w3 w.heap.size tz (.slice none 0 0) ∧ Ext w w3 ∧ Rp w1 w1.heap.size w3 us d2 pa2 why2 ∧ w.heap.size + 1 ≤ W2.heap.size) := ⟨H2.out.1.extB hY.1 (by omega), hY.1.ext H2.out.2 (by omega), R3, by omega⟩
 have hw3 : w1.heap.size < w3.heap.size := R3.lt.1
 clear h3 hY c2 hd2 hd3 R3
 unfold aggX
 have E4 : Ext w3 (w3.alloc (.cells #[.int .i64 x.k, .int .i64 x.n, .string (bs x.s), .int .i64 x.e, .int .i64 x.r.1, .int .i64 x.r.2.1, .bool x.r.2.2.1, .bool x.r.2.2.2, .int .i64 x.q.1, .int .i64 x.q.2.1, .bool x.q.2.2.1, .bool x.q.2.2.2, .slice p ln c] 26)) := (Ext.refl _).alloc _
 have B4 : BlkX (w3.alloc (.cells #[.int .i64 x.k, .int .i64 x.n, .string (bs x.s), .int .i64 x.e, .int .i64 x.r.1, .int .i64 x.r.2.1, .bool x.r.2.2.1, .bool x.r.2.2.2, .int .i64 x.q.1, .int .i64 x.q.2.1, .bool x.q.2.2.1, .bool x.q.2.2.2, .slice p ln c] 26)) w3.heap.size x (.slice p ln c) := blk13_top rfl (Ext.refl _)
 have H4 : Hid (BlkX (w3.alloc (.cells #[.int .i64 x.k, .int .i64 x.n, .string (bs x.s), .int .i64 x.e, .int .i64 x.r.1, .int .i64 x.r.2.1, .bool x.r.2.2.1, .bool x.r.2.2.2, .int .i64 x.q.1, .int .i64 x.q.2.1, .bool x.q.2.2.1, .bool x.q.2.2.2, .slice p ln c] 26)) w.heap.size tz (.slice none 0 0) ∧ Ext w (w3.alloc (.cells #[.int .i64 x.k, .int .i64 x.n, .string (bs x.s), .int .i64 x.e, .int .i64 x.r.1, .int .i64 x.r.2.1, .bool x.r.2.2.1, .bool x.r.2.2.2, .int .i64 x.q.1, .int .i64 x.q.2.1, .bool x.q.2.2.1, .bool x.q.2.2.2, .slice p ln c] 26)) ∧ Rp w1 w1.heap.size (w3.alloc (.cells #[.int .i64 x.k, .int .i64 x.n, .string (bs x.s), .int .i64 x.e, .int .i64 x.r.1, .int .i64 x.r.2.1, .bool x.r.2.2.1, .bool x.r.2.2.2, .int .i64 x.q.1, .int .i64 x.q.2.1, .bool x.q.2.2.1, .bool x.q.2.2.2, .slice p ln c] 26)) us d2 pa2 why2 ∧ BlkX (w3.alloc (.cells #[.int .i64 x.k, .int .i64 x.n, .string (bs x.s), .int .i64 x.e, .int .i64 x.r.1, .int .i64 x.r.2.1, .bool x.r.2.2.1, .bool x.r.2.2.2, .int .i64 x.q.1, .int .i64 x.q.2.1, .bool x.q.2.2.1, .bool x.q.2.2.2, .slice p ln c] 26)) w3.heap.size x (.slice p ln c) ∧ Ext w3 (w3.alloc (.cells #[.int .i64 x.k, .int .i64 x.n, .string (bs x.s), .int .i64 x.e, .int .i64 x.r.1, .int .i64 x.r.2.1, .bool x.r.2.2.1, .bool x.r.2.2.2, .int .i64 x.q.1, .int .i64 x.q.2.1, .bool x.q.2.2.1, .bool x.q.2.2.2, .slice p ln c] 26))) := ⟨H3.out.1.ext E4, H3.out.2.1.trans E4, H3.out.2.2.1.ext E4, B4, E4⟩
 have c3 := rt_any H4.out.2.2.1
 unfold tkA at c3
 have kf0 := fun W => tkf0 (hd us) W
 obtain ⟨u, hu⟩ : ∃ u, hd us = u := ⟨_, rfl⟩
 have HU : Hid (hd us = u) := hu
 rw [hu] at c3 kf0
 clear E4 B4 hu
 go_wp2_with fail
 refine c3.mono ?_
 rintro e w5 ⟨rfl, E5⟩
 have H5 : Hid (BlkX w5 w.heap.size tz (.slice none 0 0) ∧ Ext w w5 ∧ Rp w1 w1.heap.size w5 us d2 pa2 why2 ∧ BlkX w5 w3.heap.size x (.slice p ln c) ∧ Ext w3 w5) := ⟨H4.out.1.ext E5, H4.out.2.1.trans E5, H4.out.2.2.1.ext E5, H4.out.2.2.2.1.ext E5, H4.out.2.2.2.2.trans E5⟩
 have hw5 : w3.heap.size < w5.heap.size := H5.out.2.2.2.1.1
 clear c3 E5
 by_cases h5 : u.1 = 5
 · have n5 : (u.1 != 5) = false := by rw [h5]; rfl
   have H55 : Hid (u.1 = 5) := h5
   clear h5
   by_cases hw : why2 = 0
   · have w0' : (why2 != 0) = false := by rw [hw]; rfl
     have HW : Hid (why2 = 0) := hw
     have HB0 := H5.out.1
     obtain ⟨qa, ⟨la0, la1, la2, la3, la4, la5, la6, la7, la8, la9, la10, la11, la12⟩, ga0, ga1, ga2, ga3, ga4, ga5, ga6, ga7, ga8, ga9, ga10, ga11, ga12⟩ := HB0
     have HB1 := H5.out.2.2.2.1
     obtain ⟨qc, ⟨lc0, lc1, lc2, lc3, lc4, lc5, lc6, lc7, lc8, lc9, lc10, lc11, lc12⟩, gc0, gc1, gc2, gc3, gc4, gc5, gc6, gc7, gc8, gc9, gc10, gc11, gc12⟩ := HB1
     have HR5 := H5.out.2.2.1
     obtain ⟨g0, g1, g2, g3, g4, g5, g6, tb, off, cc, nn, ii, all, u1, u2, u3, u4, u5, u6⟩ := HR5
     obtain ⟨hz, ⟨b0, b1, b2, b3, b4⟩, f0, f1, f2, f3, f4⟩ := u6
     clear g0 g1 g2 g3 g4 g5 g6 u1 u2 u3 u4 u5
     clear hw
     go_wp2_with fail
     have HB9 := H5.out.1
     have HX9 := H5.out.2.1
     show bodyPost Try.prog _ _ _ _ (putX w5 w.heap.size (x) (.slice p ln c))
     obtain ⟨z, ⟨k0, k1, k2, k3, k4, k5, k6, k7, k8, k9, k10, k11, k12⟩, ff⟩ := HB9.put (x) (.slice p ln c)
     have HE9 := putX_E HX9 (Nat.le_refl w.heap.size) (x) (.slice p ln c)
     refine bodyPost_ret (v := .tuple #[aggX (x) (.slice p ln c), .int .i64 0, .int .i64 0]) (by simp [results, Try.results38, go_sem, k0, k1, k2, k3, k4, k5, k6, k7, k8, k9, k10, k11, k12, aggX]) rfl ?_
     have hpr : prs ts = (x, 0, 0) ∧ IsL w3 (W2.heap.size ≤ ·) (.slice p ln c) x.l := by
       rcases HY.out with ⟨_, _, y3, y4⟩ | ⟨y1, _⟩
       · rcases prs_cases ts with ⟨x', ts1, q1, q2, q3⟩ | ⟨x', ts1, q1, q2, _⟩ | ⟨f, q1, _⟩
         · rw [y3] at q1; cases q1; exact ⟨q3, y4⟩
         · rw [y3] at q1; cases q1; exact absurd (by rw [HU.out]; exact H55.out) q2
         · rw [y3] at q1; cases q1
       · exact absurd HW.out y1
     refine ⟨x, _, 0, 0, rfl, ?_, HE9, ?_⟩
     · exact ((hpr.2.ext H5.out.2.2.2.2).keep (by rw [putX_size]; exact Nat.le_refl _) (fun j hj hs => putX_heap _ _ _ _ _ (by have := H3.out.2.2.2; omega)) (fun j hj _ => hj)).mono (fun j hj _ => by have := H3.out.2.2.2; omega)
     · rw [HPR.out, hpr.1]
       exact ⟨rfl, rfl, rfl⟩
   · have w0' : (why2 != 0) = true := by simpa using hw
     have HW : Hid (why2 ≠ 0) := hw
     have HB0 := H5.out.1
     obtain ⟨qa, ⟨la0, la1, la2, la3, la4, la5, la6, la7, la8, la9, la10, la11, la12⟩, ga0, ga1, ga2, ga3, ga4, ga5, ga6, ga7, ga8, ga9, ga10, ga11, ga12⟩ := HB0
     have HR5 := H5.out.2.2.1
     obtain ⟨g0, g1, g2, g3, g4, g5, g6, tb, off, cc, nn, ii, all, u1, u2, u3, u4, u5, u6⟩ := HR5
     obtain ⟨hz, ⟨b0, b1, b2, b3, b4⟩, f0, f1, f2, f3, f4⟩ := u6
     clear g0 g1 g2 g3 g4 g5 g6 u1 u2 u3 u4 u5
     clear hw
     go_wp2_with fail
     go_region
     go_wp2_with fail
     have HB9 := H5.out.1
     have HX9 := H5.out.2.1
     show bodyPost Try.prog _ _ _ _ (putX w5 w.heap.size tz (.slice none 0 0)).drew
     obtain ⟨z, ⟨k0, k1, k2, k3, k4, k5, k6, k7, k8, k9, k10, k11, k12⟩, ff⟩ := (HB9.put tz (.slice none 0 0)).ext (Ext.refl _).drew
     have HE9 := putX_E HX9 (Nat.le_refl w.heap.size) tz (.slice none 0 0)
     refine bodyPost_ret (v := .tuple #[aggX tz (.slice none 0 0), .int .i64 pa2, .int .i64 why2]) (by simp [results, Try.results38, go_sem, k0, k1, k2, k3, k4, k5, k6, k7, k8, k9, k10, k11, k12, aggX]) rfl ?_
     have hpr : (prs ts).2.2 ≠ 0 := by
       rcases HY.out with ⟨y1, _⟩ | ⟨_, ⟨f, y2⟩, _⟩
       · exact absurd y1 HW.out
       · rcases prs_cases ts with ⟨x', ts1, q1, q2, q3⟩ | ⟨x', ts1, q1, q2, _⟩ | ⟨f, q1, q2⟩
         · rw [y2] at q1; cases q1
         · rw [y2] at q1; cases q1
         · exact q2
     refine ⟨tz, _, pa2, why2, rfl, .nil, HE9.drew, ?_⟩
     rw [HPR.out, if_neg hpr]
     exact ⟨rfl, HW.out⟩
 · have n5 : (u.1 != 5) = true := by simpa using h5
   have H55 : Hid (u.1 ≠ 5) := h5
   clear h5
   go_wp2_with fail
   refine (rbad_any H5.out.2.2.1 4).mono ?_
   rintro e w6 ⟨rfl, R6, X6⟩
   obtain ⟨pa6, hpa6⟩ : ∃ pa6, (if why2 = 0 then (hd us).2.1 else pa2) = pa6 := ⟨_, rfl⟩
   obtain ⟨why6, hwhy6⟩ : ∃ why6, (if why2 = 0 then (4 : Int) else why2) = why6 := ⟨_, rfl⟩
   have hwn : why6 ≠ 0 := by rw [← hwhy6]; split <;> omega
   rw [hpa6, hwhy6] at R6
   have H6 : Hid (BlkX w6 w.heap.size tz (.slice none 0 0) ∧ Ext w w6) := ⟨H5.out.1.extB X6 (by omega), X6.ext H5.out.2.1 (by omega)⟩
   have w0' : (why6 != 0) = true := by simpa using hwn
   have HW : Hid (why6 ≠ 0) := hwn
   have HB0 := H6.out.1
   obtain ⟨qa, ⟨la0, la1, la2, la3, la4, la5, la6, la7, la8, la9, la10, la11, la12⟩, ga0, ga1, ga2, ga3, ga4, ga5, ga6, ga7, ga8, ga9, ga10, ga11, ga12⟩ := HB0
   have HR6 := R6
   obtain ⟨g0, g1, g2, g3, g4, g5, g6, tb, off, cc, nn, ii, all, u1, u2, u3, u4, u5, u6⟩ := HR6
   obtain ⟨hz, ⟨b0, b1, b2, b3, b4⟩, f0, f1, f2, f3, f4⟩ := u6
   clear g0 g1 g2 g3 g4 g5 g6 u1 u2 u3 u4 u5
   clear hwn R6 X6 hpa6 hwhy6
   go_wp2_with fail
   go_region
   go_wp2_with fail
   have HB9 := H6.out.1
   have HX9 := H6.out.2
   show bodyPost Try.prog _ _ _ _ (putX w6 w.heap.size tz (.slice none 0 0)).drew
   obtain ⟨z, ⟨k0, k1, k2, k3, k4, k5, k6, k7, k8, k9, k10, k11, k12⟩, ff⟩ := (HB9.put tz (.slice none 0 0)).ext (Ext.refl _).drew
   have HE9 := putX_E HX9 (Nat.le_refl w.heap.size) tz (.slice none 0 0)
   refine bodyPost_ret (v := .tuple #[aggX tz (.slice none 0 0), .int .i64 pa6, .int .i64 why6]) (by simp [results, Try.results38, go_sem, k0, k1, k2, k3, k4, k5, k6, k7, k8, k9, k10, k11, k12, aggX]) rfl ?_
   have hpr : (prs ts).2.2 ≠ 0 := by
     rcases HY.out with ⟨_, _, y3, y4⟩ | ⟨_, ⟨f, y2⟩, _⟩
     · rcases prs_cases ts with ⟨x', ts1, q1, q2, q3⟩ | ⟨x', ts1, q1, q2, q3⟩ | ⟨f, q1, _⟩
       · rw [y3] at q1; cases q1; exact absurd (by rw [← HU.out]; exact q2) H55.out
       · exact q3
       · rw [y3] at q1; cases q1
     · rcases prs_cases ts with ⟨x', ts1, q1, q2, q3⟩ | ⟨x', ts1, q1, q2, _⟩ | ⟨f, q1, q2⟩
       · rw [y2] at q1; cases q1
       · rw [y2] at q1; cases q1
       · exact q2
   refine ⟨tz, _, pa6, why6, rfl, .nil, HE9.drew, ?_⟩
   rw [HPR.out, if_neg hpr]
   exact ⟨rfl, HW.out⟩
/-- The document's Formula, of any text. -/
theorem rformula_any (s : ByteArray) (w : World) (hs : s.size ≤ maxLen) : Calls Try.prog 38 #[.string s] w (RFormQ w s.data.toList) := by
 by_cases h0 : (lexR s.data.toList).2.2 = 0
 · exact rformula_ok s w _ rfl hs h0
 · exact rformula_bad s w _ rfl hs h0
end Go.Proofs.Ytcggiljlilbdfaa

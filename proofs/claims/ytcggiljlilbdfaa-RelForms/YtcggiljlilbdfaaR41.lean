/-
 What TRUE and FALSE, and errors, are written as: package value's Show and ErrName, and the document's.
 The document's quoted: a text between quotes.
 How tightly a tree holds together: package print's binds and holds.
 The printer: a strings.Builder within a struct of its own (package print's printer): WriteByte, WriteString, String.
-/
import Derived.Test.YtcggiljlilbdfaaR12
import Derived.Test.YtcggiljlilbdfaaR10
import Derived.Test.YtcggiljlilbdfaaR9
import Derived.Test.YtcggiljlilbdfaaR40
import Derived.Test.YtcggiljlilbdfaaR18
import Derived.Lib.OthersKept
import Derived.Lib.OwnKind
import Derived.Lib.AppendStr
import Derived.Lib.AppendIntMem
import Derived.Lib.UnsafeStr
namespace Go.Proofs.Ytcggiljlilbdfaa
open Go.RowKit
set_option maxHeartbeats 1000000

def nB (b : Bool) : Int := if b then 1 else 0
def tfL (b : Bool) : List UInt8 := if b then wTrue else wFalse
theorem rb9_any (b : Bool) (w : World) : Calls Try.prog 68 #[.bool b] w fun r w' => r = .returned (.agg #[.int .i64 1, .int .i64 (nB b), .string ⟨#[]⟩, .int .i64 0]) ∧ Ext w w' := by
 cases b
 all_goals
   go_enter Try.func68, Try.ntmps68
   go_wp2_with fail
   simp [bodyPost, results, Try.results68, go_sem, nB]
   exact (Ext.refl _).alloc _
theorem rn9_any (b : Bool) (w : World) : Calls Try.prog 99 #[.agg #[.int .i64 1, .int .i64 (nB b), .string ⟨#[]⟩, .int .i64 0]] w fun r w' => r = .returned (.agg #[.int .i64 1, .int .i64 (nB b), .string ⟨#[]⟩, .int .i64 0]) ∧ Ext w w' := by
 have c1 := fun W => rb9_any b W
 have hb : (nB b != 0) = b := by cases b <;> rfl
 generalize nB b = q1 at *
 go_enter Try.func99, Try.ntmps99
 go_wp2_with fail
 refine (c1 _).mono ?_
 rintro r w1 ⟨rfl, E1⟩
 obtain ⟨z, ⟨k0, k1, k2, k3⟩, f0, f1, f2, f3⟩ := blk_top (b := w.heap.size + 1) (by simp) E1
 have HE : Hid (Ext w w1) := (((Ext.refl _).alloc _).alloc _).trans E1
 clear E1
 go_wp2_with fail
 exact fin4 k0 k1 k2 k3 rfl (by simp) HE.out (fun W g0 g1 g2 g3 => by simp [results, Try.results99, go_sem, g0, g1, g2, g3]) (fun W h => ⟨rfl, h⟩)
theorem rs9_any (b : Bool) (w : World) : Calls Try.prog 67 #[.agg #[.int .i64 1, .int .i64 (nB b), .string ⟨#[]⟩, .int .i64 0]] w fun r w' => r = .returned (.string (bs (tfL b))) ∧ Ext w w' := by
 have c0 := fun W => rn9_any b W
 cases b
 all_goals
   simp only [nB, Bool.false_eq_true, if_false, if_true] at c0 ⊢
   go_enter Try.func67, Try.ntmps67
   go_wp2_with fail
   refine (c0 _).mono ?_
   rintro r w1 ⟨rfl, E1⟩
   have X1 : Hid (Ext w w1) := ((Ext.refl _).alloc _).trans E1
   obtain ⟨z, ⟨k0, k1, k2, k3⟩, f0, f1, f2, f3⟩ := blk_top (b := w.heap.size) (by simp) E1
   clear E1
   go_wp2_with fail
   go_ret
   exact ⟨rfl, (((X1.out.setCell (by simp) _).setCell (by simp) _).setCell (by simp) _).setCell (by simp) _⟩
theorem rerr9_any (e : Int) (h : 1 ≤ e ∧ e ≤ 5) (w : World) : Calls Try.prog 69 #[.int .i64 e] w fun r w' => r = .returned (.string (bs (errL e))) ∧ w' = w := by
 have hh : e = 1 ∨ e = 2 ∨ e = 3 ∨ e = 4 ∨ e = 5 := by omega
 rcases hh with rfl | rfl | rfl | rfl | rfl
 all_goals
   clear h
   go_enter Try.func69, Try.ntmps69
   go_wp2_with fail
   go_ret
   exact ⟨rfl, rfl⟩

open Go.RowKit
set_option maxHeartbeats 4000000

theorem quoB_app (a b : List UInt8) : quoB (a ++ b) = quoB a ++ quoB b := by
 induction a with
 | nil => rfl
 | cons c r ih => rw [List.cons_append, quoB, quoB, ih]; split <;> simp
theorem owb_one (W : World) (base : Nat) (c : UInt8) (h : base ≤ W.heap.size) : OwB (W.alloc (.cells #[.int .u8 (c.toNat : Int)] 5)) base (.slice (some ⟨W.heap.size, 0, none⟩) 1 1) [c] :=
 ⟨⟨_, _, rfl⟩, rfl, .inr ⟨W.heap.size, 1, #[.int .u8 (c.toNat : Int)], rfl, h, by show (W.heap.push _)[W.heap.size]? = _; simp, Nat.le_refl _, by unfold maxLen; omega, rfl, rfl⟩⟩
set_option maxRecDepth 100000 in
theorem quoted_any (s : ByteArray) (w : World) (hs : s.size ≤ 300) :
   Calls Try.prog 66 #[.string s] w fun e w' => e = .returned (.string (bs (quoL s.data.toList))) ∧ Ext w w' := by
 have hl := size_list s
 obtain ⟨l, hll⟩ : ∃ l, s.data.toList = l := ⟨_, rfl⟩
 have HL : Hid (l.length = s.size) := by show _ = _; rw [← hll]; exact hl
 have HA : Hid (∀ i (h : i < s.size), l[i]? = some s[i]) := by intro i h; subst hll; exact List.getElem?_eq_getElem (by rw [hl]; exact h)
 have HB : Hid (∀ j, (quoB (l.take j)).length ≤ 600) := by intro j; have h1 := quoB_len (l.take j); have h2 := HL.out; rw [List.length_take] at h1; omega
 rw [hll]
 clear hl hll
 go_enter Try.func66, Try.ntmps66
 go_wp2_with fail
 go_loopw [3, 4] (fun v i wr => ∃ (j : Nat), j ≤ s.size ∧ i = .int .i64 (j : Int) ∧ OwB wr w.heap.size v (34 :: quoB (l.take j)) ∧ Ext w wr) (fun _ i _ => s.size - (intOf i).toNat)
 case atStart => exact ⟨0, Nat.zero_le _, rfl, by have := owb_one w w.heap.size 34 (Nat.le_refl _); simpa [quoB] using this, (Ext.refl _).alloc _⟩
 case round =>
   obtain ⟨j, hj, rfl, hO, hE⟩ := hrel
   obtain ⟨⟨g, cap, rfl⟩, hO2⟩ := hO
   have HO : Hid (OwB wr w.heap.size (.slice (some ⟨g, 0, none⟩) (34 :: quoB (l.take j)).length cap) (34 :: quoB (l.take j)) ∧ Ext w wr) := ⟨⟨⟨g, cap, rfl⟩, hO2⟩, hE⟩
   clear hO2 hE
   have hq := HB.out j
   obtain ⟨acc, hacc⟩ : ∃ acc, 34 :: quoB (l.take j) = acc := ⟨_, rfl⟩
   have HAC : Hid (34 :: quoB (l.take j) = acc) := hacc
   have hal : acc.length ≤ 601 := by rw [← hacc, List.length_cons]; omega
   rw [hacc] at HO
   simp only [hacc]
   clear hq hacc
   by_cases hlt : j < s.size
   · have hltI : (j : Int) < (s.size : Int) := by omega
     have hb := byte_ne (c := s[j]) 34 (by omega)
     have HX1 : Hid (l.take (j + 1) = l.take j ++ [s[j]]) := by show _ = _; rw [List.take_add_one, HA.out j hlt]; rfl
     by_cases h1 : s[j] = 34
     · have tb : (((s[j]).toNat : Int) == 34) = true := by rw [show (34 : Int) = ((34 : Nat) : Int) from rfl, hb, h1]; rfl
       have HX : Hid (34 :: quoB (l.take (j + 1)) = acc ++ [34] ++ [s[j]]) := by show _ = _; rw [HX1.out, quoB_app, ← HAC.out, h1]; simp [quoB]
       clear hb h1
       go_wp2_with (at_builtin; refine ob_append w _ w.heap.size rfl _ _ _ _ acc 34 rfl rfl (by rfl) (by rfl) (HO.out.1.alloc _) (by simp) (by omega) (HO.out.2.alloc _) ?_)
       intro v' w2 k1 k2
       obtain ⟨⟨g2, cap2, rfl⟩, k3⟩ := k1
       have HO2 : Hid (OwB w2 w.heap.size (.slice (some ⟨g2, 0, none⟩) (acc ++ [34]).length cap2) (acc ++ [34]) ∧ Ext w w2) := ⟨⟨⟨g2, cap2, rfl⟩, k3⟩, k2⟩
       obtain ⟨ac2, hac2⟩ : ∃ ac2, acc ++ [34] = ac2 := ⟨_, rfl⟩
       have hal2 : ac2.length ≤ 602 := by rw [← hac2, List.length_append]; simp; omega
       rw [hac2] at HO2 HX
       simp only [hac2]
       clear k2 k3 hac2
       go_wp2_with (at_builtin; refine ob_append w _ w.heap.size rfl _ _ _ _ ac2 s[j] rfl rfl (by rfl) (by rfl) (HO2.out.1.alloc _) (by simp) (by omega) (HO2.out.2.alloc _) ?_)
       intro v' w3 k1 k2
       have HO3 : Hid (OwB w3 w.heap.size v' (ac2 ++ [s[j]]) ∧ Ext w w3) := ⟨k1, k2⟩
       clear k1 k2
       go_wp2_with fail
       go_roundw
       case rel => exact ⟨j + 1, by omega, by go_num, by rw [HX.out]; exact HO3.out.1, HO3.out.2⟩
       case measure => show s.size - ((j : Int) + 1).toNat < s.size - ((j : Int)).toNat; omega
     · have tb : (((s[j]).toNat : Int) == 34) = false := by rw [show (34 : Int) = ((34 : Nat) : Int) from rfl, hb]; simpa using h1
       have HX : Hid (34 :: quoB (l.take (j + 1)) = acc ++ [s[j]]) := by show _ = _; rw [HX1.out, quoB_app, ← HAC.out]; simp [quoB, h1]
       clear hb h1
       go_wp2_with (at_builtin; refine ob_append w _ w.heap.size rfl _ _ _ _ acc s[j] rfl rfl (by rfl) (by rfl) (HO.out.1.alloc _) (by simp) (by omega) (HO.out.2.alloc _) ?_)
       intro v' w3 k1 k2
       have HO3 : Hid (OwB w3 w.heap.size v' (acc ++ [s[j]]) ∧ Ext w w3) := ⟨k1, k2⟩
       clear k1 k2
       go_wp2_with fail
       go_roundw
       case rel => exact ⟨j + 1, by omega, by go_num, by rw [HX.out]; exact HO3.out.1, HO3.out.2⟩
       case measure => show s.size - ((j : Int) + 1).toNat < s.size - ((j : Int)).toNat; omega
   · have hltI : ¬ (j : Int) < (s.size : Int) := by omega
     have HX : Hid (quoL l = acc ++ [34]) := by
       show _ = _
       have : l.take j = l := List.take_of_length_le (by have := HL.out; omega)
       rw [← HAC.out, this]; rfl
     clear hlt
     go_wp2_with (at_builtin; refine ob_append w _ w.heap.size rfl _ _ _ _ acc 34 rfl rfl (by rfl) (by rfl) (HO.out.1.alloc _) (by simp) (by omega) (HO.out.2.alloc _) ?_)
     intro v' w3 k1 k2
     have hcv := k1.conv
     have HE3 : Hid (Ext w w3) := k2
     rw [← HX.out] at hcv
     obtain ⟨q, hq⟩ : ∃ q, bs (quoL l) = q := ⟨_, rfl⟩
     rw [hq] at hcv
     have HQ : Hid (bs (quoL l) = q) := hq
     clear k1 k2 hq
     go_wp2_with fail
     go_ret
     exact ⟨ret_s HQ.out.symm, HE3.out⟩

open Go.RowKit
set_option maxHeartbeats 1000000

open Go.RowKit
set_option maxHeartbeats 2000000

/-- Nothing else has turned. -/
def Ok9 (b : Nat) (w w' : World) : Prop := Lib.OthersKept 5 (some b) w w' ∧ w.heap.size ≤ w'.heap.size
theorem Ok9.trans {b : Nat} {x y z : World} (h : Ok9 b x y) (k : Ok9 b y z) : Ok9 b x z := ⟨h.1.trans k.1, Nat.le_trans h.2 k.2⟩
theorem Ok9.refl (b : Nat) (w : World) : Ok9 b w w := ⟨Lib.OthersKept.refl _ _ _, Nat.le_refl _⟩
end Go.Proofs.Ytcggiljlilbdfaa

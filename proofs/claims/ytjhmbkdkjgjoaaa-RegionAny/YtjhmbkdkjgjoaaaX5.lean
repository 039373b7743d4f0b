import Derived.Test.YtjhmbkdkjgjoaaaX4
import Derived.Deep.CutBlock
import Derived.Deep.DeepCutAuto
import Derived.Test.YtjhmbkdkjgjoaaaX1
import Derived.Deep.Light
namespace Go.Proofs.Ytjhmbkdkjgjoaaa
open Go.RowKit
set_option maxHeartbeats 1000000
open Go.RowKit
set_option maxHeartbeats 1000000
def sgnB (n : Nat) : Bool := decide (n ≤ 9223372036854775807)
def sgnV (neg : Bool) (n : Nat) : Int := if sgnB n then (if neg then -(n : Int) else n) else 0
theorem sgnB_no {n : Nat} (h : 9223372036854775807 < n) : sgnB n = false := by unfold sgnB; simp; omega
theorem sgnB_yes {n : Nat} (h : n ≤ 9223372036854775807) : sgnB n = true := by unfold sgnB; simp; omega
theorem sgnV_no {n : Nat} (neg : Bool) (h : 9223372036854775807 < n) : sgnV neg n = 0 := by unfold sgnV; rw [sgnB_no h]; rfl
theorem sgnV_yes {n : Nat} (neg : Bool) (h : n ≤ 9223372036854775807) : sgnV neg n = if neg then -(n : Int) else n := by unfold sgnV; rw [sgnB_yes h]; rfl
open Go.RowKit
set_option maxHeartbeats 1000000
def Pair (wr : World) (b : Nat) (x : Int) : Prop :=
 b < wr.heap.size ∧ wr.cell? ⟨b, 0, none⟩ = some (.int .u64 (uhi x)) ∧ wr.cell? ⟨b, 1, none⟩ = some (.int .u64 (loOf x)) ∧ wr.frozen? ⟨b, 0, none⟩ = false ∧ wr.frozen? ⟨b, 1, none⟩ = false
theorem Pair.ext {w w' : World} {b : Nat} {x : Int} (h : Pair w b x) (e : Ext w w') : Pair w' b x := by
 obtain ⟨z, c0, c1, f0, f1⟩ := h
 exact ⟨Nat.lt_of_lt_of_le z e.size, (e.cell.1 b 0 z).trans c0, (e.cell.1 b 1 z).trans c1, (e.cell.2 b 0 z).trans f0, (e.cell.2 b 1 z).trans f1⟩
theorem Pair.set {w : World} {b : Nat} {x : Int} (h : Pair w b x) (y : Int) : Pair ((w.setCell ⟨b, 0, none⟩ (.int .u64 (uhi y))).setCell ⟨b, 1, none⟩ (.int .u64 (loOf y))) b y := by
 obtain ⟨z, c0, c1, f0, f1⟩ := h
 have c0' := World.cell?_setCell_same w ⟨b, 0, none⟩ (.int .u64 (uhi y)) (by rw [c0])
 have c1' : (w.setCell ⟨b, 0, none⟩ (.int .u64 (uhi y))).cell? ⟨b, 1, none⟩ = some (.int .u64 (loOf x)) := by
   rw [World.cell?_setCell_other _ _ _ _ (by simp)]; exact c1
 refine ⟨by simpa [World.setCell] using z, ?_, ?_, ?_, ?_⟩
 · rw [World.cell?_setCell_other _ _ _ _ (by simp)]; exact c0'
 · exact World.cell?_setCell_same _ ⟨b, 1, none⟩ _ (by rw [c1'])
 · rw [World.frozen?_setCell, World.frozen?_setCell]; exact f0
 · rw [World.frozen?_setCell, World.frozen?_setCell]; exact f1
theorem Pair.far {w : World} {b c : Nat} {x : Int} (h : Pair w b x) (hc : c ≠ b) (o : Nat) (v : Value) : Pair (w.setCell ⟨c, o, none⟩ v) b x := by
 obtain ⟨z, c0, c1, f0, f1⟩ := h
 refine ⟨by simpa [World.setCell] using z, ?_, ?_, ?_, ?_⟩
 · rw [World.cell?_setCell_far _ _ _ _ hc]; exact c0
 · rw [World.cell?_setCell_far _ _ _ _ hc]; exact c1
 · rw [World.frozen?_setCell]; exact f0
 · rw [World.frozen?_setCell]; exact f1
theorem or_even (t l : Nat) (hl : l < 2) (ht : 2 * t < 18446744073709551616) : bits .or .u64 ((2 * t : Nat) : Int) (l : Int) = ((2 * t + l : Nat) : Int) := by
 rw [bits_or_u64_nat _ _ ht (by omega)]
 have := Nat.two_pow_add_eq_or_of_lt (i := 1) (b := l) (by omega) t
 rw [show (2 : Nat) ^ 1 = 2 from rfl] at this
 rw [← this]
theorem up_hi (x : Int) : bits .or .u64 (IntKind.u64.wrap (uhi x * 2)) (loOf x / 9223372036854775808) = uhi (x * 2) := by
 obtain ⟨h, hh⟩ := Int.eq_ofNat_of_zero_le (uhi_bd x).1
 obtain ⟨l, hl⟩ := Int.eq_ofNat_of_zero_le (lo_bd x).1
 have b1 := (uhi_bd x).2
 have b2 := (lo_bd x).2
 have e1 : IntKind.u64.wrap (uhi x * 2) = ((2 * (h % 9223372036854775808) : Nat) : Int) := by rw [hh, wrapU]; omega
 have e2 : loOf x / 9223372036854775808 = ((l / 9223372036854775808 : Nat) : Int) := by rw [hl]; omega
 rw [e1, e2, or_even _ _ (by omega) (by omega)]
 have e3 : uhi (x * 2) = (uhi x * 2 + loOf x / 9223372036854775808) % 18446744073709551616 := by unfold uhi loOf; omega
 rw [e3, hh, hl]
 omega
theorem up_lo (x : Int) : IntKind.u64.wrap (loOf x * 2) = loOf (x * 2) := by rw [wrapU]; unfold loOf; omega
theorem up_w (x : Int) (w : World) : Calls Try.prog 90 #[.agg #[.int .u64 (uhi x), .int .u64 (loOf x)]] w fun e w' => e = .returned (.agg #[.int .u64 (uhi (x * 2)), .int .u64 (loOf (x * 2))]) ∧ Ext w w' := by
 have e1 := up_hi x
 have e2 := up_lo x
 obtain ⟨a1, a2⟩ := uhi_bd x; obtain ⟨b1, b2⟩ := lo_bd x
 generalize uhi (x * 2) = H at *
 generalize loOf (x * 2) = L at *
 go_enter Try.func90, Try.ntmps90
 go_wp2
 simp [bodyPost, results, Try.results90, go_sem]
 exact (by repeat (first | exact Ext.refl _ | apply Ext.drew | apply Ext.drewN | apply Ext.alloc | refine Ext.setCell ?_ (by simp) _))
open Go.RowKit
set_option maxHeartbeats 1000000
theorem rsigned_w (neg : Bool) (x : Nat) (hx : x < 340282366920938463463374607431768211456) (w : World) :
   Calls Try.prog 88 #[.bool neg, .agg #[.int .u64 (uhi x), .int .u64 (loOf x)]] w fun e w' => e = .returned (.tuple #[.int .i64 (sgnV neg x), .bool (sgnB x)]) ∧ Ext w w' := by
 obtain ⟨u1, u2⟩ := uhi_bd x; obtain ⟨u3, u4⟩ := lo_bd x
 have hX : (x : Int) = uhi x * 18446744073709551616 + loOf x := by unfold uhi loOf; omega
 have HB1 : Hid (0 < uhi x → 9223372036854775807 < x) := by show 0 < uhi x → _; intro h; omega
 have HB2 : Hid (9223372036854775807 < loOf x → 9223372036854775807 < x) := by show 9223372036854775807 < loOf x → _; intro h; omega
 have HB3 : Hid (¬ 0 < uhi x → ¬ 9223372036854775807 < loOf x → x ≤ 9223372036854775807 ∧ loOf x = x) := by show ¬ 0 < uhi x → _; intro h1 h2; omega
 clear hX hx
 generalize hh : uhi x = h at *
 generalize hl : loOf x = l at *
 clear hh hl
 by_cases g1 : 0 < h
 · have H1 : Hid (sgnB x = false) := sgnB_no (HB1.out g1)
   have H2 : Hid (sgnV neg x = 0) := sgnV_no neg (HB1.out g1)
   go_enter Try.func88, Try.ntmps88
   go_wp2
   go_ret2
   exact ⟨ret_ib H2.out.symm H1.out.symm, (Ext.refl _).alloc _⟩
 by_cases g2 : 9223372036854775807 < l
 · have H1 : Hid (sgnB x = false) := sgnB_no (HB2.out g2)
   have H2 : Hid (sgnV neg x = 0) := sgnV_no neg (HB2.out g2)
   go_enter Try.func88, Try.ntmps88
   go_wp2
   go_ret2
   exact ⟨ret_ib H2.out.symm H1.out.symm, (Ext.refl _).alloc _⟩
 · obtain ⟨k1, k2⟩ := HB3.out g1 g2
   have H1 : Hid (sgnB x = true) := sgnB_yes k1
   have H2 : Hid (sgnV neg x = if neg then -l else l) := by show sgnV neg x = _; rw [sgnV_yes neg k1, k2]
   have w1 : wrap64 l = l := by unfold wrap64; omega
   clear k1 k2
   cases neg
   all_goals
     go_enter Try.func88, Try.ntmps88
     go_wp2
     go_ret2
     exact ⟨ret_ib (by rw [H2.out]; rfl) H1.out.symm, (Ext.refl _).alloc _⟩
open Go.RowKit
set_option maxHeartbeats 1000000
def endN (l : List UInt8) (k : Nat) : Nat := k + ((l.drop k).takeWhile dgB).length
theorem end_stop (l : List UInt8) (k : Nat) (h : ∀ hk : k < l.length, dgB l[k] = false) : endN l k = k := by
 unfold endN
 by_cases hk : k < l.length
 · rw [List.drop_eq_getElem_cons hk, List.takeWhile_cons, h hk]; rfl
 · rw [List.drop_of_length_le (by omega)]; rfl
theorem end_step (l : List UInt8) (k : Nat) (hk : k < l.length) (h : dgB l[k] = true) : endN l k = endN l (k + 1) := by
 unfold endN
 rw [List.drop_eq_getElem_cons hk, List.takeWhile_cons, h]
 simp; omega
theorem end_any (s : ByteArray) (a : Nat) (ha : a ≤ s.size) (hs : s.size ≤ maxLen) (w : World) :
   Calls Try.prog 85 #[.string s, .int .i64 a] w fun e w' => e = .returned (.int .i64 (endN s.data.toList a)) ∧ w' = w := by
 unfold maxLen at hs
 have hl := size_list s
 go_enter Try.func85, Try.ntmps85
 go_wp2_with fail
 go_loop [1] (fun i => ∃ k : Nat, k ≤ s.size ∧ i = .int .i64 k ∧ Hid (endN s.data.toList a = endN s.data.toList k)) (fun i => s.size - (intOf i).toNat)
 case atStart => exact ⟨a, ha, rfl, rfl⟩
 case round =>
   obtain ⟨k, hk, rfl, HE⟩ := hrel
   by_cases hlt : k < s.size
   · by_cases c1 : (48 : Int) ≤ s[k].toNat
     · by_cases c2 : (s[k].toNat : Int) ≤ 57
       · have HS : Hid (endN s.data.toList k = endN s.data.toList (k + 1)) := end_step s.data.toList k (by omega) (by unfold dgB; simp [get_list s k hlt]; omega)
         go_wp2_with fail
         go_round
         case rel => exact ⟨k + 1, by omega, by go_num, by show _ = _; rw [HE.out, HS.out]⟩
         case measure => simp [intOf]; omega
       · have HS : Hid (endN s.data.toList k = k) := end_stop s.data.toList k (fun _ => dg_no (c := s[k]) (.inr (by omega)))
         go_wp2_with fail
         go_ret
         exact ⟨ret_int (by rw [HE.out, HS.out]), rfl⟩
     · have HS : Hid (endN s.data.toList k = k) := end_stop s.data.toList k (fun _ => dg_no (c := s[k]) (.inl (by omega)))
       go_wp2_with fail
       go_ret
       exact ⟨ret_int (by rw [HE.out, HS.out]), rfl⟩
   · have HS : Hid (endN s.data.toList k = k) := end_stop s.data.toList k (fun h => by omega)
     go_wp2_with fail
     go_ret
     exact ⟨ret_int (by rw [HE.out, HS.out]), rfl⟩
theorem times_w (x : Int) (w : World) : Calls Try.prog 87 #[.agg #[.int .u64 (uhi x), .int .u64 (loOf x)]] w fun e w' => e = .returned (.agg #[.int .u64 (uhi (x * 10)), .int .u64 (loOf (x * 10))]) ∧ Ext w w' := by
 have c1 := fun W => up_w x W
 go_enter Try.func87, Try.ntmps87
 go_wp2_with fail
 refine (c1 _).mono ?_
 rintro e w1 ⟨rfl, E1⟩
 go_wp2_with fail
 have hs1 : w.heap.size + 2 ≤ w1.heap.size := by have := E1.size; simp at this; omega
 obtain ⟨W2, hW2⟩ : ∃ W2, W2 = w1.alloc (Obj.cells #[Value.int IntKind.u64 (uhi (x * 2)), Value.int IntKind.u64 (loOf (x * 2))] 121) := ⟨_, rfl⟩
 have P3 : Pair W2 w1.heap.size (x * 2) := by rw [hW2]; exact ⟨by simp, by simp, by simp, by simp, by simp⟩
 have P2 : Pair W2 (w.heap.size + 1) 0 := by
   rw [hW2]
   exact Pair.ext (Pair.ext ⟨by simp, by simp; rfl, by simp; rfl, by simp, by simp⟩ E1) ((Ext.refl _).alloc _)
 have EW : Ext w W2 := by rw [hW2]; exact ((((Ext.refl _).alloc _).alloc _).trans E1).alloc _
 rw [← hW2]
 have hK : Hid (∀ W, Ext W2 W → Pair W w1.heap.size (x * 2) ∧ Pair W (w.heap.size + 1) 0) := fun W h => ⟨P3.ext h, P2.ext h⟩
 obtain ⟨⟨z3, x1, x2, x3, x4⟩, ⟨z2, y1, y2, y3, y4⟩⟩ := hK.out W2 (Ext.refl _)
 generalize w1.heap.size = b3 at *
 have hb2 : w.heap.size ≤ w.heap.size + 1 := by omega
 generalize w.heap.size + 1 = b2 at *
 clear hW2 P3 P2 E1 c1
 set_option maxRecDepth 100000 in
 go_region_with (first | (go_at_call 90; refine (up_w _ _).mono ?_; rintro e w5 ⟨rfl, E5⟩; have X5 : Ext W2 w5 := (by first | exact ((Ext.refl _).drew).trans E5 | exact Ext.trans (by assumption) E5 | exact Ext.trans (Ext.drew (by assumption)) E5); obtain ⟨⟨z3, x1, x2, x3, x4⟩, ⟨z2, y1, y2, y3, y4⟩⟩ := hK.out w5 X5) | (go_at_call 86; refine (plusW_w _ _ _).mono ?_; rintro e w5 ⟨rfl, E5⟩; have X5 : Ext W2 w5 := (by first | exact ((Ext.refl _).drew).trans E5 | exact Ext.trans (by assumption) E5 | exact Ext.trans (Ext.drew (by assumption)) E5); obtain ⟨⟨z3, x1, x2, x3, x4⟩, ⟨z2, y1, y2, y3, y4⟩⟩ := hK.out w5 X5))
 all_goals
   have PF := Pair.set (w := w5) ⟨z2, y1, y2, y3, y4⟩ (x * 2 + x * 2 * 2 * 2)
   have EF : Ext w ((w5.setCell ⟨b2, 0, none⟩ (.int .u64 (uhi (x * 2 + x * 2 * 2 * 2)))).setCell ⟨b2, 1, none⟩ (.int .u64 (loOf (x * 2 + x * 2 * 2 * 2)))) := ((EW.trans X5).setCell (p := ⟨b2, 0, none⟩) hb2 _).setCell (p := ⟨b2, 1, none⟩) hb2 _
   generalize ((w5.setCell ⟨b2, 0, none⟩ (.int .u64 (uhi (x * 2 + x * 2 * 2 * 2)))).setCell ⟨b2, 1, none⟩ (.int .u64 (loOf (x * 2 + x * 2 * 2 * 2)))) = WF at *
   obtain ⟨f1, f2, f3, f4, f5⟩ := PF
   rw [show x * 2 + x * 2 * 2 * 2 = x * 10 by omega] at f2 f3
   go_wp2_with fail
   exact bodyPost_ret (v := .agg #[.int .u64 (uhi (x * 10)), .int .u64 (loOf (x * 10))]) (by simp [results, Try.results87, go_sem, f2, f3]) rfl ⟨rfl, EF⟩
open Go.RowKit
def runN (l : List UInt8) : Nat := (l.takeWhile dgB).length
theorem run_le (l : List UInt8) : runN l ≤ l.length := by
 have := (List.takeWhile_sublist dgB (l := l)).length_le; exact this
theorem split_len (A B : List UInt8) : (A ++ B).take A.length = A ∧ (A ++ B).drop A.length = B := by simp
theorem run_split (l : List UInt8) : l.take (runN l) = l.takeWhile dgB ∧ l.drop (runN l) = l.dropWhile dgB := by
 have h := List.takeWhile_append_dropWhile (p := dgB) (l := l)
 have := split_len (l.takeWhile dgB) (l.dropWhile dgB)
 rw [h] at this
 exact this
theorem run_all (l : List UInt8) : (l.takeWhile dgB).all dgB = true := by
 rw [List.all_eq_true]; intro x hx; induction l with
 | nil => cases hx
 | cons c l ih =>
   rw [List.takeWhile_cons] at hx
   split at hx
   · rcases List.mem_cons.1 hx with h | h
     · subst h; assumption
     · exact ih h
   · cases hx
theorem run_full (l : List UInt8) (h : l.all dgB = true) : runN l = l.length := by
 unfold runN; induction l with
 | nil => rfl
 | cons c l ih =>
   rw [List.all_cons, Bool.and_eq_true] at h
   rw [List.takeWhile_cons, h.1]; simp [ih h.2]
theorem all_of_run (l : List UInt8) (h : runN l = l.length) : l.all dgB = true := by
 have := (run_split l).1
 rw [h, List.take_length] at this
 rw [this]; exact run_all l
theorem dot_no {l : List UInt8} (h : l.all dgB = true) : dotB l = false ∧ cutA l = l ∧ cutB l = [] := by
 have hd : dotB l = false := by
   unfold dotB; rw [List.any_eq_false]; intro x hx hc
   have := List.all_eq_true.1 h x hx
   have e : x = 46 := by simpa using hc
   subst e; cases this
 exact ⟨hd, ((index_dot l).2 hd).2⟩
theorem dot_at {A B : List UInt8} (h : A.all dgB = true) : dotB (A ++ 46 :: B) = true ∧ cutA (A ++ 46 :: B) = A ∧ cutB (A ++ 46 :: B) = B := by
 induction A with
 | nil => simp [dotB, cutA, cutB]
 | cons c A ih =>
   rw [List.all_cons, Bool.and_eq_true] at h
   have hc : c ≠ 46 := by intro e; subst e; exact absurd h.1 (by decide)
   have hm : (c != 46) = true := by simpa using hc
   obtain ⟨_, i2, i3⟩ := ih h.2
   refine ⟨?_, ?_, ?_⟩
   · simp [dotB]
   · show List.takeWhile _ (c :: (A ++ 46 :: B)) = _
     rw [List.takeWhile_cons, hm]; simp only [if_true]; rw [show List.takeWhile (fun c => c != 46) (A ++ 46 :: B) = A from i2]
   · show (List.dropWhile _ (c :: (A ++ 46 :: B))).tail = _
     rw [List.dropWhile_cons, hm]; exact i3
theorem dot_other {A B : List UInt8} {c : UInt8} (h : A.all dgB = true) (hc : dgB c = false) (hc' : c ≠ 46) : okD (cutA (A ++ c :: B)) = false := by
 have hm : c ∈ cutA (A ++ c :: B) := by
   induction A with
   | nil =>
     have : (c != 46) = true := by simpa using hc'
     show c ∈ List.takeWhile _ (c :: B)
     rw [List.takeWhile_cons, this]; simp
   | cons d A ih =>
     rw [List.all_cons, Bool.and_eq_true] at h
     have hd : (d != 46) = true := by
       have : d ≠ 46 := by intro e; subst e; exact absurd h.1 (by decide)
       simpa using this
     show c ∈ List.takeWhile _ (d :: (A ++ c :: B))
     rw [List.takeWhile_cons, hd]; simp only [if_true]
     exact List.mem_cons_of_mem _ (ih h.2)
 unfold okD; rw [Bool.and_eq_false_iff]; right
 rw [List.all_eq_false]; exact ⟨c, hm, by rw [hc]; simp⟩
theorem ok_iff (l : List UInt8) : okD l = true ↔ (1 ≤ l.length ∧ l.length ≤ 40) ∧ runN l = l.length := by
 constructor
 · intro h; unfold okD at h; rw [Bool.and_eq_true] at h; exact ⟨by simpa using h.1, run_full l h.2⟩
 · intro h; unfold okD; rw [all_of_run l h.2]; simp; exact h.1
theorem num_short {R : List UInt8} (h : runN R = 0 ∨ 40 < runN R) : okD (cutA R) = false := by
 have hs := List.takeWhile_append_dropWhile (p := dgB) (l := R)
 have ha := run_all R
 rcases hd : R.dropWhile dgB with _ | ⟨c, B⟩
 · rw [hd, List.append_nil] at hs
   rw [hs] at ha
   rw [(dot_no ha).2.1]
   rcases Bool.eq_false_or_eq_true (okD R) with h' | h'
   · have := (ok_iff R).1 h'; omega
   · exact h'
 · have hc : dgB c = false := by
     have : ∀ l : List UInt8, ∀ c B, l.dropWhile dgB = c :: B → dgB c = false := by
       intro l; induction l with
       | nil => intro c B h; cases h
       | cons d l ih =>
         intro c B h; rw [List.dropWhile_cons] at h
         split at h
         · exact ih c B h
         · rename_i hh; obtain ⟨rfl, _⟩ := List.cons.inj h; exact Bool.eq_false_iff.2 hh
     exact this R c B hd
   rw [hd] at hs
   by_cases h46 : c = 46
   · subst h46
     rw [← hs, (dot_at ha).2.1]
     rcases Bool.eq_false_or_eq_true (okD (R.takeWhile dgB)) with h' | h'
     · have := (ok_iff _).1 h'; have e : (R.takeWhile dgB).length = runN R := rfl; omega
     · exact h'
   · rw [← hs]; exact dot_other ha hc h46
theorem drop_head {l : List UInt8} {c : UInt8} {B : List UInt8} (h : l.dropWhile dgB = c :: B) : dgB c = false := by
 induction l with
 | nil => cases h
 | cons d l ih =>
   rw [List.dropWhile_cons] at h
   split at h
   · exact ih h
   · rename_i hh; obtain ⟨rfl, _⟩ := List.cons.inj h; exact Bool.eq_false_iff.2 hh
theorem parted (R : List UInt8) (h : runN R < R.length) : R = R.take (runN R) ++ R[runN R] :: R.drop (runN R + 1) ∧ (R.take (runN R)).all dgB = true ∧ dgB R[runN R] = false ∧ (R.take (runN R)).length = runN R := by
 have e1 := (run_split R)
 have e2 : R.drop (runN R) = R[runN R] :: R.drop (runN R + 1) := List.drop_eq_getElem_cons h
 refine ⟨?_, by rw [e1.1]; exact run_all R, drop_head (l := R) (B := R.drop (runN R + 1)) (by rw [← e1.2, e2]), by rw [List.length_take]; omega⟩
 rw [← e2, List.take_append_drop]
theorem rest_bad {R : List UInt8} (h : runN R < R.length) (hb : R[runN R] ≠ 46 ∨ runN (R.drop (runN R + 1)) = 0 ∨ 40 < runN (R.drop (runN R + 1)) ∨ runN R + 1 + runN (R.drop (runN R + 1)) < R.length) :
   okD (cutA R) = false ∨ (dotB R = true ∧ okD (cutB R) = false) := by
 obtain ⟨p1, p2, p3, p4⟩ := parted R h
 generalize hA : R.take (runN R) = A at *
 generalize hB : R.drop (runN R + 1) = B at *
 by_cases hc : R[runN R] = 46
 · right
   rw [hc] at p1
   have hl : R.length = runN R + 1 + B.length := by rw [← hB, List.length_drop]; omega
   have e := dot_at (B := B) p2
   rw [← p1] at e
   refine ⟨e.1, ?_⟩
   rw [e.2.2]
   rcases Bool.eq_false_or_eq_true (okD B) with h' | h'
   · have := (ok_iff B).1 h'
     rcases hb with hb | hb | hb | hb
     · exact absurd hc hb
     · omega
     · omega
     · omega
   · exact h'
 · left
   generalize hcc : R[runN R] = c at *
   rw [p1]
   exact dot_other p2 p3 hc
theorem good_end {R : List UInt8} (h : runN R = R.length) : okD (cutA R) = okD R ∧ dotB R = false ∧ cutA R = R ∧ cutB R = [] := by
 obtain ⟨a, b, c⟩ := dot_no (all_of_run R h)
 exact ⟨by rw [b], a, b, c⟩
theorem good_dot {R : List UInt8} (h : runN R < R.length) (hc : R[runN R] = 46) : dotB R = true ∧ cutA R = R.take (runN R) ∧ cutB R = R.drop (runN R + 1) ∧ (R.take (runN R)).length = runN R ∧ (R.take (runN R)).all dgB = true := by
 obtain ⟨p1, p2, p3, p4⟩ := parted R h
 rw [hc] at p1
 have e := dot_at (B := R.drop (runN R + 1)) p2
 rw [← p1] at e
 exact ⟨e.1, e.2.1, e.2.2, p4, p2⟩
def accN (f : Nat → Nat) (D a : Nat) : Nat → Nat
 | 0 => 0
 | j + 1 => if a + j = D then accN f D a j else accN f D a j * 10 + f (a + j)
theorem acc_A (f : Nat → Nat) (a k : Nat) (A : List UInt8) (hA : A.length = k) (h : ∀ j (hj : j < A.length), f (a + j) = A[j].toNat - 48) : ∀ j, j ≤ k → accN f (a + k) a j = val (A.take j) := by
 intro j
 induction j with
 | zero => intro _; rfl
 | succ j ih =>
   intro hj
   rw [accN, if_neg (by omega), ih (by omega), val_take_succ A j (by omega), h j (by omega)]
theorem acc_B (f : Nat → Nat) (a k : Nat) (A C : List UInt8) (hA : A.length = k) (h : ∀ j (hj : j < A.length), f (a + j) = A[j].toNat - 48) (hC : ∀ t (ht : t < C.length), f (a + k + 1 + t) = C[t].toNat - 48) : ∀ t, t ≤ C.length → accN f (a + k) a (k + 1 + t) = val (A ++ C.take t) := by
 intro t
 induction t with
 | zero => intro _; rw [Nat.add_zero, accN, if_pos rfl, acc_A f a k A hA h k (Nat.le_refl _), ← hA]; simp
 | succ t ih =>
   intro ht
   rw [show k + 1 + (t + 1) = (k + 1 + t) + 1 by omega, accN, if_neg (by omega), ih (by omega), List.take_succ_eq_append_getElem (by omega), ← List.append_assoc, val_snoc, show a + (k + 1 + t) = a + k + 1 + t by omega, hC t (by omega)]
theorem zs_get (n i : Nat) (h : i < (zs n).length) : (zs n)[i] = 48 := List.getElem_replicate _
theorem four_get (B : List UInt8) (t : Nat) (h : t < (four B).length) : (four B)[t].toNat - 48 = if t < B.length then (B.getD t 0).toNat - 48 else 0 := by
 have h4 : t < 4 := by rw [four_len] at h; exact h
 simp only [four, List.getElem_take, List.getElem_append]
 by_cases hb : t < B.length
 · rw [dif_pos hb, if_pos hb, List.getD_eq_getElem?_getD, List.getElem?_eq_getElem hb]; rfl
 · rw [dif_neg hb, if_neg hb, zs_get]; rfl
theorem fifth_get (B : List UInt8) : rndN B = if 4 < B.length ∧ 53 ≤ (B.getD 4 0).toNat then 1 else 0 := by
 unfold rndN fifth
 rw [List.getD_eq_getElem?_getD, List.getElem?_append]
 by_cases hb : 4 < B.length
 · rw [if_pos hb, ← List.getD_eq_getElem?_getD]
   simp [hb]
 · rw [if_neg hb, if_neg (by omega : ¬ (4 < B.length ∧ _)), List.getElem?_eq_getElem (by rw [len_zs]; omega), zs_get]; rfl
theorem getD_drop (l : List UInt8) (a j : Nat) : (l.drop a).getD j 0 = l.getD (a + j) 0 := by
 rw [List.getD_eq_getElem?_getD, List.getElem?_drop, ← List.getD_eq_getElem?_getD]
theorem getD_get (l : List UInt8) (j : Nat) (h : j < l.length) : l.getD j 0 = l[j] := by
 rw [List.getD_eq_getElem?_getD, List.getElem?_eq_getElem h]; rfl
def fd (l : List UInt8) (L i : Nat) : Nat := if i < L then (l.getD i 0).toNat - 48 else 0
theorem good1 (l : List UInt8) (a k : Nat) (ha : a ≤ l.length) (hk : runN (l.drop a) = k) (h : a + k = l.length) :
   nv (cutA (l.drop a)) (cutB (l.drop a)) = accN (fd l (a + k)) (a + k) a (k + 5) ∧ rndN (cutB (l.drop a)) = 0 := by
 have hl : (l.drop a).length = k := by rw [List.length_drop]; omega
 obtain ⟨_, _, c3, c4⟩ := good_end (R := l.drop a) (by rw [hk, hl])
 rw [c3, c4]
 refine ⟨?_, rfl⟩
 have hd : ∀ j (hj : j < (l.drop a).length), fd l (a + k) (a + j) = (l.drop a)[j].toNat - 48 := by
   intro j hj; unfold fd; rw [if_pos (by omega), ← getD_drop, getD_get _ _ hj]
 have hC : ∀ t (ht : t < (four []).length), fd l (a + k) (a + k + 1 + t) = (four [])[t].toNat - 48 := by
   intro t ht; rw [four_get]; unfold fd; rw [if_neg (by omega)]; rfl
 have := acc_B (fd l (a + k)) a k (l.drop a) (four []) hl hd hC 4 (by rw [four_len]; omega)
 rw [show k + 5 = k + 1 + 4 by omega, this, List.take_of_length_le (by rw [four_len]; omega)]
 rfl
theorem good2 (l : List UInt8) (a k : Nat) (ha : a ≤ l.length) (hk : runN (l.drop a) = k) (h : a + k < l.length) (hc : l[a + k] = 46) :
   nv (cutA (l.drop a)) (cutB (l.drop a)) = accN (fd l l.length) (a + k) a (k + 5) + (if a + k + 5 < l.length ∧ 53 ≤ (l.getD (a + k + 5) 0).toNat then 1 else 0) ∧ cutB (l.drop a) = l.drop (a + k + 1) ∧ cutA (l.drop a) = (l.drop a).take k := by
 have hl : (l.drop a).length = l.length - a := List.length_drop
 obtain ⟨_, c2, c3, c4, _⟩ := good_dot (R := l.drop a) (by rw [hk, hl]; omega) (by
   simp only [hk]; rw [List.getElem_drop]; exact hc)
 rw [hk] at c2 c3 c4
 rw [List.drop_drop, show a + (k + 1) = a + k + 1 by omega] at c3
 rw [c2, c3]
 refine ⟨?_, rfl, rfl⟩
 have hd : ∀ j (hj : j < ((l.drop a).take k).length), fd l l.length (a + j) = ((l.drop a).take k)[j].toNat - 48 := by
   intro j hj; rw [c4] at hj; unfold fd; rw [if_pos (by omega), ← getD_drop, getD_get _ _ (by omega), List.getElem_take]
 have hC : ∀ t (ht : t < (four (l.drop (a + k + 1))).length), fd l l.length (a + k + 1 + t) = (four (l.drop (a + k + 1)))[t].toNat - 48 := by
   intro t ht; rw [four_get]; unfold fd
   rw [getD_drop, List.length_drop]
   by_cases hb : a + k + 1 + t < l.length
   · rw [if_pos hb, if_pos (by omega)]
   · rw [if_neg hb, if_neg (by omega)]
 have := acc_B (fd l l.length) a k ((l.drop a).take k) (four (l.drop (a + k + 1))) c4 hd hC 4 (by rw [four_len]; omega)
 rw [List.take_of_length_le (l := four (l.drop (a + k + 1))) (by rw [four_len]; omega)] at this
 unfold nv
 rw [show k + 5 = k + 1 + 4 by omega, this, fifth_get, getD_drop, List.length_drop, show a + k + 1 + 4 = a + k + 5 by omega]
 by_cases hb : a + k + 5 < l.length
 · simp only [hb, true_and, show 4 < l.length - (a + k + 1) by omega]
 · rw [if_neg (by omega), if_neg (by omega)]
open Go.RowKit
set_option maxHeartbeats 2000000
theorem minus_at (s : ByteArray) : (s.size = 0 → minusB s.data.toList = false) ∧ (∀ h : 0 < s.size, minusB s.data.toList = decide ((s[0].toNat : Int) = 45)) := by
 have hl := size_list s
 constructor
 · intro h; rw [List.length_eq_zero_iff.1 (hl.trans h)]; rfl
 · intro h
   have e : s.data.toList = s[0] :: s.data.toList.tail := by
     have := List.drop_eq_getElem_cons (l := s.data.toList) (i := 0) (by omega)
     simp only [List.drop_zero] at this
     rw [this]; rfl
   unfold minusB
   rw [e]
   show ((some s[0] : Option UInt8) == some 45) = _
   by_cases hc : s[0] = 45
   · rw [hc]; rfl
   · have : ¬ (s[0].toNat : Int) = 45 := fun h => hc (UInt8.toNat_inj.1 (by show s[0].toNat = 45; omega))
     simp [hc, this]
theorem sign_at (l : List UInt8) (a : Nat) (ha : a = if minusB l then 1 else 0) : sizeL l = l.drop a ∧ a ≤ l.length := by
 unfold sizeL
 rw [ha]
 cases hm : minusB l
 · exact ⟨rfl, Nat.zero_le _⟩
 · refine ⟨?_, ?_⟩
   · simp
   · unfold minusB at hm
     cases l with
     | nil => cases hm
     | cons c l => simp
def GoodL (l : List UInt8) (a k L : Nat) : Prop := numB l = true ∧ L ≤ l.length ∧ a + k ≤ L ∧ (∀ i (h : i < l.length), a ≤ i → i < L → i ≠ a + k → 48 ≤ l[i].toNat ∧ l[i].toNat ≤ 57) ∧
 numN l = accN (fd l L) (a + k) a (k + 5) + (if a + k + 5 < L ∧ 53 ≤ (l.getD (a + k + 5) 0).toNat then 1 else 0)
theorem run_digit (l : List UInt8) (a i : Nat) (hi : i < runN (l.drop a)) (h : a + i < l.length) : 48 ≤ l[a + i].toNat ∧ l[a + i].toNat ≤ 57 := by
 have hall := run_all (l.drop a)
 have e := (run_split (l.drop a)).1
 rw [← e] at hall
 have hlen : i < ((l.drop a).take (runN (l.drop a))).length := by
   rw [List.length_take, List.length_drop]; omega
 have := dig_at _ hall i hlen
 rw [List.getElem_take, List.getElem_drop] at this
 exact this
theorem bad_k {l : List UInt8} {a : Nat} (hR : sizeL l = l.drop a) (h : runN (l.drop a) = 0 ∨ 40 < runN (l.drop a)) : numB l = false := by
 unfold numB; rw [hR, num_short h]; rfl
theorem bad_rest {l : List UInt8} {a : Nat} (hR : sizeL l = l.drop a) (k : Nat) (hk : k = runN (l.drop a)) (h : a + k < l.length) (hb : l[a + k] ≠ 46 ∨ runN (l.drop (a + k + 1)) = 0 ∨ 40 < runN (l.drop (a + k + 1)) ∨ a + k + 1 + runN (l.drop (a + k + 1)) < l.length) : numB l = false := by
 subst hk
 have hd : (l.drop a).drop (runN (l.drop a) + 1) = l.drop (a + runN (l.drop a) + 1) := by rw [List.drop_drop]; congr 1
 have := rest_bad (R := l.drop a) (by rw [List.length_drop]; omega) (by
   rw [List.getElem_drop, hd]
   rcases hb with hb | hb | hb | hb
   · exact .inl hb
   · exact .inr (.inl hb)
   · exact .inr (.inr (.inl hb))
   · exact .inr (.inr (.inr (by rw [List.length_drop]; omega))))
 unfold numB
 rw [hR]
 rcases this with h1 | ⟨h1, h2⟩
 · rw [h1]; rfl
 · rw [h1, h2]; simp
theorem good_case1 {l : List UInt8} {a : Nat} (hR : sizeL l = l.drop a) (ha : a ≤ l.length) (k : Nat) (hk : k = runN (l.drop a)) (k1 : 1 ≤ k) (k2 : k ≤ 40) (h : a + k = l.length) : GoodL l a k (a + k) := by
 obtain ⟨g1, _⟩ := good1 l a k ha hk.symm h
 have hl : (l.drop a).length = k := by rw [List.length_drop]; omega
 obtain ⟨c1, c2, c3, c4⟩ := good_end (R := l.drop a) (by rw [← hk, hl])
 refine ⟨?_, by omega, by omega, ?_, ?_⟩
 · unfold numB; rw [hR, c1, c2, (ok_iff _).2 ⟨by omega, by rw [← hk, hl]⟩]; rfl
 · intro i h1 h2 h3 _
   obtain ⟨j, rfl⟩ : ∃ j, i = a + j := ⟨i - a, by omega⟩
   exact run_digit l a j (by omega) h1
 · unfold numN; rw [hR, g1, if_neg (by omega)]; rfl
theorem good_case2 {l : List UInt8} {a : Nat} (hR : sizeL l = l.drop a) (ha : a ≤ l.length) (k : Nat) (hk : k = runN (l.drop a)) (k1 : 1 ≤ k) (k2 : k ≤ 40) (h : a + k < l.length) (hc : l[a + k] = 46)
   (m : Nat) (hm : m = runN (l.drop (a + k + 1))) (m1 : 1 ≤ m) (m2 : m ≤ 40) (hend : a + k + 1 + m = l.length) : GoodL l a k l.length := by
 obtain ⟨g1, g2, g3⟩ := good2 l a k ha hk.symm h hc
 obtain ⟨c1, _⟩ := good_dot (R := l.drop a) (by rw [List.length_drop]; omega) (by simp only [← hk]; rw [List.getElem_drop]; exact hc)
 have hlB : (l.drop (a + k + 1)).length = m := by rw [List.length_drop]; omega
 refine ⟨?_, by omega, by omega, ?_, ?_⟩
 · unfold numB; rw [hR, c1, g2, g3, (ok_iff (l.drop (a + k + 1))).2 ⟨by omega, by rw [← hm, hlB]⟩]
   have hlA : ((l.drop a).take k).length = k := by rw [List.length_take, List.length_drop]; omega
   have : okD ((l.drop a).take k) = true := by
     unfold okD
     have e := (run_split (l.drop a)).1
     rw [← hk] at e
     rw [hlA, e, run_all]; simp; omega
   rw [this]; rfl
 · intro i h1 h2 _ h4
   by_cases hi : i < a + k
   · obtain ⟨j, rfl⟩ : ∃ j, i = a + j := ⟨i - a, by omega⟩
     exact run_digit l a j (by omega) h1
   · obtain ⟨j, rfl⟩ : ∃ j, i = a + k + 1 + j := ⟨i - (a + k + 1), by omega⟩
     exact run_digit l (a + k + 1) j (by omega) h1
 · unfold numN; rw [hR, g1]
theorem bad_at (s : ByteArray) (a k D m E : Nat) (hR : sizeL s.data.toList = s.data.toList.drop a) (hk : k = runN (s.data.toList.drop a)) (hD : D = a + k) (hn : D < s.size) (hm : m = runN (s.data.toList.drop (D + 1))) (hE : E = D + 1 + m)
   (hx : s[D].toNat ≠ 46 ∨ m = 0 ∨ 40 < m ∨ E < s.size) : rdV s.data.toList = 0 ∧ rdK s.data.toList = 0 := by
 subst hD; subst hm; subst hE
 have hl := size_list s
 refine no_num (bad_rest hR k hk (by omega) ?_)
 rcases hx with hx | hx | hx | hx
 · left; intro hy; apply hx; rw [← get_list s _ hn, hy]; rfl
 · right; left; exact hx
 · right; right; left; exact hx
 · right; right; right; omega
theorem good_at (s : ByteArray) (a k D m E : Nat) (hR : sizeL s.data.toList = s.data.toList.drop a) (hk : k = runN (s.data.toList.drop a)) (hD : D = a + k) (hn : D < s.size) (hm : m = runN (s.data.toList.drop (D + 1))) (hE : E = D + 1 + m)
   (ha : a ≤ s.size) (k1 : 1 ≤ k) (k2 : k ≤ 40) (hc : s[D].toNat = 46) (m1 : 1 ≤ m) (m2 : m ≤ 40) (h : ¬ E < s.size) (h' : E ≤ s.size) : GoodL s.data.toList a k E := by
 subst hD
 have hl := size_list s
 have eE : E = s.data.toList.length := by omega
 rw [eE]
 exact good_case2 hR (by omega) k hk k1 k2 (by omega) (by rw [get_list s _ hn]; exact UInt8.toNat_inj.1 hc) m hm m1 m2 (by omega)
def XN (l : List UInt8) (L D a i : Nat) : Nat := accN (fd l L) D a (i - a)
def grB (x : Nat) : Bool := decide (20769187434139310514121985316880384 ≤ x)
theorem xn_zero (l : List UInt8) (L D a : Nat) : XN l L D a a = 0 := by unfold XN; rw [Nat.sub_self, accN]
theorem xn_dot {l : List UInt8} {L D a : Nat} (h : a ≤ D) : XN l L D a (D + 1) = XN l L D a D := by
 unfold XN; rw [show D + 1 - a = (D - a) + 1 by omega, accN, if_pos (by omega)]
theorem xn_step {l : List UInt8} {L D a i : Nat} (h : a ≤ i) (hi : i ≠ D) : XN l L D a (i + 1) = XN l L D a i * 10 + fd l L i := by
 unfold XN; rw [show i + 1 - a = (i - a) + 1 by omega, accN, if_neg (by omega), show a + (i - a) = i by omega]
theorem gr_step (x d : Nat) (hd : d ≤ 9) : grB (x * 10 + d) = (grB x || decide ((1125899906842624 : Int) ≤ uhi ((x * 10 + d : Nat) : Int))) := by
 unfold grB
 by_cases h : 20769187434139310514121985316880384 ≤ x
 · have h1 : decide (20769187434139310514121985316880384 ≤ x) = true := by simpa using h
   have h2 : decide (20769187434139310514121985316880384 ≤ x * 10 + d) = true := by simp; omega
   rw [h1, h2]; rfl
 · have h1 : decide (20769187434139310514121985316880384 ≤ x) = false := by simpa using h
   rw [h1, Bool.false_or]
   have : uhi ((x * 10 + d : Nat) : Int) = ((x * 10 + d : Nat) : Int) / 18446744073709551616 := by unfold uhi; omega
   rw [this, Bool.eq_iff_iff]; simp only [decide_eq_true_eq]; omega
theorem fd_digit {l : List UInt8} {L i : Nat} (h : i < L) (hL : L ≤ l.length) : fd l L i = l[i].toNat - 48 := by
 unfold fd; rw [if_pos h, getD_get _ _ (by omega)]
theorem fd_none {l : List UInt8} {L i : Nat} (h : ¬ i < L) : fd l L i = 0 := by unfold fd; rw [if_neg h]
theorem word_small (d : Nat) (h : d < 18446744073709551616) : uhi (d : Int) = 0 ∧ loOf (d : Int) = d := by unfold uhi loOf; omega
theorem signed_mod (neg : Bool) (N : Nat) (w : World) : Calls Try.prog 88 #[.bool neg, .agg #[.int .u64 (uhi N), .int .u64 (loOf N)]] w fun e w' => e = .returned (.tuple #[.int .i64 (sgnV neg (N % 340282366920938463463374607431768211456)), .bool (sgnB (N % 340282366920938463463374607431768211456))]) ∧ Ext w w' := by
 have h := rsigned_w neg (N % 340282366920938463463374607431768211456) (Nat.mod_lt _ (by decide)) w
 have e1 : uhi ((N % 340282366920938463463374607431768211456 : Nat) : Int) = uhi N := by unfold uhi; omega
 have e2 : loOf ((N % 340282366920938463463374607431768211456 : Nat) : Int) = loOf N := by unfold loOf; omega
 rw [e1, e2] at h
 exact h
theorem fin_great {l : List UInt8} {X N : Nat} (hb : numB l = true) (hN : numN l = N) (hX : X ≤ N) (h : grB X = true) : rdV l = 0 ∧ rdK l = 2 := by
 refine num_great hb ?_
 unfold grB at h; simp at h; omega
theorem fin_not {l : List UInt8} {X N : Nat} (hb : numB l = true) (hN : numN l = N) (hX : N ≤ X + 1) (h : grB X = false) (hs : sgnB (N % 340282366920938463463374607431768211456) = false) : rdV l = 0 ∧ rdK l = 2 := by
 refine num_great hb ?_
 unfold grB at h; simp at h
 rw [Nat.mod_eq_of_lt (by omega)] at hs
 rcases Nat.lt_or_ge 9223372036854775807 N with g | g
 · omega
 · rw [sgnB_yes g] at hs; cases hs
theorem fin_is {l : List UInt8} {X N : Nat} {neg : Bool} (hb : numB l = true) (hN : numN l = N) (hX : N ≤ X + 1) (h : grB X = false) (hs : sgnB (N % 340282366920938463463374607431768211456) = true) (hn : neg = minusB l) : rdV l = sgnV neg (N % 340282366920938463463374607431768211456) ∧ rdK l = 1 := by
 unfold grB at h; simp at h
 rw [Nat.mod_eq_of_lt (by omega)] at hs ⊢
 have g : N ≤ 9223372036854775807 := by
   rcases Nat.lt_or_ge 9223372036854775807 N with g | g
   · rw [sgnB_no g] at hs; cases hs
   · exact g
 have := num_is hb (by omega)
 rw [hN] at this
 rw [sgnV_yes neg g, hn]
 exact this
set_option maxRecDepth 100000 in
theorem rparse_any (s : ByteArray) (w : World) (hs : s.size ≤ maxLen) :
   Calls Try.prog 71 #[.string s] w fun e w' => e = .returned (.tuple #[.int .i64 (rdV s.data.toList), .int .i64 (rdK s.data.toList)]) ∧ Ext w w' := by
 unfold maxLen at hs
 have hl := size_list s
 obtain ⟨m1, m2⟩ := minus_at s
 obtain ⟨a, haM⟩ : ∃ a : Nat, a = if minusB s.data.toList then 1 else 0 := ⟨_, rfl⟩
 obtain ⟨hR, ha⟩ := sign_at _ a haM
 have HM : Hid (a = if minusB s.data.toList then 1 else 0) := haM
 have H1 : Hid (s.size = 0 → minusB s.data.toList = false) := m1
 have H2 : Hid (∀ h : 0 < s.size, minusB s.data.toList = decide ((s[0].toNat : Int) = 45)) := m2
 have HR : Hid (sizeL s.data.toList = s.data.toList.drop a) := hR
 rw [hl] at ha
 clear m1 m2 haM hR
 go_enter Try.func71, Try.ntmps71
 go_upto_region 2 with fail
 go_cut [20] (fun v wx => v = .bool (minusB s.data.toList) ∧ wx = w)
 case first =>
   by_cases h0 : 0 < s.size
   · by_cases h1 : (s[0].toNat : Int) = 45
     · have HB : Hid (minusB s.data.toList = true) := by show _ = _; rw [H2.out h0]; simpa using h1
       have h1' : ((s[0].toNat : Int) == 45) = true := by simpa using h1
       clear h1
       go_wp2_with fail
       go_meet
       case rel => exact ⟨by rw [HB.out], rfl⟩
     · have HB : Hid (minusB s.data.toList = false) := by show _ = _; rw [H2.out h0]; simpa using h1
       have h1' : ((s[0].toNat : Int) == 45) = false := by simpa using h1
       clear h1
       go_wp2_with fail
       go_meet
       case rel => exact ⟨by rw [HB.out], rfl⟩
   · have HB : Hid (minusB s.data.toList = false) := H1.out (by omega)
     go_wp2_with fail
     go_meet
     case rel => exact ⟨by rw [HB.out], rfl⟩
 case rest =>
   obtain ⟨rfl, rfl⟩ := hcut
   clear H1 H2
   go_upto_if 20 with fail
   go_cut [4] (fun v wx => v = .int .i64 (a : Int) ∧ wx = wc)
   case first =>
     cases hm : minusB s.data.toList
     · have ea : a = 0 := by rw [HM.out, hm]; rfl
       subst ea
       go_wp2_with fail
       go_meet
       case rel => exact ⟨rfl, rfl⟩
     · have ea : a = 1 := by rw [HM.out, hm]; rfl
       subst ea
       go_wp2_with fail
       go_meet
       case rel => exact ⟨rfl, rfl⟩
   case rest =>
     obtain ⟨rfl, rfl⟩ := hcut
     obtain ⟨k, hk⟩ : ∃ k : Nat, k = runN (s.data.toList.drop a) := ⟨_, rfl⟩
     have hkl : a + k ≤ s.size := by have := run_le (s.data.toList.drop a); rw [List.length_drop] at this; omega
     have ce := fun W => end_any s a ha hs W
     have ee : endN s.data.toList a = a + k := by rw [hk]; rfl
     rw [ee] at ce
     obtain ⟨D, hD⟩ : ∃ D : Nat, D = a + k := ⟨_, rfl⟩
     rw [← hD] at ce hkl
     have HD : Hid (D = a + k) := hD
     have HK : Hid (k = runN (s.data.toList.drop a)) := hk
     clear ee hk
     have d1 : (a : Int) ≤ D := by omega
     have d2 : (D : Int) - a = k := by omega
     by_cases hb : k = 0 ∨ 40 < k
     · have HZ : Hid (rdV s.data.toList = 0 ∧ rdK s.data.toList = 0) := no_num (bad_k HR.out (by rw [← HK.out]; exact hb))
       rcases hb with hb | hb
       · have q1 : ((D : Int) == a) = true := by simp; omega
         clear hD
         go_wp2_with fail
         refine (ce _).mono ?_
         rintro e w1 ⟨rfl, rfl⟩
         go_wp2_with fail
         go_ret2
         exact ⟨ret_ii HZ.out.1.symm HZ.out.2.symm, Ext.refl _⟩
       · have q1 : ((D : Int) == a) = false := by simp; omega
         have q2 : (40 : Int) < D - a := by omega
         clear hD d2
         go_wp2_with fail
         refine (ce _).mono ?_
         rintro e w1 ⟨rfl, rfl⟩
         go_wp2_with fail
         go_ret2
         exact ⟨ret_ii HZ.out.1.symm HZ.out.2.symm, Ext.refl _⟩
     · have k1 : ((D : Int) == a) = false := by simp; omega
       have k2 : ¬ (40 : Int) < D - a := by omega
       go_wp2_with fail
       refine (ce _).mono ?_
       rintro e w1 ⟨rfl, rfl⟩
       clear d2 hD
       go_upto_if 37 with fail
       go_cut [6] (fun v wx => ∃ L : Nat, v = .int .i64 (L : Int) ∧ Hid (GoodL s.data.toList a k L) ∧ wx = w1)
       case first =>
         by_cases hn : D < s.size
         · obtain ⟨m, hm⟩ : ∃ m : Nat, m = runN (s.data.toList.drop (D + 1)) := ⟨_, rfl⟩
           have hml : D + 1 + m ≤ s.size := by have := run_le (s.data.toList.drop (D + 1)); rw [List.length_drop] at this; omega
           have ce2 := fun W => end_any s (D + 1) (by omega) hs W
           have ee : endN s.data.toList (D + 1) = D + 1 + m := by rw [hm]; rfl
           rw [ee, show ((D + 1 : Nat) : Int) = (D : Int) + 1 by omega] at ce2
           obtain ⟨E, hE⟩ : ∃ E : Nat, E = D + 1 + m := ⟨_, rfl⟩
           rw [← hE] at ce2 hml
           have HB : Hid ((s[D].toNat ≠ 46 ∨ m = 0 ∨ 40 < m ∨ E < s.size) → rdV s.data.toList = 0 ∧ rdK s.data.toList = 0) := bad_at s a k D m E HR.out HK.out HD.out hn hm hE
           have HE : Hid (E = D + 1 + m) := hE
           have HMm : Hid (m = runN (s.data.toList.drop (D + 1))) := hm
           have hnI : (D : Int) < s.size := by omega
           have hE1 : (D : Int) + 1 ≤ E := by omega
           have hE2 : (E : Int) ≤ 9223372036854775807 := by omega
           have hE3 : (0 : Int) ≤ D := by omega
           by_cases g1 : s[D].toNat = 46
           · have g1' : ((s[D].toNat : Int) != 46) = false := by simp; omega
             by_cases g2 : m = 0
             · have HZ : Hid (rdV s.data.toList = 0 ∧ rdK s.data.toList = 0) := HB.out (.inr (.inl g2))
               have g2' : ((E : Int) == D + 1) = true := by simp; omega
               clear hE hm ee hb g1 g2 hkl hml
               go_wp2_with fail
               refine (ce2 _).mono ?_
               rintro e w2 ⟨rfl, rfl⟩
               go_wp2_with fail
               go_ret2
               exact ⟨ret_ii HZ.out.1.symm HZ.out.2.symm, Ext.refl _⟩
             · have g2' : ((E : Int) == D + 1) = false := by simp; omega
               by_cases g3 : 40 < m
               · have HZ : Hid (rdV s.data.toList = 0 ∧ rdK s.data.toList = 0) := HB.out (.inr (.inr (.inl g3)))
                 have g3' : (40 : Int) < E - D - 1 := by omega
                 clear hE hm ee hb g1 g2 g3 hkl hml
                 go_wp2_with fail
                 refine (ce2 _).mono ?_
                 rintro e w2 ⟨rfl, rfl⟩
                 go_wp2_with fail
                 go_ret2
                 exact ⟨ret_ii HZ.out.1.symm HZ.out.2.symm, Ext.refl _⟩
               · have g3' : ¬ (40 : Int) < E - D - 1 := by omega
                 by_cases g4 : E < s.size
                 · have HZ : Hid (rdV s.data.toList = 0 ∧ rdK s.data.toList = 0) := HB.out (.inr (.inr (.inr g4)))
                   have g4' : (E : Int) < s.size := by omega
                   clear hE hm ee hb g1 g2 g3 hkl hml
                   go_wp2_with fail
                   refine (ce2 _).mono ?_
                   rintro e w2 ⟨rfl, rfl⟩
                   go_wp2_with fail
                   go_ret2
                   exact ⟨ret_ii HZ.out.1.symm HZ.out.2.symm, Ext.refl _⟩
                 · have g4' : ¬ (E : Int) < s.size := by omega
                   have HG : Hid (GoodL s.data.toList a k E) := good_at s a k D m E HR.out HK.out HD.out hn hm hE ha (by omega) (by omega) g1 (by omega) (by omega) g4 hml
                   clear hE hm ee hb g1 g2 g3 g4 hkl hml
                   go_wp2_with fail
                   refine (ce2 _).mono ?_
                   rintro e w2 ⟨rfl, rfl⟩
                   go_wp2_with fail
                   go_meet
                   case rel => exact ⟨E, rfl, HG, rfl⟩
           · have g1' : ((s[D].toNat : Int) != 46) = true := by simp; omega
             have HZ : Hid (rdV s.data.toList = 0 ∧ rdK s.data.toList = 0) := HB.out (.inl g1)
             clear hE hm ee hb g1 hkl hml
             go_wp2_with fail
             refine (ce2 _).mono ?_
             rintro e w2 ⟨rfl, rfl⟩
             go_wp2_with fail
             go_ret2
             exact ⟨ret_ii HZ.out.1.symm HZ.out.2.symm, Ext.refl _⟩
         · have HG : Hid (GoodL s.data.toList a k D) := by
             show GoodL _ _ _ _
             have HDo := HD.out
             rw [HDo]
             exact good_case1 HR.out (by omega) k HK.out (by omega) (by omega) (by omega)
           go_wp2_with fail
           go_meet
           case rel => exact ⟨D, rfl, HG, rfl⟩
       case rest =>
         obtain ⟨L, rfl, HG, rfl⟩ := hcut
         obtain ⟨_, g2, g3, _, _⟩ := HG.out
         rw [hl] at g2
         rw [← HD.out] at g3
         have l1 : (D : Int) ≤ L := by omega
         have l2 : (L : Int) ≤ s.size := by omega
         have l3 : (s.size : Int) ≤ 9223372036854775807 := by omega
         have a1 : a ≤ 1 := by rw [HM.out]; split <;> omega
         have l4 : (D : Int) ≤ 41 := by omega
         have HDg : Hid (∀ i (h : i < s.size), a ≤ i → i < L → i ≠ D → 48 ≤ s[i].toNat ∧ s[i].toNat ≤ 57) := by
           obtain ⟨_, _, _, q4, _⟩ := HG.out
           rw [← HD.out] at q4
           intro i h
           have := q4 i (by omega)
           rwa [get_list s i h] at this
         have HDa : Hid (a ≤ D) := by show a ≤ D; omega
         clear ce g3 a1 k1 k2 hb d1 hkl
         go_wp2_with fail
         go_loopw [8, 9] (fun g i wx => ∃ j : Nat, a ≤ j ∧ j ≤ D + 5 ∧ i = .int .i64 j ∧ g = .bool (grB (XN s.data.toList L D a j)) ∧ Hid (Ext wc wx ∧ Pair wx wc.heap.size (XN s.data.toList L D a j))) (fun _ i _ => D + 5 - (intOf i).toNat)
         case atStart => exact ⟨a, Nat.le_refl _, by have := HDa.out; omega, rfl, by rw [xn_zero]; rfl, (Ext.refl _).alloc _, by
           rw [xn_zero]; exact ⟨by simp, by simp; rfl, by simp; rfl, by simp, by simp⟩⟩
         case round =>
           obtain ⟨j, hj1, hj2, rfl, rfl, HP⟩ := hrel
           have hj3 : (j : Int) ≤ D + 5 := by omega
           by_cases hlt : j < D + 5
           · have hlt1 : (j : Int) < D + 5 := by omega
             by_cases hjD : j = D
             · have q1 : ((j : Int) == D) = true := by simp; omega
               have HX : Hid (XN s.data.toList L D a (j + 1) = XN s.data.toList L D a j) := by show _ = _; rw [hjD]; exact xn_dot HDa.out
               clear hjD
               go_wp2_with fail
               go_roundw
               case rel => exact ⟨j + 1, by omega, by omega, by go_num, by rw [HX.out], by rw [HX.out]; exact HP⟩
               case measure => simp [intOf]; omega
             · have q1 : ((j : Int) == D) = false := by simp; omega
               have HX : Hid (XN s.data.toList L D a (j + 1) = XN s.data.toList L D a j * 10 + fd s.data.toList L j) := xn_step hj1 hjD
               generalize XN s.data.toList L D a j = X at *
               have ct := fun W => times_w X W
               obtain ⟨z, c0, c1, f0, f1⟩ := HP.out.2
               by_cases hjL : j < L
               · have hjs : j < s.size := by omega
                 obtain ⟨e1, e2⟩ := HDg.out j hjs hj1 hjL hjD
                 have e3 : (48 : Int) ≤ s[j].toNat := by omega
                 have e4 : (s[j].toNat : Int) ≤ 57 := by omega
                 have hjL' : (j : Int) < L := by omega
                 have hF : fd s.data.toList L j = s[j].toNat - 48 := by rw [fd_digit hjL (by omega)]; rfl
                 rw [hF] at HX
                 have HG2 : Hid (grB (X * 10 + (s[j].toNat - 48)) = (grB X || decide ((1125899906842624 : Int) ≤ uhi ((X * 10 + (s[j].toNat - 48) : Nat) : Int)))) := gr_step X _ (by omega)
                 have cp := fun W => plusW_w ((X : Int) * 10) ((s[j].toNat - 48 : Nat) : Int) W
                 rw [(word_small (s[j].toNat - 48) (by omega)).1, (word_small (s[j].toNat - 48) (by omega)).2] at cp
                 have ed : ((s[j].toNat - 48 : Nat) : Int) = (s[j].toNat : Int) - 48 := by omega
                 have ex : (X : Int) * 10 + ((s[j].toNat : Int) - 48) = ((X * 10 + (s[j].toNat - 48) : Nat) : Int) := by omega
                 rw [ed, ex] at cp
                 generalize X * 10 + (s[j].toNat - 48) = Y at *
                 clear e1 e2 hF ed ex hjD hjL
                 go_wp2_with fail
                 refine (ct _).mono ?_
                 rintro e w2 ⟨rfl, E2⟩
                 go_wp2_with fail
                 refine (cp _).mono ?_
                 rintro e w3 ⟨rfl, E3⟩
                 have HP3 : Hid (Ext wc w3 ∧ Pair w3 wc.heap.size X) := ⟨(HP.out.1.trans E2).trans E3, (HP.out.2.ext E2).ext E3⟩
                 have HS : Hid (Ext wc ((w3.setCell ⟨wc.heap.size, 0, none⟩ (.int .u64 (uhi Y))).setCell ⟨wc.heap.size, 1, none⟩ (.int .u64 (loOf Y))) ∧ Pair ((w3.setCell ⟨wc.heap.size, 0, none⟩ (.int .u64 (uhi Y))).setCell ⟨wc.heap.size, 1, none⟩ (.int .u64 (loOf Y))) wc.heap.size Y) :=
                   ⟨(HP3.out.1.setCell (p := ⟨_, 0, none⟩) (Nat.le_refl _) _).setCell (p := ⟨_, 1, none⟩) (Nat.le_refl _) _, Pair.set HP3.out.2 _⟩
                 obtain ⟨z', c0', c1', f0', f1'⟩ := HP3.out.2
                 clear z c0 c1 f0 f1
                 cases hg : grB X
                 all_goals
                   rw [hg] at HG2
                   go_wp2_with fail
                   go_roundw
                   case rel => exact ⟨j + 1, by omega, by omega, by go_num, by rw [HX.out, HG2.out]; rfl, by rw [HX.out]; exact HS⟩
                   case measure => simp [intOf]; omega
               · have hjL' : ¬ (j : Int) < L := by omega
                 rw [fd_none hjL] at HX
                 have HG2 : Hid (grB (X * 10 + 0) = (grB X || decide ((1125899906842624 : Int) ≤ uhi ((X * 10 + 0 : Nat) : Int)))) := gr_step X 0 (by omega)
                 have cp := fun W => plusW_w ((X : Int) * 10) ((0 : Nat) : Int) W
                 rw [(word_small 0 (by omega)).1, (word_small 0 (by omega)).2, show ((0 : Nat) : Int) = 0 from rfl, show (X : Int) * 10 + 0 = ((X * 10 + 0 : Nat) : Int) by omega] at cp
                 generalize X * 10 + 0 = Y at *
                 clear hjD hjL
                 go_wp2_with fail
                 refine (ct _).mono ?_
                 rintro e w2 ⟨rfl, E2⟩
                 go_wp2_with fail
                 refine (cp _).mono ?_
                 rintro e w3 ⟨rfl, E3⟩
                 have HP3 : Hid (Ext wc w3 ∧ Pair w3 wc.heap.size X) := ⟨(HP.out.1.trans E2).trans E3, (HP.out.2.ext E2).ext E3⟩
                 have HS : Hid (Ext wc ((w3.setCell ⟨wc.heap.size, 0, none⟩ (.int .u64 (uhi Y))).setCell ⟨wc.heap.size, 1, none⟩ (.int .u64 (loOf Y))) ∧ Pair ((w3.setCell ⟨wc.heap.size, 0, none⟩ (.int .u64 (uhi Y))).setCell ⟨wc.heap.size, 1, none⟩ (.int .u64 (loOf Y))) wc.heap.size Y) :=
                   ⟨(HP3.out.1.setCell (p := ⟨_, 0, none⟩) (Nat.le_refl _) _).setCell (p := ⟨_, 1, none⟩) (Nat.le_refl _) _, Pair.set HP3.out.2 _⟩
                 obtain ⟨z', c0', c1', f0', f1'⟩ := HP3.out.2
                 clear z c0 c1 f0 f1
                 cases hg : grB X
                 all_goals
                   rw [hg] at HG2
                   go_wp2_with fail
                   go_roundw
                   case rel => exact ⟨j + 1, by omega, by omega, by go_num, by rw [HX.out, HG2.out]; rfl, by rw [HX.out]; exact HS⟩
                   case measure => simp [intOf]; omega
           · obtain rfl : j = D + 5 := by omega
             have HN : Hid (numB s.data.toList = true ∧ numN s.data.toList = XN s.data.toList L D a (D + 5) + (if D + 5 < L ∧ 53 ≤ (s.data.toList.getD (D + 5) 0).toNat then 1 else 0)) := by
               obtain ⟨q1, _, _, _, q5⟩ := HG.out
               refine ⟨q1, ?_⟩
               have HDo := HD.out
               unfold XN
               rw [q5, ← HDo, show D + 5 - a = k + 5 by omega]
             have HNeg : Hid (((a : Int) == 1) = minusB s.data.toList) := by
               show _ = _
               rw [HM.out]; cases minusB s.data.toList <;> rfl
             generalize XN s.data.toList L D a (D + 5) = X at *
             have hd5 : ((D + 5 : Nat) : Int) = (D : Int) + 5 := by omega
             obtain ⟨z, c0, c1, f0, f1⟩ := HP.out.2
             generalize hneg : ((a : Int) == 1) = neg at *
             by_cases h5 : D + 5 < L
             · have h5' : (D : Int) + 5 < L := by omega
               have hds : D + 5 < s.size := by omega
               have eg : (s.data.toList.getD (D + 5) 0) = s[D + 5] := by rw [getD_get _ _ (by omega)]; rfl
               rw [eg] at HN
               by_cases h53 : (53 : Int) ≤ s[D + 5].toNat
               · rw [if_pos ⟨h5, by omega⟩] at HN
                 have cS := fun W => signed_mod neg (X + 1) W
                 have HF1 : Hid (grB X = true → rdV s.data.toList = 0 ∧ rdK s.data.toList = 2) := fin_great HN.out.1 HN.out.2 (Nat.le_succ _)
                 have HF2 : Hid (grB X = false → sgnB ((X + 1) % 340282366920938463463374607431768211456) = false → rdV s.data.toList = 0 ∧ rdK s.data.toList = 2) := fin_not HN.out.1 HN.out.2 (Nat.le_refl _)
                 have HF3 : Hid (grB X = false → sgnB ((X + 1) % 340282366920938463463374607431768211456) = true → rdV s.data.toList = sgnV neg ((X + 1) % 340282366920938463463374607431768211456) ∧ rdK s.data.toList = 1) := fun h1 h2 => fin_is HN.out.1 HN.out.2 (Nat.le_refl _) h1 h2 HNeg.out
                 generalize sgnV neg ((X + 1) % 340282366920938463463374607431768211456) = V at *
                 generalize sgnB ((X + 1) % 340282366920938463463374607431768211456) = B at *
                 generalize grB X = G at *
                 have cp := fun W => plusW_w (X : Int) ((1 : Nat) : Int) W
                 rw [(word_small 1 (by omega)).1, (word_small 1 (by omega)).2, show ((1 : Nat) : Int) = 1 from rfl, show (X : Int) + 1 = ((X + 1 : Nat) : Int) by omega] at cp
                 generalize X + 1 = Y at *
                 go_wp2_with fail
                 refine (cp _).mono ?_
                 rintro e w3 ⟨rfl, E3⟩
                 have HP3 : Hid (Ext wc w3 ∧ Pair w3 wc.heap.size X) := ⟨HP.out.1.trans E3, HP.out.2.ext E3⟩
                 have HS : Hid (Ext wc ((w3.setCell ⟨wc.heap.size, 0, none⟩ (.int .u64 (uhi Y))).setCell ⟨wc.heap.size, 1, none⟩ (.int .u64 (loOf Y))) ∧ Pair ((w3.setCell ⟨wc.heap.size, 0, none⟩ (.int .u64 (uhi Y))).setCell ⟨wc.heap.size, 1, none⟩ (.int .u64 (loOf Y))) wc.heap.size Y) :=
                   ⟨(HP3.out.1.setCell (p := ⟨_, 0, none⟩) (Nat.le_refl _) _).setCell (p := ⟨_, 1, none⟩) (Nat.le_refl _) _, Pair.set HP3.out.2 _⟩
                 obtain ⟨z', c0', c1', f0', f1'⟩ := HP3.out.2
                 clear z c0 c1 f0 f1
                 go_wp2_with fail
                 refine (cS _).mono ?_
                 rintro e w4 ⟨rfl, E4⟩
                 cases G
                 · cases B
                   · have HFF := HF2.out rfl rfl
                     have HFH : Hid (rdV s.data.toList = 0 ∧ rdK s.data.toList = 2) := HFF
                     clear HFF HF1 HF2 HF3
                     go_wp2_with fail
                     go_ret2
                     exact ⟨ret_ii HFH.out.1.symm HFH.out.2.symm, HS.out.1.trans E4⟩
                   · have HFF := HF3.out rfl rfl
                     have HFH : Hid (rdV s.data.toList = V ∧ rdK s.data.toList = 1) := HFF
                     clear HFF HF1 HF2 HF3
                     go_wp2_with fail
                     go_ret2
                     exact ⟨ret_ii HFH.out.1.symm HFH.out.2.symm, HS.out.1.trans E4⟩
                 · have HFF := HF1.out rfl
                   have HFH : Hid (rdV s.data.toList = 0 ∧ rdK s.data.toList = 2) := HFF
                   clear HFF HF1 HF2 HF3
                   go_wp2_with fail
                   go_ret2
                   exact ⟨ret_ii HFH.out.1.symm HFH.out.2.symm, HS.out.1.trans E4⟩
               · rw [if_neg (fun h => h53 (by omega)), Nat.add_zero] at HN
                 have cS := fun W => signed_mod neg (X) W
                 have HF1 : Hid (grB X = true → rdV s.data.toList = 0 ∧ rdK s.data.toList = 2) := fin_great HN.out.1 HN.out.2 (Nat.le_refl _)
                 have HF2 : Hid (grB X = false → sgnB ((X) % 340282366920938463463374607431768211456) = false → rdV s.data.toList = 0 ∧ rdK s.data.toList = 2) := fin_not HN.out.1 HN.out.2 (by omega)
                 have HF3 : Hid (grB X = false → sgnB ((X) % 340282366920938463463374607431768211456) = true → rdV s.data.toList = sgnV neg ((X) % 340282366920938463463374607431768211456) ∧ rdK s.data.toList = 1) := fun h1 h2 => fin_is HN.out.1 HN.out.2 (by omega) h1 h2 HNeg.out
                 generalize sgnV neg ((X) % 340282366920938463463374607431768211456) = V at *
                 generalize sgnB ((X) % 340282366920938463463374607431768211456) = B at *
                 generalize grB X = G at *
                 go_wp2_with fail
                 refine (cS _).mono ?_
                 rintro e w4 ⟨rfl, E4⟩
                 cases G
                 · cases B
                   · have HFF := HF2.out rfl rfl
                     have HFH : Hid (rdV s.data.toList = 0 ∧ rdK s.data.toList = 2) := HFF
                     clear HFF HF1 HF2 HF3
                     go_wp2_with fail
                     go_ret2
                     exact ⟨ret_ii HFH.out.1.symm HFH.out.2.symm, HP.out.1.trans E4⟩
                   · have HFF := HF3.out rfl rfl
                     have HFH : Hid (rdV s.data.toList = V ∧ rdK s.data.toList = 1) := HFF
                     clear HFF HF1 HF2 HF3
                     go_wp2_with fail
                     go_ret2
                     exact ⟨ret_ii HFH.out.1.symm HFH.out.2.symm, HP.out.1.trans E4⟩
                 · have HFF := HF1.out rfl
                   have HFH : Hid (rdV s.data.toList = 0 ∧ rdK s.data.toList = 2) := HFF
                   clear HFF HF1 HF2 HF3
                   go_wp2_with fail
                   go_ret2
                   exact ⟨ret_ii HFH.out.1.symm HFH.out.2.symm, HP.out.1.trans E4⟩
             · have h5' : ¬ (D : Int) + 5 < L := by omega
               rw [if_neg (by omega), Nat.add_zero] at HN
               have cS := fun W => signed_mod neg (X) W
               have HF1 : Hid (grB X = true → rdV s.data.toList = 0 ∧ rdK s.data.toList = 2) := fin_great HN.out.1 HN.out.2 (Nat.le_refl _)
               have HF2 : Hid (grB X = false → sgnB ((X) % 340282366920938463463374607431768211456) = false → rdV s.data.toList = 0 ∧ rdK s.data.toList = 2) := fin_not HN.out.1 HN.out.2 (by omega)
               have HF3 : Hid (grB X = false → sgnB ((X) % 340282366920938463463374607431768211456) = true → rdV s.data.toList = sgnV neg ((X) % 340282366920938463463374607431768211456) ∧ rdK s.data.toList = 1) := fun h1 h2 => fin_is HN.out.1 HN.out.2 (by omega) h1 h2 HNeg.out
               generalize sgnV neg ((X) % 340282366920938463463374607431768211456) = V at *
               generalize sgnB ((X) % 340282366920938463463374607431768211456) = B at *
               generalize grB X = G at *
               go_wp2_with fail
               refine (cS _).mono ?_
               rintro e w4 ⟨rfl, E4⟩
               cases G
               · cases B
                 · have HFF := HF2.out rfl rfl
                   have HFH : Hid (rdV s.data.toList = 0 ∧ rdK s.data.toList = 2) := HFF
                   clear HFF HF1 HF2 HF3
                   go_wp2_with fail
                   go_ret2
                   exact ⟨ret_ii HFH.out.1.symm HFH.out.2.symm, HP.out.1.trans E4⟩
                 · have HFF := HF3.out rfl rfl
                   have HFH : Hid (rdV s.data.toList = V ∧ rdK s.data.toList = 1) := HFF
                   clear HFF HF1 HF2 HF3
                   go_wp2_with fail
                   go_ret2
                   exact ⟨ret_ii HFH.out.1.symm HFH.out.2.symm, HP.out.1.trans E4⟩
               · have HFF := HF1.out rfl
                 have HFH : Hid (rdV s.data.toList = 0 ∧ rdK s.data.toList = 2) := HFF
                 clear HFF HF1 HF2 HF3
                 go_wp2_with fail
                 go_ret2
                 exact ⟨ret_ii HFH.out.1.symm HFH.out.2.symm, HP.out.1.trans E4⟩
open Go.RowKit
theorem zs_add (i j : Nat) : zs i ++ zs j = zs (i + j) := by simp [zs]
theorem take_zs (i j : Nat) (h : j ≤ i) : (zs i).take j = zs j := by simp [zs, List.take_replicate]; omega
theorem four_pad (f : List UInt8) (j k : Nat) (h : f.length + k = 4) : four (f ++ zs j) = f ++ zs k := by
 unfold four
 rw [List.append_assoc, zs_add, List.take_append, List.take_of_length_le (by omega), take_zs _ _ (by omega), show 4 - f.length = k by omega]
theorem rnd_pad (f : List UInt8) (j : Nat) (h : f.length ≤ 4) : rndN (f ++ zs j) = 0 := by
 rw [fifth_get, if_neg]
 rintro ⟨h1, h2⟩
 rw [List.getD_eq_getElem?_getD, List.getElem?_append, if_neg (by omega)] at h2
 rw [List.length_append, len_zs] at h1
 rw [List.getElem?_eq_getElem (by rw [len_zs]; omega), zs_get] at h2
 exact absurd h2 (by decide)
theorem size_plain (c : UInt8) (x : List UInt8) (h : dgB c = true) : minusB (c :: x) = false ∧ sizeL (c :: x) = c :: x := by
 have hc : c ≠ 45 := by intro e; subst e; exact absurd h (by decide)
 have : minusB (c :: x) = false := by
   show ((some c : Option UInt8) == some 45) = false
   simpa using hc
 exact ⟨this, by unfold sizeL; rw [this]; rfl⟩
theorem size_plain' (A x : List UInt8) (h : A.all dgB = true) (h1 : 1 ≤ A.length) : minusB (A ++ x) = false ∧ sizeL (A ++ x) = A ++ x := by
 cases A with
 | nil => simp at h1
 | cons c A => rw [List.all_cons, Bool.and_eq_true] at h; exact size_plain c _ h.1
theorem size_minus (x : List UInt8) : minusB (45 :: x) = true ∧ sizeL (45 :: x) = x := ⟨rfl, rfl⟩
def sgnL (neg : Bool) (x : List UInt8) : List UInt8 := if neg then 45 :: x else x
theorem sgn_parts (neg : Bool) (A x : List UInt8) (h : A.all dgB = true) (h1 : 1 ≤ A.length) : minusB (sgnL neg (A ++ x)) = neg ∧ sizeL (sgnL neg (A ++ x)) = A ++ x := by
 cases neg
 · exact size_plain' A x h h1
 · exact size_minus _
theorem num_bare (neg : Bool) (A : List UInt8) (hA : okD A = true) : numB (sgnL neg A) = true ∧ numN (sgnL neg A) = nv A [] ∧ minusB (sgnL neg A) = neg := by
 have a := okD_bd hA
 have a1 : 1 ≤ A.length := ((ok_iff A).1 hA).1.1
 obtain ⟨m, z⟩ := sgn_parts neg A [] a.2 a1
 rw [List.append_nil] at m z
 obtain ⟨d1, d2, d3⟩ := dot_no a.2
 refine ⟨?_, ?_, m⟩
 · unfold numB; rw [z, d1, d2, hA]; rfl
 · unfold numN; rw [z, d2, d3]
theorem nv_pad (i j q r : Nat) (hr : r < 10000) : nv (zs i ++ Lib.decDigits q) (fracL r ++ zs j) = q * 10000 + r := by
 obtain ⟨k, hk, hl⟩ := frac_back r hr
 unfold nv
 rw [four_pad _ _ k hl, rnd_pad _ _ (by omega), ← hk, List.append_assoc, val_append, val_zs, val_append, dec_val, F4_val r hr]
 simp [F4]
theorem nv_bare (q : Nat) : nv (Lib.decDigits q) [] = q * 10000 := by
 have := nv_pad 0 0 q 0 (by omega)
 rw [frac_zero] at this
 simpa [zs] using this
end Go.Proofs.Ytjhmbkdkjgjoaaa

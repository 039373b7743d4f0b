import Derived.WalkKit
import Derived.WalkSpells
import Derived.Deep.QuietTactic
import Derived.BigQuiet
import Derived.Shelf.Spec.BitsCarry
import Derived.Deep.RegionHeld3
import Derived.Lib.ItoaNum
import Derived.Lib.Strings
import Derived.Test.YtjhmbkdkjgjoaaaRows
import Derived.Laws.Externs
namespace Go.Proofs.Ytjhmbkdkjgjoaaa
open Go.RowKit
def canB (a : Int) : Bool := a != -9223372036854775808
def absI (a : Int) : Int := if a < 0 then -a else a
def loOf (x : Int) : Int := x % 18446744073709551616
def I64 (a : Int) : Prop := -9223372036854775808 ≤ a ∧ a ≤ 9223372036854775807
def U64 (a : Int) : Prop := 0 ≤ a ∧ a < 18446744073709551616
theorem i64_of_wf {x : Int} (h : (Lit.int .i64 x).wf = true) : I64 x := by
 simp [Lit.wf, IntKind.min, IntKind.max, IntKind.signed, IntKind.bits] at h
 exact ⟨by omega, by omega⟩
theorem ret_int {k : IntKind} {a b : Int} (h : a = b) : Ending.returned (.int k a) = .returned (.int k b) := by rw [h]
theorem ret_bool {a b : Bool} (h : a = b) : Ending.returned (.bool a) = .returned (.bool b) := by rw [h]
theorem ret_ib {k : IntKind} {a b : Int} {x y : Bool} (h : a = b) (g : x = y) : Ending.returned (.tuple #[.int k a, .bool x]) = .returned (.tuple #[.int k b, .bool y]) := by rw [h, g]
theorem ret_ii {k l : IntKind} {a b x y : Int} (h : a = b) (g : x = y) : Ending.returned (.tuple #[.int k a, .int l x]) = .returned (.tuple #[.int k b, .int l y]) := by rw [h, g]
theorem wrapU (x : Int) : IntKind.u64.wrap x = x % 18446744073709551616 := IntKind.wrap_u64 x
def uhi (x : Int) : Int := (x / 18446744073709551616) % 18446744073709551616
theorem lo_bd (x : Int) : U64 (loOf x) := by unfold loOf; exact ⟨by omega, by omega⟩
theorem uhi_bd (x : Int) : U64 (uhi x) := by unfold uhi; exact ⟨by omega, by omega⟩
def Ext (w w' : World) : Prop := Below w.heap.size w w'
theorem Ext.refl (w : World) : Ext w w := Below.refl _ _
theorem Ext.trans {a b c : World} (h : Ext a b) (k : Ext b c) : Ext a c := Below.trans h (Below.mono k h.size)
theorem Ext.drew {a w : World} (h : Ext a w) : Ext a w.drew := Below.drew h
theorem Ext.drewN {a w : World} (h : Ext a w) (n : Nat) : Ext a (w.drewN n) := h.trans ⟨rfl, rfl, rfl, Nat.le_refl _, fun _ _ => rfl⟩
theorem Ext.alloc {a w : World} (h : Ext a w) (o : Obj) : Ext a (w.alloc o) := Below.alloc h h.size o
theorem Ext.setCell {a w : World} (h : Ext a w) {p : Addr} (hp : a.heap.size ≤ p.block) (u : Value) : Ext a (w.setCell p u) := Below.setCell h hp u
theorem Ext.cell {w w1 : World} (hb : Ext w w1) : (∀ b o, b < w.heap.size → w1.cell? ⟨b, o, none⟩ = w.cell? ⟨b, o, none⟩) ∧ (∀ b o, b < w.heap.size → w1.frozen? ⟨b, o, none⟩ = w.frozen? ⟨b, o, none⟩) :=
 ⟨fun b o h => Below.cell hb (p := ⟨b, o, none⟩) h, fun b o h => Below.frozen hb (p := ⟨b, o, none⟩) h⟩
theorem Ext.sz {w w' : World} (h : Ext w w') : w.heap.size ≤ w'.heap.size := h.size
open Go.RowKit
def dgB (c : UInt8) : Bool := decide (48 ≤ c.toNat ∧ c.toNat ≤ 57)
def val (l : List UInt8) : Nat := l.foldl (fun n c => n * 10 + (c.toNat - 48)) 0
def okD (l : List UInt8) : Bool := decide (1 ≤ l.length ∧ l.length ≤ 40) && l.all dgB
def zs (n : Nat) : List UInt8 := List.replicate n 48
def minusB (l : List UInt8) : Bool := l.head? == some 45
def sizeL (l : List UInt8) : List UInt8 := if minusB l then l.tail else l
def cutA (l : List UInt8) : List UInt8 := l.takeWhile (fun c => c != 46)
def cutB (l : List UInt8) : List UInt8 := (l.dropWhile (fun c => c != 46)).tail
def dotB (l : List UInt8) : Bool := l.any (fun c => c == 46)
def four (b : List UInt8) : List UInt8 := (b ++ zs 5).take 4
def fifth (b : List UInt8) : UInt8 := (b ++ zs 5).getD 4 0
def rndN (b : List UInt8) : Nat := if 53 ≤ (fifth b).toNat then 1 else 0
def nv (a b : List UInt8) : Nat := val (a ++ four b) + rndN b
def numB (l : List UInt8) : Bool := okD (cutA (sizeL l)) && (!dotB (sizeL l) || okD (cutB (sizeL l)))
def numN (l : List UInt8) : Nat := nv (cutA (sizeL l)) (cutB (sizeL l))
def rdK (l : List UInt8) : Int := if numB l then (if numN l ≤ 9223372036854775807 then 1 else 2) else 0
def rdV (l : List UInt8) : Int := if numB l && decide (numN l ≤ 9223372036854775807) then (if minusB l then -(numN l : Int) else numN l) else 0
theorem val_snoc (l : List UInt8) (c : UInt8) : val (l ++ [c]) = val l * 10 + (c.toNat - 48) := by simp [val, List.foldl_append]
theorem val_from (b : List UInt8) (n : Nat) : b.foldl (fun n c => n * 10 + (c.toNat - 48)) n = n * 10 ^ b.length + val b := by
 induction b generalizing n with
 | nil => simp [val]
 | cons c b ih =>
   simp only [val, List.foldl_cons, List.length_cons] at ih ⊢
   rw [ih, ih (0 * 10 + _), Nat.pow_succ, Nat.add_mul, Nat.mul_assoc, Nat.mul_comm 10 (10 ^ b.length), Nat.zero_mul, Nat.zero_add]
   omega
theorem val_append (a b : List UInt8) : val (a ++ b) = val a * 10 ^ b.length + val b := by
 unfold val; rw [List.foldl_append, val_from]; rfl
theorem dg_bd {c : UInt8} (h : dgB c = true) : 48 ≤ c.toNat ∧ c.toNat ≤ 57 := by simpa [dgB] using h
theorem val_zs (n : Nat) : val (zs n) = 0 := by
 induction n with
 | zero => rfl
 | succ n ih => rw [zs, List.replicate_succ', val_snoc]; unfold zs at ih; rw [ih]; rfl
theorem val_take_succ (l : List UInt8) (k : Nat) (h : k < l.length) : val (l.take (k + 1)) = val (l.take k) * 10 + (l[k].toNat - 48) := by
 rw [List.take_succ_eq_append_getElem h, val_snoc]
theorem len_zs (n : Nat) : (zs n).length = n := by simp [zs]
theorem dg_ofNat {d : Nat} (h : d < 10) : dgB (UInt8.ofNat (48 + d)) = true ∧ (UInt8.ofNat (48 + d)).toNat = 48 + d := by
 have e : (UInt8.ofNat (48 + d)).toNat = 48 + d := by simp [UInt8.toNat_ofNat]; omega
 exact ⟨by unfold dgB; rw [e]; simp; omega, e⟩
open Go.Lib in
theorem dec_all (u : Nat) : (decDigits u).all dgB = true := by
 induction u using Nat.strongRecOn with
 | _ u ih =>
   by_cases h : u < 10
   · rw [decDigits, dif_pos h]; rw [List.all_cons, (dg_ofNat h).1]; rfl
   · rw [decDigits, dif_neg h, List.all_append, ih (u / 10) (by omega)]
     rw [List.all_cons, (dg_ofNat (d := u % 10) (by omega)).1]; rfl
open Go.Lib in
theorem dec_val (u : Nat) : val (decDigits u) = u := by
 induction u using Nat.strongRecOn with
 | _ u ih =>
   by_cases h : u < 10
   · rw [decDigits, dif_pos h]; show val ([] ++ [_]) = u; rw [val_snoc, (dg_ofNat h).2]; simp [val]
   · rw [decDigits, dif_neg h, val_snoc, ih (u / 10) (by omega), (dg_ofNat (d := u % 10) (by omega)).2]; omega
open Go.Lib in
theorem dec_len (u k : Nat) (h : u < 10 ^ (k + 1)) : 1 ≤ (decDigits u).length ∧ (decDigits u).length ≤ k + 1 := by
 rw [decDigits_length]
 refine ⟨nDigits_pos u, ?_⟩
 induction k generalizing u with
 | zero => rw [nDigits_small (by simpa using h)]; omega
 | succ k ih =>
   by_cases hu : u < 10
   · rw [nDigits_small hu]; omega
   · rw [nDigits_big hu]
     have := ih (u / 10) (by rw [Nat.pow_succ] at h; omega)
     omega
open Go.RowKit
def bs (l : List UInt8) : ByteArray := ⟨l.toArray⟩
theorem bs_list (l : List UInt8) : (bs l).data.toList = l := rfl
theorem bs_size (l : List UInt8) : (bs l).size = l.length := by simp [bs, ByteArray.size]
open Go.RowKit
def letB (c : UInt8) : Bool := decide (65 ≤ c.toNat ∧ c.toNat ≤ 90 ∨ 97 ≤ c.toNat ∧ c.toNat ≤ 122 ∨ c.toNat = 36)
def inW (c : UInt8) : Bool := letB c || dgB c || c == 95
def run (p : UInt8 → Bool) (l : List UInt8) : Nat := (l.takeWhile p).length
def numE (l : List UInt8) : Nat :=
 if l[run dgB l]? = some 46 ∧ 0 < run dgB (l.drop (run dgB l + 1)) then run dgB l + 1 + run dgB (l.drop (run dgB l + 1)) else run dgB l
def txt : List UInt8 → Option (List UInt8 × Nat)
 | [] => none
 | [c] => if c = 34 then some ([], 1) else none
 | c :: d :: r => if c = 34 then (if d = 34 then (txt r).map (fun x => (34 :: x.1, x.2 + 2)) else some ([], 1)) else (txt (d :: r)).map (fun x => (c :: x.1, x.2 + 1))
def errsL : List (Int × List UInt8) := [(1, [35, 82, 69, 70, 33]), (2, [35, 86, 65, 76, 85, 69, 33]), (3, [35, 68, 73, 86, 47, 48, 33]), (4, [35, 78, 85, 77, 33]), (5, [35, 67, 89, 67, 76, 69, 33])]
def errT (l : List UInt8) : Option (Int × List UInt8) := errsL.find? (fun x => x.2.isPrefixOf l)
def sgsL : List (List UInt8) := [[60, 62], [60, 61], [62, 61], [60], [62], [61], [43], [45], [42], [47], [38], [40], [41], [44], [58]]
def sgT (l : List UInt8) : Option (List UInt8) := sgsL.find? (fun p => p.isPrefixOf l)
abbrev Wd := Int × List UInt8 × Int × Int × Nat
def nuRL (l : List UInt8) : Except Int Wd := if rdK (l.take (numE l)) = 0 then .error 4 else if rdK (l.take (numE l)) = 2 then .error 2 else .ok (0, [], rdV (l.take (numE l)), 0, numE l)
def txtR (l : List UInt8) : Except Int Wd := match txt l.tail with
 | none => .error 4
 | some x => .ok (1, x.1, 0, 0, x.2 + 1)
def wdR (l : List UInt8) : Except Int Wd := .ok (2, l.take (run inW l), 0, 0, run inW l)
def errR (l : List UInt8) : Except Int Wd := match errT l with
 | none => .error 4
 | some x => .ok (4, [], 0, x.1, x.2.length)
def sgR (l : List UInt8) : Except Int Wd := match sgT l with
 | none => .error 4
 | some p => .ok (3, p, 0, 0, p.length)
def nxt (l : List UInt8) : Except Int Wd :=
 match l.head? with
 | none => .error 4
 | some c => if dgB c then nuRL l else if c = 34 then txtR l else if letB c then wdR l else if c = 35 then errR l else sgR l
abbrev Tk := Int × Int × List UInt8 × Int × Int
def tkOf (x : Wd) (p : Nat) : Tk := (x.1, (p : Int), x.2.1, x.2.2.1, x.2.2.2.1)
def endT (p : Nat) : Tk := (5, (p : Int), [], 0, 0)
def wds : Nat → Nat → List UInt8 → Except (Nat × Int) (List Tk)
 | 0, _, _ => .ok []
 | _ + 1, p, [] => .ok [endT p]
 | f + 1, p, c :: r => if c = 32 then wds f (p + 1) r else
   match nxt (c :: r) with
   | .error e => .error (p, e)
   | .ok x => (wds f (p + x.2.2.2.2) ((c :: r).drop x.2.2.2.2)).map (fun ts => tkOf x p :: ts)
def W (p : Nat) (l : List UInt8) : Except (Nat × Int) (List Tk) := wds (l.length + 1) p l
def lexR (l : List UInt8) : List Tk × Int × Int :=
 if 300 < l.length then ([], 0, 2) else match W 0 l with
   | .ok ts => (ts, 0, 0)
   | .error x => ([], (x.1 : Int), x.2)
theorem runL_le (p : UInt8 → Bool) (l : List UInt8) : run p l ≤ l.length := by
 unfold run; exact (List.takeWhile_prefix p).length_le
theorem run_cons (p : UInt8 → Bool) (c : UInt8) (l : List UInt8) : run p (c :: l) = if p c then run p l + 1 else 0 := by
 unfold run; rw [List.takeWhile_cons]; split <;> simp
theorem run_nil (p : UInt8 → Bool) : run p [] = 0 := rfl
theorem numE_le (l : List UInt8) : numE l ≤ l.length := by
 unfold numE
 split
 · rename_i h
   have h1 := runL_le dgB (l.drop (run dgB l + 1))
   have h2 : run dgB l < l.length := (List.getElem?_eq_some_iff.mp h.1).1
   simp at h1; omega
 · exact runL_le _ _
theorem numE_ge (l : List UInt8) : run dgB l ≤ numE l := by unfold numE; split <;> omega
theorem txt_le : ∀ (l : List UInt8) (x : List UInt8 × Nat), txt l = some x → 1 ≤ x.2 ∧ x.2 ≤ l.length
 | [], x, h => by simp [txt] at h
 | [c], x, h => by
   unfold txt at h
   split at h
   · cases h; simp
   · cases h
 | c :: d :: r, x, h => by
   unfold txt at h
   split at h
   · split at h
     · rw [Option.map_eq_some_iff] at h
       obtain ⟨y, hy, rfl⟩ := h
       have := txt_le r y hy
       simp; omega
     · cases h; simp
   · rw [Option.map_eq_some_iff] at h
     obtain ⟨y, hy, rfl⟩ := h
     have := txt_le (d :: r) y hy
     simp at this ⊢; omega
theorem errT_le {l : List UInt8} {x : Int × List UInt8} (h : errT l = some x) : 1 ≤ x.2.length ∧ x.2.length ≤ l.length := by
 unfold errT at h
 have h1 := List.find?_some h
 have h2 := List.mem_of_find?_eq_some h
 refine ⟨?_, ?_⟩
 · simp [errsL] at h2; rcases h2 with rfl | rfl | rfl | rfl | rfl <;> simp
 · exact (List.isPrefixOf_iff_prefix.mp h1).length_le
theorem sgT_le {l p : List UInt8} (h : sgT l = some p) : 1 ≤ p.length ∧ p.length ≤ l.length ∧ l.take p.length = p := by
 unfold sgT at h
 have h1 := List.find?_some h
 have h2 := List.mem_of_find?_eq_some h
 refine ⟨?_, (List.isPrefixOf_iff_prefix.mp h1).length_le, ?_⟩
 · simp [sgsL] at h2; rcases h2 with rfl | rfl | rfl | rfl | rfl | rfl | rfl | rfl | rfl | rfl | rfl | rfl | rfl | rfl | rfl <;> simp
 · obtain ⟨t, ht⟩ := List.isPrefixOf_iff_prefix.mp h1
   rw [← ht, List.take_left]
theorem nxt_cons (c : UInt8) (r : List UInt8) : nxt (c :: r) = if dgB c then nuRL (c :: r) else if c = 34 then txtR (c :: r) else if letB c then wdR (c :: r) else if c = 35 then errR (c :: r) else sgR (c :: r) := rfl
theorem nxt_pos {l : List UInt8} {x : Wd} (h : nxt l = .ok x) : 1 ≤ x.2.2.2.2 ∧ x.2.2.2.2 ≤ l.length := by
 cases l with
 | nil => cases h
 | cons c r =>
   rw [nxt_cons] at h
   split at h
   · rename_i hd
     unfold nuRL at h
     split at h
     · cases h
     · split at h
       · cases h
       · cases h
         have h1 := numE_le (c :: r)
         have h2 := numE_ge (c :: r)
         rw [run_cons, if_pos hd] at h2
         exact ⟨by simp only []; omega, h1⟩
   · split at h
     · unfold txtR at h
       split at h
       · cases h
       · rename_i x hx
         cases h
         have := txt_le _ _ hx
         simp at this ⊢; omega
     · split at h
       · rename_i hl
         unfold wdR at h
         cases h
         have := runL_le inW (c :: r)
         refine ⟨?_, this⟩
         simp only [run_cons]
         rw [if_pos (by unfold inW; rw [hl]; rfl)]; omega
       · split at h
         · unfold errR at h
           split at h
           · cases h
           · rename_i x hx
             cases h
             exact errT_le hx
         · unfold sgR at h
           split at h
           · cases h
           · rename_i x hx
             cases h
             exact ⟨(sgT_le hx).1, (sgT_le hx).2.1⟩
theorem wds_more (f : Nat) : ∀ (g p : Nat) (l : List UInt8), l.length < f → l.length < g → wds f p l = wds g p l := by
 induction f with
 | zero => intro g p l h; omega
 | succ f ih =>
   intro g p l hf hg
   cases g with
   | zero => omega
   | succ g =>
     cases l with
     | nil => rfl
     | cons c r =>
       unfold wds
       simp at hf hg
       split
       · exact ih g _ _ (by omega) (by omega)
       · split
         · rfl
         · rename_i x hx
           have h1 := nxt_pos hx
           simp at h1
           rw [ih g]
           · simp; omega
           · simp; omega
theorem W_nil (p : Nat) : W p [] = .ok [endT p] := rfl
theorem W_blank (p : Nat) (r : List UInt8) : W p (32 :: r) = W (p + 1) r := rfl
theorem W_cons (p : Nat) (c : UInt8) (r : List UInt8) (h : ¬ c = 32) : W p (c :: r) = match nxt (c :: r) with
   | .error e => .error (p, e)
   | .ok x => (W (p + x.2.2.2.2) ((c :: r).drop x.2.2.2.2)).map (fun ts => tkOf x p :: ts) := by
 unfold W
 conv => lhs; unfold wds
 rw [if_neg h]
 cases hx : nxt (c :: r) with
 | error e => rfl
 | ok x =>
   have h1 := nxt_pos hx
   simp at h1
   simp only []
   rw [wds_more _ (((c :: r).drop x.2.2.2.2).length + 1)]
   · simp; omega
   · simp
open Go.RowKit
def kn1 : List (List UInt8) := [[83, 85, 77], [67, 79, 85, 78, 84], [77, 73, 78], [77, 65, 88], [65, 86, 69, 82, 65, 71, 69], [65, 78, 68], [79, 82], [67, 79, 78, 67, 65, 84]]
def kn2 : List (List UInt8) := [[73, 70], [73, 78, 68, 69, 88]]
def kn3 : List (List UInt8) := [[82, 79, 85, 78, 68], [77, 79, 68], [73, 70, 69, 82, 82, 79, 82]]
def kn4 : List (List UInt8) := [[76, 69, 70, 84]]
def kn5 : List (List UInt8) := [[78, 79, 84], [65, 66, 83], [70, 76, 79, 79, 82], [83, 81, 82, 84], [76, 69, 78], [73, 83, 69, 82, 82, 79, 82]]
def kno (s : List UInt8) : Option (Nat × Nat) :=
 if s ∈ kn1 then some (1, 20) else if s ∈ kn2 then some (2, 3) else if s ∈ kn3 then some (2, 2) else if s ∈ kn4 then some (1, 2) else if s ∈ kn5 then some (1, 1) else none
def knA (s : List UInt8) : Int := match kno s with
 | some (a, _) => (a : Int)
 | none => 0
def knB (s : List UInt8) : Int := match kno s with
 | some (_, b) => (b : Int)
 | none => 0
open Go.RowKit
set_option maxHeartbeats 400000
theorem rcan_any (a : Int) (w : World) : Calls Try.prog 57 #[.int .i64 a] w fun e w' => e = .returned (.bool (canB a)) ∧ w' = w := by
 go_enter Try.func57, Try.ntmps57
 go_wp2
 go_ret
 exact ⟨rfl, rfl⟩
theorem rsize_any (a : Int) (ha : I64 a) (w : World) : Calls Try.prog 58 #[.int .i64 a] w fun e w' => e = .returned (.int .u64 (absI a)) ∧ w' = w := by
 obtain ⟨_, _⟩ := ha
 go_enter Try.func58, Try.ntmps58
 go_wp2
 all_goals go_ret
 · exact ⟨ret_int (by unfold absI; omega), rfl⟩
 · exact ⟨ret_int (by unfold absI; omega), rfl⟩
theorem plusW_any (ah al bh bl : Int) (h1 : U64 ah) (h2 : U64 al) (h3 : U64 bh) (h4 : U64 bl) (w : World) : Calls Try.prog 86 #[.agg #[.int .u64 ah, .int .u64 al], .agg #[.int .u64 bh, .int .u64 bl]] w fun e w' => e = .returned (.agg #[.int .u64 (uhi ((ah + bh) * 18446744073709551616 + (al + bl))), .int .u64 (loOf (al + bl))]) ∧ Ext w w' := by
 obtain ⟨a1, a2⟩ := h1; obtain ⟨b1, b2⟩ := h2; obtain ⟨c1, c2⟩ := h3; obtain ⟨d1, d2⟩ := h4
 go_enter Try.func86, Try.ntmps86
 go_wp2
 all_goals
   simp [bodyPost, results, Try.results86, go_sem]
   exact ⟨⟨by simp only [wrapU] at *; unfold uhi; omega, by first | (rw [wrapU]; rfl) | (unfold loOf; omega)⟩, by repeat (first | exact Ext.refl _ | apply Ext.drewN | apply Ext.drew | apply Ext.alloc | refine Ext.setCell ?_ (by simp) _)⟩
theorem plusW_w (x y : Int) (w : World) : Calls Try.prog 86 #[.agg #[.int .u64 (uhi x), .int .u64 (loOf x)], .agg #[.int .u64 (uhi y), .int .u64 (loOf y)]] w fun e w' => e = .returned (.agg #[.int .u64 (uhi (x + y)), .int .u64 (loOf (x + y))]) ∧ Ext w w' := by
 have e1 : uhi ((uhi x + uhi y) * 18446744073709551616 + (loOf x + loOf y)) = uhi (x + y) := by unfold uhi loOf; omega
 have e2 : loOf (loOf x + loOf y) = loOf (x + y) := by unfold loOf; omega
 rw [← e1, ← e2]
 exact plusW_any _ _ _ _ (uhi_bd x) (lo_bd x) (uhi_bd y) (lo_bd y) w
open Go.RowKit
set_option maxHeartbeats 400000
open Go.RowKit
set_option maxHeartbeats 400000
end Go.Proofs.Ytjhmbkdkjgjoaaa

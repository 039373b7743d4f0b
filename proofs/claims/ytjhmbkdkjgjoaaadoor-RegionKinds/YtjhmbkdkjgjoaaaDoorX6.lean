/-
 Functions of many values (package fold) as plain data: what is met, the sum, the least, the greatest, the mean, truths, texts joined. No program in sight.
 Package fold: arguments in memory; which moves of a world leave what; the values that are gone through.
 Package region: Kind, and the document's.
 Formulas as words, as lists of bytes: which word begins a text, and which words a text has. Plain mathematics: no program in sight.
 How many arguments a function takes, by its name. No program in sight.
 The sheet and its rectangles, as plain data.
 Places as plain data: names of columns, references as texts, rectangles. Plain mathematics: no program in sight.
 A row's digits, as the code and as the document read them. Plain mathematics: no program in sight.
-/
import Derived.Test.YtjhmbkdkjgjoaaaDoorX5
import Derived.Deep.DeepCutAuto
import Derived.Deep.Light
import Derived.Deep.CutBlock
import Derived.Test.YtjhmbkdkjgjoaaaDoorX3
import Derived.Test.YtjhmbkdkjgjoaaaDoorX1
import Derived.Lib.IndexAny
namespace Go.Proofs.YtjhmbkdkjgjoaaaDoor
open Go.RowKit

/-- A value's four fields as they lie in memory. -/
structure Rw where
 k : Int
 n : Int
 s : ByteArray
 e : Int
def Rw.v (r : Rw) : V := nm r.k r.n r.s r.e
/-- An argument: an area or not, and its values. -/
structure Ag where
 area : Bool
 l : List Rw
/-- The value of an argument that is no area. -/
def one1 : List Rw → V
 | [] => .blank
 | r :: _ => r.v
/-- What is shown on: neither a Blank nor an error. -/
def goes (v : V) : Bool := !(v.k == 0) && !(v.k == 4)
/-- The first error, or a Blank. -/
def bad (f : V → Bool → V) : List (V × Bool) → V
 | [] => .blank
 | p :: l => if (f p.1 p.2).k = 4 then f p.1 p.2 else bad f l
/-! ### One more at the end -/
/-! ### What comes of the values -/
/-! ### The order does not matter -/
/-! ### The mean is between -/

open Go.RowKit
set_option maxHeartbeats 1000000

/-- The slice v holds the values l, in a block below B. -/
def RdV (B : Nat) (W : World) (v : Value) (l : List Rw) : Prop :=
 ∃ p c, v = .slice p l.length c ∧ l.length ≤ c ∧ (l = [] ∨ ∃ b off, p = some ⟨b, off, none⟩ ∧ b < B ∧ b < W.heap.size ∧ ∀ i r, l[i]? = some r →
   W.cell? ⟨b, off + i * 4, none⟩ = some (.int .i64 r.k) ∧ W.cell? ⟨b, off + i * 4 + 1, none⟩ = some (.int .i64 r.n) ∧ W.cell? ⟨b, off + i * 4 + 2, none⟩ = some (.string r.s) ∧ W.cell? ⟨b, off + i * 4 + 3, none⟩ = some (.int .i64 r.e))
theorem RdV.low {B : Nat} {W W' : World} {v : Value} {l : List Rw} (h : RdV B W v l) (e : Below B W W') : RdV B W' v l := by
 obtain ⟨p, c, h1, h2, h3⟩ := h
 refine ⟨p, c, h1, h2, ?_⟩
 rcases h3 with h3 | ⟨b, off, h3, h4, h5, h6⟩
 · exact .inl h3
 · refine .inr ⟨b, off, h3, h4, Nat.lt_of_lt_of_le h5 e.size, fun i r hr => ?_⟩
   have k := fun o => Below.cell e (p := ⟨b, o, none⟩) h4
   obtain ⟨k0, k1, k2, k3⟩ := h6 i r hr
   exact ⟨(k _).trans k0, (k _).trans k1, (k _).trans k2, (k _).trans k3⟩
theorem RdV.up {B B' : Nat} {W : World} {v : Value} {l : List Rw} (h : RdV B W v l) (e : B ≤ B') : RdV B' W v l := by
 obtain ⟨p, c, h1, h2, h3⟩ := h
 refine ⟨p, c, h1, h2, ?_⟩
 rcases h3 with h3 | ⟨b, off, h3, h4, h5⟩
 · exact .inl h3
 · exact .inr ⟨b, off, h3, Nat.lt_of_lt_of_le h4 e, h5⟩
theorem RdV.at {B : Nat} {W : World} {p : Option Addr} {c n : Nat} {l : List Rw} (h : RdV B W (.slice p n c) l) {i : Nat} (hi : i < l.length) :
   ∃ b off r, p = some ⟨b, off, none⟩ ∧ l[i]? = some r ∧ b < B ∧ b < W.heap.size ∧
     W.cell? ⟨b, off + i * 4, none⟩ = some (.int .i64 r.k) ∧ W.cell? ⟨b, off + i * 4 + 1, none⟩ = some (.int .i64 r.n) ∧ W.cell? ⟨b, off + i * 4 + 2, none⟩ = some (.string r.s) ∧ W.cell? ⟨b, off + i * 4 + 3, none⟩ = some (.int .i64 r.e) := by
 obtain ⟨p', c', h1, h2, h3⟩ := h
 cases h1
 rcases h3 with h3 | ⟨b, off, h3, h4, h5, h6⟩
 · subst h3; simp at hi
 · exact ⟨b, off, _, h3, List.getElem?_eq_getElem hi, h4, h5, h6 i _ (List.getElem?_eq_getElem hi)⟩
theorem RdV.len {B : Nat} {W : World} {p : Option Addr} {c n : Nat} {l : List Rw} (h : RdV B W (.slice p n c) l) : n = l.length := by
 obtain ⟨p', c', h1, _⟩ := h
 cases h1; rfl
theorem RdV.form {B : Nat} {W : World} {v : Value} {l : List Rw} (h : RdV B W v l) : ∃ p n c, v = .slice p n c ∧ n = l.length ∧ n ≤ c := by
 obtain ⟨p, c, h1, h2, _⟩ := h
 exact ⟨p, _, c, h1, rfl, h2⟩
/-- The slice v holds the arguments l, in blocks below B. -/
def RdA (B : Nat) (W : World) (v : Value) (l : List Ag) : Prop :=
 ∃ p c, v = .slice p l.length c ∧ l.length ≤ c ∧ (l = [] ∨ ∃ b off, p = some ⟨b, off, none⟩ ∧ b < B ∧ b < W.heap.size ∧ ∀ i a, l[i]? = some a → ∃ (x y : Int) (lv : Value),
   W.cell? ⟨b, off + i * 4, none⟩ = some (.bool a.area) ∧ W.cell? ⟨b, off + i * 4 + 1, none⟩ = some (.int .i64 x) ∧ W.cell? ⟨b, off + i * 4 + 2, none⟩ = some (.int .i64 y) ∧ W.cell? ⟨b, off + i * 4 + 3, none⟩ = some lv ∧ RdV B W lv a.l)
theorem RdA.low {B : Nat} {W W' : World} {v : Value} {l : List Ag} (h : RdA B W v l) (e : Below B W W') : RdA B W' v l := by
 obtain ⟨p, c, h1, h2, h3⟩ := h
 refine ⟨p, c, h1, h2, ?_⟩
 rcases h3 with h3 | ⟨b, off, h3, h4, h5, h6⟩
 · exact .inl h3
 · refine .inr ⟨b, off, h3, h4, Nat.lt_of_lt_of_le h5 e.size, fun i r hr => ?_⟩
   have k := fun o => Below.cell e (p := ⟨b, o, none⟩) h4
   obtain ⟨x, y, lv, k0, k1, k2, k3, k4⟩ := h6 i r hr
   exact ⟨x, y, lv, (k _).trans k0, (k _).trans k1, (k _).trans k2, (k _).trans k3, k4.low e⟩
theorem RdA.up {B B' : Nat} {W : World} {v : Value} {l : List Ag} (h : RdA B W v l) (e : B ≤ B') : RdA B' W v l := by
 obtain ⟨p, c, h1, h2, h3⟩ := h
 refine ⟨p, c, h1, h2, ?_⟩
 rcases h3 with h3 | ⟨b, off, h3, h4, h5, h6⟩
 · exact .inl h3
 · refine .inr ⟨b, off, h3, Nat.lt_of_lt_of_le h4 e, h5, fun i r hr => ?_⟩
   obtain ⟨x, y, lv, k0, k1, k2, k3, k4⟩ := h6 i r hr
   exact ⟨x, y, lv, k0, k1, k2, k3, k4.up e⟩
theorem RdA.at {B : Nat} {W : World} {p : Option Addr} {c n : Nat} {l : List Ag} (h : RdA B W (.slice p n c) l) {i : Nat} (hi : i < l.length) :
   ∃ (b off : Nat) (a : Ag) (x y : Int) (lv : Value), p = some ⟨b, off, none⟩ ∧ l[i]? = some a ∧ b < B ∧ b < W.heap.size ∧
     (W.cell? ⟨b, off + i * 4, none⟩ = some (.bool a.area) ∧ W.cell? ⟨b, off + i * 4 + 1, none⟩ = some (.int .i64 x) ∧ W.cell? ⟨b, off + i * 4 + 2, none⟩ = some (.int .i64 y) ∧ W.cell? ⟨b, off + i * 4 + 3, none⟩ = some lv) ∧ RdV B W lv a.l := by
 obtain ⟨p', c', h1, h2, h3⟩ := h
 cases h1
 rcases h3 with h3 | ⟨b, off, h3, h4, h5, h6⟩
 · subst h3; simp at hi
 · obtain ⟨x, y, lv, k0, k1, k2, k3, k4⟩ := h6 i _ (List.getElem?_eq_getElem hi)
   exact ⟨b, off, _, x, y, lv, h3, List.getElem?_eq_getElem hi, h4, h5, ⟨k0, k1, k2, k3⟩, k4⟩
theorem RdA.form {B : Nat} {W : World} {v : Value} {l : List Ag} (h : RdA B W v l) : ∃ p n c, v = .slice p n c ∧ n = l.length ∧ n ≤ c := by
 obtain ⟨p, c, h1, h2, _⟩ := h
 exact ⟨p, _, c, h1, rfl, h2⟩

/-- Block k is a row of bytes. -/
def RowB (W : World) (k : Nat) : Prop := ∃ c fz, W.heap[k]? = some (.cells c 5 fz)
theorem RowB.lt {W : World} {k : Nat} (h : RowB W k) : k < W.heap.size := by
 obtain ⟨c, fz, h⟩ := h
 exact (Array.getElem?_eq_some_iff.1 h).1
/-- Blocks below hi, and rows of bytes, have not turned. -/
def Env (hi : Nat) (w w' : World) : Prop := Below hi w w' ∧ ∀ k, RowB w k → w'.heap[k]? = w.heap[k]?
/-- Blocks below lo, and those from hi on that are no rows of bytes, have not turned. -/
def Mid (lo hi : Nat) (w w' : World) : Prop := Below lo w w' ∧ ∀ k, hi ≤ k → k < w.heap.size → ¬ RowB w k → w'.heap[k]? = w.heap[k]?
theorem RowB.same {w w' : World} {k : Nat} (h : w'.heap[k]? = w.heap[k]?) : RowB w' k ↔ RowB w k := by unfold RowB; rw [h]
theorem Env.trans {hi : Nat} {a b c : World} (h : Env hi a b) (k : Env hi b c) : Env hi a c :=
 ⟨h.1.trans k.1, fun n hn => (k.2 n ((RowB.same (h.2 n hn)).2 hn)).trans (h.2 n hn)⟩
theorem Mid.trans {lo hi : Nat} {a b c : World} (h : Mid lo hi a b) (k : Mid lo hi b c) : Mid lo hi a c :=
 ⟨h.1.trans k.1, fun n h1 h2 h3 => (k.2 n h1 (Nat.lt_of_lt_of_le h2 h.1.size) (fun r => h3 ((RowB.same (h.2 n h1 h2 h3)).1 r))).trans (h.2 n h1 h2 h3)⟩
theorem Env.down {hi hi' : Nat} {a b : World} (h : Env hi' a b) (k : hi ≤ hi') : Env hi a b := ⟨h.1.mono k, h.2⟩
theorem Mid.ext {w0 a b : World} {hi : Nat} (h : Mid w0.heap.size hi a b) (e : Ext w0 a) : Ext w0 b := Below.trans e h.1
/-- A block of its own that is no row of bytes: its cells are kept. -/
def Own4 (W : World) (b : Nat) : Prop := b < W.heap.size ∧ ¬ RowB W b
theorem Own4.new {w w' : World} {c : Array Value} {T : TypeId} (hT : T ≠ 5) (e : Ext (w.alloc (.cells c T)) w') : Own4 w' w.heap.size := by
 have hs : w.heap.size < (w.alloc (.cells c T)).heap.size := by simp
 have h := e.block w.heap.size hs
 refine ⟨Nat.lt_of_lt_of_le hs e.size, fun r => ?_⟩
 obtain ⟨c', fz, r⟩ := (RowB.same h).1 r
 have r' : (w.heap.push (.cells c T))[w.heap.size]? = some (.cells c' 5 fz) := r
 rw [Array.getElem?_push_size] at r'
 cases r'
 exact hT rfl

open Go.RowKit
set_option maxHeartbeats 2000000

def kdF (a k : Int) : Int := if k = 0 then a else if k = 2 then (if a < 1 then 1 else a) else 2
/-- What values are together. -/
def kindP (l : List Rw) : Int := l.foldl (fun a r => kdF a r.v.k) 0
def numsP (l : List Rw) : Nat := (l.filter (fun r => decide (r.v.k = 2))).length
def othP (l : List Rw) : Nat := (l.filter (fun r => decide (¬ r.v.k = 2 ∧ ¬ r.v.k = 0))).length
theorem kind_take {l : List Rw} {j : Nat} {r : Rw} (h : l[j]? = some r) : kindP (l.take (j + 1)) = kdF (kindP (l.take j)) r.v.k := by
 unfold kindP
 rw [List.take_add_one, h, Option.toList_some, List.foldl_append]; rfl
theorem nums_take {l : List Rw} {j : Nat} {r : Rw} (h : l[j]? = some r) : numsP (l.take (j + 1)) = numsP (l.take j) + (if r.v.k = 2 then 1 else 0) := by
 unfold numsP
 rw [List.take_add_one, h, Option.toList_some, List.filter_append, List.length_append]
 by_cases hk : r.v.k = 2 <;> simp [hk]
theorem oth_take {l : List Rw} {j : Nat} {r : Rw} (h : l[j]? = some r) : othP (l.take (j + 1)) = othP (l.take j) + (if ¬ r.v.k = 2 ∧ ¬ r.v.k = 0 then 1 else 0) := by
 unfold othP
 rw [List.take_add_one, h, Option.toList_some, List.filter_append, List.length_append]
 by_cases hk : ¬ r.v.k = 2 ∧ ¬ r.v.k = 0
 · rw [if_pos hk]; simp [hk]
 · rw [if_neg hk]; simp [hk]
theorem kind_eq (l : List Rw) : kindP l = if 0 < othP l then 2 else if 0 < numsP l then 1 else 0 := by
 have key : ∀ (m : List Rw) (a : Int), a = 0 ∨ a = 1 ∨ a = 2 → m.foldl (fun a r => kdF a r.v.k) a = if 0 < othP m then 2 else if 0 < numsP m then (if a = 2 then 2 else 1) else a := by
   intro m
   induction m with
   | nil => intro a _; rfl
   | cons r m ih =>
     intro a ha
     rw [List.foldl_cons]
     have e1 : othP (r :: m) = othP m + (if ¬ r.v.k = 2 ∧ ¬ r.v.k = 0 then 1 else 0) := by
       unfold othP
       by_cases hk : ¬ r.v.k = 2 ∧ ¬ r.v.k = 0
       · rw [if_pos hk, List.filter_cons_of_pos (by simpa using hk)]; rfl
       · rw [if_neg hk, List.filter_cons_of_neg (by simpa using hk)]; rfl
     have e2 : numsP (r :: m) = numsP m + (if r.v.k = 2 then 1 else 0) := by
       unfold numsP
       by_cases hk : r.v.k = 2
       · rw [if_pos hk, List.filter_cons_of_pos (by simpa using hk)]; rfl
       · rw [if_neg hk, List.filter_cons_of_neg (by simpa using hk)]; rfl
     rw [e1, e2]
     by_cases h0 : r.v.k = 0
     · have : kdF a r.v.k = a := by show kdF _ _ = _; unfold kdF; rw [if_pos h0]
       rw [this, ih a ha]
       simp [h0]
     · by_cases h2 : r.v.k = 2
       · have : kdF a r.v.k = if a < 1 then 1 else a := by show kdF _ _ = _; unfold kdF; rw [if_neg h0, if_pos h2]
         rw [this, ih _ (by rcases ha with rfl | rfl | rfl <;> simp)]
         rcases ha with rfl | rfl | rfl <;> simp [h2]
       · have : kdF a r.v.k = 2 := by show kdF _ _ = _; unfold kdF; rw [if_neg h0, if_neg h2]
         rw [this, ih 2 (by simp)]
         simp [h0, h2]
 have := key l 0 (.inl rfl)
 unfold kindP
 rw [this]
 split
 · rfl
 · split <;> rfl
theorem kind_three (l : List Rw) : kindP l = 0 ∨ kindP l = 1 ∨ kindP l = 2 := by
 rw [kind_eq]
 split
 · simp
 · split <;> simp
theorem fld_k20 (k n : Int) (s : ByteArray) (e : Int) (W : World) : (Instr.field 27 (.agg #[.int .i64 k, .int .i64 n, .string s, .int .i64 e]) 0).run Tryd.prog W = .ok (.int .i64 k) W := by kernel_rfl
theorem wrapK (k : Nat) (h : k ≤ 1000000000000000) : wrap64 ((k : Int) + 1) = ((k + 1 : Nat) : Int) := by unfold wrap64; omega
set_option maxRecDepth 100000 in
theorem kind_any (W : World) (v : Value) (l : List Rw) (hN : Nm W) (h : RdV W.heap.size W v l) (hI : ∀ r ∈ l, I64 r.n) (hl : l.length ≤ 100000000000000) :
   Calls Tryd.prog 4 #[v] W fun e w' => e = .returned (.int .i64 (kindP l)) ∧ Ext W w' := by
 obtain ⟨p, n, cp, rfl, hn, _hcp⟩ := h.form
 have HL : Hid (RdV W.heap.size W (.slice p n cp) l ∧ n = l.length ∧ n ≤ 100000000000000 ∧ (∀ r ∈ l, I64 r.n) ∧ Nm W) := ⟨h, hn, by omega, hI, hN⟩
 clear h hn hl hI hN _hcp
 go_enter Tryd.func4, Tryd.ntmps4
 go_wp2_with fail
 go_loopw [3, 8] (fun kv iv wr => ∃ j : Nat, iv = .int .i64 (j : Int) ∧ j ≤ n ∧ kv = .int .i64 (kindP (l.take j)) ∧ Ext W wr) (fun _ iv _ => n - (intOf iv).toNat)
 case atStart => exact ⟨0, rfl, Nat.zero_le _, rfl, Ext.refl _⟩
 case round =>
   obtain ⟨j, rfl, hj, rfl, hE⟩ := hrel
   have HE : Hid (Ext W wr ∧ j ≤ n) := ⟨hE, hj⟩
   clear hE
   by_cases hlt : j < n
   · have hltI : (j : Int) < (n : Int) := by omega
     have wk : wrap64 ((j : Int) + 1) = ((j + 1 : Nat) : Int) := wrapK j (by have := HL.out.2.2.1; omega)
     obtain ⟨b, off, r, hp, hr, hb, hbW, k0, k1, k2, k3⟩ := (HL.out.1.low HE.out.1).at (i := j) (by have := HL.out.2.1; omega)
     subst hp
     have c0 : ∀ w, Nm w → Calls Tryd.prog 7 #[.agg #[.int .i64 r.k, .int .i64 r.n, .string r.s, .int .i64 r.e]] w fun e w' => e = .returned r.v.dat ∧ Ext w w' := fun w h => vnormal_any r.k r.n r.s r.e w h
     rw [dat_eq r.v] at c0
     have HS : Hid (kindP (l.take (j + 1)) = kdF (kindP (l.take j)) r.v.k ∧ j < n) := ⟨kind_take hr, hlt⟩
     have ha := kind_three (l.take j)
     generalize kindP (l.take j) = a at *
     generalize r.v.k = vk at *
     generalize r.v.n = vn at *
     generalize r.v.s = vs at *
     generalize r.v.e = ve at *
     generalize r.k = rk at *
     generalize r.n = rn at *
     generalize r.s = rs at *
     generalize r.e = re at *
     have fk := fld_k20 vk vn vs ve
     have hN0 : Nm (wr.alloc (.cells #[.int .i64 rk, .int .i64 rn, .string rs, .int .i64 re] 27)) := HL.out.2.2.2.2.ext (HE.out.1.alloc _)
     clear hr hb hbW hlt hj
     go_wp2_with fail
     refine (c0 _ hN0).mono ?_
     rintro e1 w1 ⟨rfl, E1⟩
     have H1 : Hid (Ext W w1) := HE.out.1.trans (((Ext.refl _).alloc _).trans E1)
     clear c0 E1 hN0 k0 k1 k2 k3
     by_cases h0 : vk = 0
     · have d0 : (vk == 0) = true := by simp [h0]
       have HK : Hid (kdF a vk = a) := by show kdF _ _ = _; unfold kdF; rw [if_pos h0]
       clear h0 ha
       go_wp2_with fail
       go_roundw
       case rel => exact ⟨j + 1, by rw [wk], HS.out.2, by rw [HS.out.1, HK.out], H1.out⟩
       case measure => rw [wk]; have := HS.out.2; simp [intOf]; omega
     · have d0 : (vk == 0) = false := by simp [h0]
       by_cases h2 : vk = 2
       · have d2 : (vk == 2) = true := by simp [h2]
         have HK : Hid (kdF a vk = if a < 1 then 1 else a) := by show kdF _ _ = _; unfold kdF; rw [if_neg h0, if_pos h2]
         clear h0 h2
         rcases ha with rfl | rfl | rfl
         · go_wp2_with fail
           go_roundw
           case rel => exact ⟨j + 1, by rw [wk], HS.out.2, by rw [HS.out.1, HK.out]; rfl, H1.out⟩
           case measure => rw [wk]; have := HS.out.2; simp [intOf]; omega
         · go_wp2_with fail
           go_roundw
           case rel => exact ⟨j + 1, by rw [wk], HS.out.2, by rw [HS.out.1, HK.out]; rfl, H1.out⟩
           case measure => rw [wk]; have := HS.out.2; simp [intOf]; omega
         · go_wp2_with fail
           go_roundw
           case rel => exact ⟨j + 1, by rw [wk], HS.out.2, by rw [HS.out.1, HK.out]; rfl, H1.out⟩
           case measure => rw [wk]; have := HS.out.2; simp [intOf]; omega
       · have d2 : (vk == 2) = false := by simp [h2]
         have HK : Hid (kdF a vk = 2) := by show kdF _ _ = _; unfold kdF; rw [if_neg h0, if_neg h2]
         clear h0 h2 ha
         go_wp2_with fail
         go_roundw
         case rel => exact ⟨j + 1, by rw [wk], HS.out.2, by rw [HS.out.1, HK.out], H1.out⟩
         case measure => rw [wk]; have := HS.out.2; simp [intOf]; omega
   · have he : j = n := by omega
     have hltI : (n : Int) ≤ (j : Int) := by omega
     have HT : Hid (kindP (l.take j) = kindP l) := by
       show _ = _
       rw [List.take_of_length_le (by have := HL.out.2.1; omega)]
     clear he hlt hj
     go_wp2_with fail
     go_ret
     exact ⟨by rw [← HT.out]; rfl, HE.out.1⟩
set_option maxRecDepth 100000 in
theorem rkind_any (W : World) (v : Value) (l : List Rw) (h : RdV W.heap.size W v l) (hl : l.length ≤ 100000000000000) :
   Calls Tryd.prog 5 #[v] W fun e w' => e = .returned (.int .i64 (kindP l)) ∧ Ext W w' := by
 obtain ⟨p, n, cp, rfl, hn, _hcp⟩ := h.form
 have HL : Hid (RdV W.heap.size W (.slice p n cp) l ∧ n = l.length ∧ n ≤ 100000000000000) := ⟨h, hn, by omega⟩
 clear h hn hl _hcp
 go_enter Tryd.func5, Tryd.ntmps5
 go_wp2_with fail
 go_loopw [3, 4, 5] (fun nv ov iv wr => ∃ j a b : Nat, iv = .int .i64 (j : Int) ∧ j ≤ n ∧ nv = .int .i64 (a : Int) ∧ ov = .int .i64 (b : Int) ∧ a ≤ j ∧ b ≤ j ∧ numsP (l.take j) = a ∧ othP (l.take j) = b ∧ Ext W wr) (fun _ _ iv _ => n - (intOf iv).toNat)
 case atStart => exact ⟨0, 0, 0, rfl, Nat.zero_le _, rfl, rfl, Nat.le_refl _, Nat.le_refl _, rfl, rfl, Ext.refl _⟩
 case round =>
   obtain ⟨j, a, b', rfl, hj, rfl, rfl, haj, hbj, hna, hob, hE⟩ := hrel
   have HE : Hid (Ext W wr ∧ j ≤ n ∧ a ≤ j ∧ b' ≤ j ∧ numsP (l.take j) = a ∧ othP (l.take j) = b') := ⟨hE, hj, haj, hbj, hna, hob⟩
   clear hE haj hbj hna hob
   by_cases hlt : j < n
   · have hltI : (j : Int) < (n : Int) := by omega
     have wk : wrap64 ((j : Int) + 1) = ((j + 1 : Nat) : Int) := wrapK j (by have := HL.out.2.2; omega)
     have wa : wrap64 ((a : Int) + 1) = ((a + 1 : Nat) : Int) := wrapK a (by have := HL.out.2.2; have := HE.out; omega)
     have wb : wrap64 ((b' : Int) + 1) = ((b' + 1 : Nat) : Int) := wrapK b' (by have := HL.out.2.2; have := HE.out; omega)
     obtain ⟨b, off, r, hp, hr, hb, hbW, k0, k1, k2, k3⟩ := (HL.out.1.low HE.out.1).at (i := j) (by have := HL.out.2.1; omega)
     subst hp
     have c0 : ∀ w, Calls Tryd.prog 8 #[.agg #[.int .i64 r.k, .int .i64 r.n, .string r.s, .int .i64 r.e]] w fun e w' => e = .returned r.v.dat ∧ Ext w w' := fun w => rnormal_any r.k r.n r.s r.e w
     rw [dat_eq r.v] at c0
     have HS : Hid (numsP (l.take (j + 1)) = a + (if r.v.k = 2 then 1 else 0) ∧ othP (l.take (j + 1)) = b' + (if ¬ r.v.k = 2 ∧ ¬ r.v.k = 0 then 1 else 0) ∧ j < n) := ⟨by rw [nums_take hr, HE.out.2.2.2.2.1], by rw [oth_take hr, HE.out.2.2.2.2.2], hlt⟩
     generalize r.v.k = vk at *
     generalize r.v.n = vn at *
     generalize r.v.s = vs at *
     generalize r.v.e = ve at *
     generalize r.k = rk at *
     generalize r.n = rn at *
     generalize r.s = rs at *
     generalize r.e = re at *
     have fk := fld_k20 vk vn vs ve
     clear hr hb hbW hlt hj
     go_wp2_with fail
     refine (c0 _).mono ?_
     rintro e1 w1 ⟨rfl, E1⟩
     have H1 : Hid (Ext W w1) := HE.out.1.trans E1
     clear c0 E1 k0 k1 k2 k3
     by_cases h2 : vk = 2
     · have d2 : (vk == 2) = true := by simp [h2]
       have HK : Hid (numsP (l.take (j + 1)) = a + 1 ∧ othP (l.take (j + 1)) = b') := ⟨by rw [HS.out.1, if_pos h2], by rw [HS.out.2.1, if_neg (by simp [h2])]; rfl⟩
       clear h2
       go_wp2_with fail
       go_roundw
       case rel => exact ⟨j + 1, a + 1, b', by rw [wk], HS.out.2.2, by rw [wa], rfl, by have := HE.out; omega, by have := HE.out; omega, HK.out.1, HK.out.2, H1.out⟩
       case measure => rw [wk]; have := HS.out.2.2; simp [intOf]; omega
     · have d2 : (vk == 2) = false := by simp [h2]
       by_cases h0 : vk = 0
       · have d0 : (vk != 0) = false := by simp [h0]
         have HK : Hid (numsP (l.take (j + 1)) = a ∧ othP (l.take (j + 1)) = b') := ⟨by rw [HS.out.1, if_neg h2]; rfl, by rw [HS.out.2.1, if_neg (by simp [h0])]; rfl⟩
         clear h2 h0
         go_wp2_with fail
         go_roundw
         case rel => exact ⟨j + 1, a, b', by rw [wk], HS.out.2.2, rfl, rfl, by have := HE.out; omega, by have := HE.out; omega, HK.out.1, HK.out.2, H1.out⟩
         case measure => rw [wk]; have := HS.out.2.2; simp [intOf]; omega
       · have d0 : (vk != 0) = true := by simp [h0]
         have HK : Hid (numsP (l.take (j + 1)) = a ∧ othP (l.take (j + 1)) = b' + 1) := ⟨by rw [HS.out.1, if_neg h2]; rfl, by rw [HS.out.2.1, if_pos ⟨h2, h0⟩]⟩
         clear h2 h0
         go_wp2_with fail
         go_roundw
         case rel => exact ⟨j + 1, a, b' + 1, by rw [wk], HS.out.2.2, rfl, by rw [wb], by have := HE.out; omega, by have := HE.out; omega, HK.out.1, HK.out.2, H1.out⟩
         case measure => rw [wk]; have := HS.out.2.2; simp [intOf]; omega
   · have hltI : (n : Int) ≤ (j : Int) := by omega
     have HT : Hid (kindP l = if 0 < b' then 2 else if 0 < a then 1 else 0) := by
       show _ = _
       have e : l.take j = l := List.take_of_length_le (by have := HL.out.2.1; omega)
       have h1 := HE.out.2.2.2.2.1
       have h2 := HE.out.2.2.2.2.2
       rw [e] at h1 h2
       rw [kind_eq, h1, h2]
     clear hlt hj
     by_cases hb0 : 0 < b'
     · have HB : Hid (kindP l = 2) := by show _ = _; rw [HT.out, if_pos hb0]
       go_wp2_with fail
       go_ret
       exact ⟨by rw [HB.out]; rfl, HE.out.1⟩
     · by_cases ha0 : 0 < a
       · have HB : Hid (kindP l = 1) := by show _ = _; rw [HT.out, if_neg hb0, if_pos ha0]
         go_wp2_with fail
         go_ret
         exact ⟨by rw [HB.out]; rfl, HE.out.1⟩
       · have HB : Hid (kindP l = 0) := by show _ = _; rw [HT.out, if_neg hb0, if_neg ha0]
         go_wp2_with fail
         go_ret
         exact ⟨by rw [HB.out]; rfl, HE.out.1⟩

open Go.RowKit

/-- A letter or $; what a word goes on with; how many bytes of a kind there are. -/
def letB (c : UInt8) : Bool := decide (65 ≤ c.toNat ∧ c.toNat ≤ 90 ∨ 97 ≤ c.toNat ∧ c.toNat ≤ 122 ∨ c.toNat = 36)
def inW (c : UInt8) : Bool := letB c || dgB c || c == 95
def run (p : UInt8 → Bool) (l : List UInt8) : Nat := (l.takeWhile p).length
/-- Where a number ends. -/
def numE (l : List UInt8) : Nat :=
 if l[run dgB l]? = some 46 ∧ 0 < run dgB (l.drop (run dgB l + 1)) then run dgB l + 1 + run dgB (l.drop (run dgB l + 1)) else run dgB l
/-- What stands behind a quote, up to the one that ends it; and how many bytes that is. -/
def txt : List UInt8 → Option (List UInt8 × Nat)
 | [] => none
 | [c] => if c = 34 then some ([], 1) else none
 | c :: d :: r => if c = 34 then (if d = 34 then (txt r).map (fun x => (34 :: x.1, x.2 + 2)) else some ([], 1)) else (txt (d :: r)).map (fun x => (c :: x.1, x.2 + 1))
def errsL : List (Int × List UInt8) := [(1, [35, 82, 69, 70, 33]), (2, [35, 86, 65, 76, 85, 69, 33]), (3, [35, 68, 73, 86, 47, 48, 33]), (4, [35, 78, 85, 77, 33]), (5, [35, 67, 89, 67, 76, 69, 33])]
def errT (l : List UInt8) : Option (Int × List UInt8) := errsL.find? (fun x => x.2.isPrefixOf l)
def sgsL : List (List UInt8) := [[60, 62], [60, 61], [62, 61], [60], [62], [61], [43], [45], [42], [47], [38], [40], [41], [44], [58]]
def sgT (l : List UInt8) : Option (List UInt8) := sgsL.find? (fun p => p.isPrefixOf l)

/-- The word that a text begins with: its kind, its text, its number, its error, its length; or why there is none. -/
abbrev Wd := Int × List UInt8 × Int × Int × Nat
def nuRL (l : List UInt8) : Except Int Wd := if rdK (l.take (numE l)) = 0 then .error 4 else if rdK (l.take (numE l)) = 2 then .error 2 else .ok (0, [], rdV (l.take (numE l)), 0, numE l)
def txtR (l : List UInt8) : Except Int Wd := match txt l.tail with
 | none => .error 4
 | some x => .ok (1, x.1, 0, 0, x.2 + 1)
def wdR (l : List UInt8) : Except Int Wd := .ok (2, l.take (run inW l), 0, 0, run inW l)
def errR (l : List UInt8) : Except Int Wd := match errT l with
 | none => .error 4
 | some x => .ok (4, [], 0, x.1, x.2.length)
def sgR (l : List UInt8) : Except Int Wd := match sgT l with
 | none => .error 4
 | some p => .ok (3, p, 0, 0, p.length)
def nxt (l : List UInt8) : Except Int Wd :=
 match l.head? with
 | none => .error 4
 | some c => if dgB c then nuRL l else if c = 34 then txtR l else if letB c then wdR l else if c = 35 then errR l else sgR l

/-- A word as it is told: its kind, its place, its text, its number, its error. -/
abbrev Tk := Int × Int × List UInt8 × Int × Int
def tkOf (x : Wd) (p : Nat) : Tk := (x.1, (p : Int), x.2.1, x.2.2.1, x.2.2.2.1)
def endT (p : Nat) : Tk := (5, (p : Int), [], 0, 0)
def wds : Nat → Nat → List UInt8 → Except (Nat × Int) (List Tk)
 | 0, _, _ => .ok []
 | _ + 1, p, [] => .ok [endT p]
 | f + 1, p, c :: r => if c = 32 then wds f (p + 1) r else
   match nxt (c :: r) with
   | .error e => .error (p, e)
   | .ok x => (wds f (p + x.2.2.2.2) ((c :: r).drop x.2.2.2.2)).map (fun ts => tkOf x p :: ts)
/-- The words of a text that begins at a place. -/
def W (p : Nat) (l : List UInt8) : Except (Nat × Int) (List Tk) := wds (l.length + 1) p l
/-- What is answered. -/
def lexR (l : List UInt8) : List Tk × Int × Int :=
 if 300 < l.length then ([], 0, 2) else match W 0 l with
   | .ok ts => (ts, 0, 0)
   | .error x => ([], (x.1 : Int), x.2)

theorem runL_le (p : UInt8 → Bool) (l : List UInt8) : run p l ≤ l.length := by
 unfold run; exact (List.takeWhile_prefix p).length_le
theorem run_cons (p : UInt8 → Bool) (c : UInt8) (l : List UInt8) : run p (c :: l) = if p c then run p l + 1 else 0 := by
 unfold run; rw [List.takeWhile_cons]; split <;> simp
theorem run_nil (p : UInt8 → Bool) : run p [] = 0 := rfl
theorem numE_le (l : List UInt8) : numE l ≤ l.length := by
 unfold numE
 split
 · rename_i h
   have h1 := runL_le dgB (l.drop (run dgB l + 1))
   have h2 : run dgB l < l.length := (List.getElem?_eq_some_iff.mp h.1).1
   simp at h1; omega
 · exact runL_le _ _
theorem numE_ge (l : List UInt8) : run dgB l ≤ numE l := by unfold numE; split <;> omega
theorem txt_le : ∀ (l : List UInt8) (x : List UInt8 × Nat), txt l = some x → 1 ≤ x.2 ∧ x.2 ≤ l.length
 | [], x, h => by simp [txt] at h
 | [c], x, h => by
   unfold txt at h
   split at h
   · cases h; simp
   · cases h
 | c :: d :: r, x, h => by
   unfold txt at h
   split at h
   · split at h
     · rw [Option.map_eq_some_iff] at h
       obtain ⟨y, hy, rfl⟩ := h
       have := txt_le r y hy
       simp; omega
     · cases h; simp
   · rw [Option.map_eq_some_iff] at h
     obtain ⟨y, hy, rfl⟩ := h
     have := txt_le (d :: r) y hy
     simp at this ⊢; omega
theorem errT_le {l : List UInt8} {x : Int × List UInt8} (h : errT l = some x) : 1 ≤ x.2.length ∧ x.2.length ≤ l.length := by
 unfold errT at h
 have h1 := List.find?_some h
 have h2 := List.mem_of_find?_eq_some h
 refine ⟨?_, ?_⟩
 · simp [errsL] at h2; rcases h2 with rfl | rfl | rfl | rfl | rfl <;> simp
 · exact (List.isPrefixOf_iff_prefix.mp h1).length_le
theorem sgT_le {l p : List UInt8} (h : sgT l = some p) : 1 ≤ p.length ∧ p.length ≤ l.length ∧ l.take p.length = p := by
 unfold sgT at h
 have h1 := List.find?_some h
 have h2 := List.mem_of_find?_eq_some h
 refine ⟨?_, (List.isPrefixOf_iff_prefix.mp h1).length_le, ?_⟩
 · simp [sgsL] at h2; rcases h2 with rfl | rfl | rfl | rfl | rfl | rfl | rfl | rfl | rfl | rfl | rfl | rfl | rfl | rfl | rfl <;> simp
 · obtain ⟨t, ht⟩ := List.isPrefixOf_iff_prefix.mp h1
   rw [← ht, List.take_left]
theorem nxt_cons (c : UInt8) (r : List UInt8) : nxt (c :: r) = if dgB c then nuRL (c :: r) else if c = 34 then txtR (c :: r) else if letB c then wdR (c :: r) else if c = 35 then errR (c :: r) else sgR (c :: r) := rfl
theorem nxt_pos {l : List UInt8} {x : Wd} (h : nxt l = .ok x) : 1 ≤ x.2.2.2.2 ∧ x.2.2.2.2 ≤ l.length := by
 cases l with
 | nil => cases h
 | cons c r =>
   rw [nxt_cons] at h
   split at h
   · rename_i hd
     unfold nuRL at h
     split at h
     · cases h
     · split at h
       · cases h
       · cases h
         have h1 := numE_le (c :: r)
         have h2 := numE_ge (c :: r)
         rw [run_cons, if_pos hd] at h2
         exact ⟨by simp only []; omega, h1⟩
   · split at h
     · unfold txtR at h
       split at h
       · cases h
       · rename_i x hx
         cases h
         have := txt_le _ _ hx
         simp at this ⊢; omega
     · split at h
       · rename_i hl
         unfold wdR at h
         cases h
         have := runL_le inW (c :: r)
         refine ⟨?_, this⟩
         simp only [run_cons]
         rw [if_pos (by unfold inW; rw [hl]; rfl)]; omega
       · split at h
         · unfold errR at h
           split at h
           · cases h
           · rename_i x hx
             cases h
             exact errT_le hx
         · unfold sgR at h
           split at h
           · cases h
           · rename_i x hx
             cases h
             exact ⟨(sgT_le hx).1, (sgT_le hx).2.1⟩
/-- Fuel enough is fuel enough. -/
theorem wds_more (f : Nat) : ∀ (g p : Nat) (l : List UInt8), l.length < f → l.length < g → wds f p l = wds g p l := by
 induction f with
 | zero => intro g p l h; omega
 | succ f ih =>
   intro g p l hf hg
   cases g with
   | zero => omega
   | succ g =>
     cases l with
     | nil => rfl
     | cons c r =>
       unfold wds
       simp at hf hg
       split
       · exact ih g _ _ (by omega) (by omega)
       · split
         · rfl
         · rename_i x hx
           have h1 := nxt_pos hx
           simp at h1
           rw [ih g]
           · simp; omega
           · simp; omega
theorem W_nil (p : Nat) : W p [] = .ok [endT p] := rfl
theorem W_blank (p : Nat) (r : List UInt8) : W p (32 :: r) = W (p + 1) r := rfl
theorem W_cons (p : Nat) (c : UInt8) (r : List UInt8) (h : ¬ c = 32) : W p (c :: r) = match nxt (c :: r) with
   | .error e => .error (p, e)
   | .ok x => (W (p + x.2.2.2.2) ((c :: r).drop x.2.2.2.2)).map (fun ts => tkOf x p :: ts) := by
 unfold W
 conv => lhs; unfold wds
 rw [if_neg h]
 cases hx : nxt (c :: r) with
 | error e => rfl
 | ok x =>
   have h1 := nxt_pos hx
   simp at h1
   simp only []
   rw [wds_more _ (((c :: r).drop x.2.2.2.2).length + 1)]
   · simp; omega
   · simp

open Go.RowKit

/-- How many arguments a function has. -/
def kn1 : List (List UInt8) := [[83, 85, 77], [67, 79, 85, 78, 84], [77, 73, 78], [77, 65, 88], [65, 86, 69, 82, 65, 71, 69], [65, 78, 68], [79, 82], [67, 79, 78, 67, 65, 84]]
def kn2 : List (List UInt8) := [[73, 70], [73, 78, 68, 69, 88]]
def kn3 : List (List UInt8) := [[82, 79, 85, 78, 68], [77, 79, 68], [73, 70, 69, 82, 82, 79, 82]]
def kn4 : List (List UInt8) := [[76, 69, 70, 84]]
def kn5 : List (List UInt8) := [[78, 79, 84], [65, 66, 83], [70, 76, 79, 79, 82], [83, 81, 82, 84], [76, 69, 78], [73, 83, 69, 82, 82, 79, 82]]
def kno (s : List UInt8) : Option (Nat × Nat) :=
 if s ∈ kn1 then some (1, 20) else if s ∈ kn2 then some (2, 3) else if s ∈ kn3 then some (2, 2) else if s ∈ kn4 then some (1, 2) else if s ∈ kn5 then some (1, 1) else none
def knA (s : List UInt8) : Int := match kno s with
 | some (a, _) => (a : Int)
 | none => 0
def knB (s : List UInt8) : Int := match kno s with
 | some (_, b) => (b : Int)
 | none => 0

open Go.RowKit

/-- Is the place on the sheet? -/
def inB (r c : Int) : Bool := decide (1 ≤ r) && decide (r ≤ 1000) && decide (1 ≤ c) && decide (c ≤ 52)
def colB (c : Int) : Bool := decide (1 ≤ c) && decide (c ≤ 52)

open Go.RowKit

/-- A letter. -/
def upB (c : UInt8) : Bool := decide (65 ≤ c.toNat ∧ c.toNat ≤ 90)
/-- A column's name. -/
def ltr (c : Nat) : UInt8 := UInt8.ofNat (65 + (c - 1) % 26)
def nameL (c : Int) : List UInt8 := if colB c then (if c ≤ 26 then [ltr c.toNat] else [65, ltr c.toNat]) else []
/-- A name's column, letter by letter. -/
def colF : Nat → List UInt8 → Nat
 | n, [] => n
 | n, c :: l => if upB c && decide (26 * n + (c.toNat - 64) ≤ 52) then colF (26 * n + (c.toNat - 64)) l else 0
def colN (l : List UInt8) : Nat := colF 0 l
theorem colF_le : ∀ (l : List UInt8) (n : Nat), n ≤ 52 → colF n l ≤ 52
 | [], n, h => h
 | c :: l, n, h => by
   unfold colF
   split
   · rename_i g; simp at g; exact colF_le l _ g.2
   · omega
theorem colN_le (l : List UInt8) : colN l ≤ 52 := colF_le l 0 (by omega)
theorem colN_name (c : Nat) (h1 : 1 ≤ c) (h2 : c ≤ 52) : colN (nameL c) = c := by
 have : ∀ c : Fin 53, 1 ≤ c.val → colN (nameL c.val) = c.val := by decide +kernel
 exact this ⟨c, by omega⟩ h1
theorem u8_eq {a b : UInt8} (h : a.toNat = b.toNat) : a = b := UInt8.toNat_inj.1 h
theorem ltr_nat (c : Nat) : (ltr c).toNat = 65 + (c - 1) % 26 := by
 unfold ltr; rw [UInt8.toNat_ofNat']; omega
theorem name_colN (l : List UInt8) (h : colN l ≠ 0) : nameL (colN l) = l := by
 match l, h with
 | [], h => exact absurd rfl h
 | [a], h =>
   unfold colN colF colF at h ⊢
   by_cases g : (upB a && decide (26 * 0 + (a.toNat - 64) ≤ 52)) = true
   · rw [if_pos g]
     simp [upB] at g
     have e : a = ltr (26 * 0 + (a.toNat - 64)) := u8_eq (by rw [ltr_nat _]; omega)
     unfold nameL colB
     rw [if_pos (by simp; omega), if_pos (by omega), Int.toNat_natCast, ← e]
   · rw [if_neg g] at h; exact absurd rfl h
 | [a, b], h =>
   unfold colN colF colF colF at h ⊢
   by_cases g : (upB a && decide (26 * 0 + (a.toNat - 64) ≤ 52)) = true
   · rw [if_pos g] at h ⊢
     by_cases k : (upB b && decide (26 * (26 * 0 + (a.toNat - 64)) + (b.toNat - 64) ≤ 52)) = true
     · rw [if_pos k]
       simp [upB] at g k
       have ea : a = 65 := u8_eq (by show a.toNat = 65; omega)
       have e : b = ltr (26 * (26 * 0 + (a.toNat - 64)) + (b.toNat - 64)) := u8_eq (by rw [ltr_nat _]; omega)
       unfold nameL colB
       rw [if_pos (by simp; omega), if_neg (by omega), Int.toNat_natCast, ← e, ea]
     · rw [if_neg k] at h; exact absurd rfl h
   · rw [if_neg g] at h; exact absurd rfl h
 | a :: b :: c :: l, h =>
   exfalso; apply h
   unfold colN colF colF colF
   by_cases g : (upB a && decide (26 * 0 + (a.toNat - 64) ≤ 52)) = true
   · rw [if_pos g]
     by_cases k : (upB b && decide (26 * (26 * 0 + (a.toNat - 64)) + (b.toNat - 64) ≤ 52)) = true
     · rw [if_pos k, if_neg]
       simp [upB] at g k ⊢
       omega
     · rw [if_neg k]
   · rw [if_neg g]
theorem name_inj (c : Nat) (l : List UInt8) (h1 : 1 ≤ c) (h2 : c ≤ 52) : nameL c = l ↔ colN l = c := by
 constructor
 · intro h; rw [← h]; exact colN_name c h1 h2
 · intro h; rw [← h]; exact name_colN l (by omega)
theorem colN_letters (l : List UInt8) (h : colN l ≠ 0) : l.all upB = true := by
 have hl := colN_le l
 have := name_colN l h
 rw [← this]
 have all : ∀ c : Fin 53, 1 ≤ c.val → (nameL c.val).all upB = true := by decide +kernel
 exact all ⟨colN l, by omega⟩ (by show 1 ≤ colN l; omega)
theorem name_len (c : Int) : (nameL c).length ≤ 2 := by unfold nameL; split <;> (try split) <;> simp

open Go.RowKit

/-- A row's digits. -/
def rowC (l : List UInt8) : Int := if Lib.itoa (Int.tdiv (rdV l) 10000) = l then Int.tdiv (rdV l) 10000 else 0
/-- The digits of a row as the document asks them: no nought ahead, at most four. -/
def rowOk (l : List UInt8) : Bool := l.all dgB && (l.head? != some 48) && decide (l.length ≤ 4)

theorem dec_head (n : Nat) (h : 1 ≤ n) : ∃ c t, Lib.decDigits n = c :: t ∧ c ≠ 48 := by
 induction n using Nat.strongRecOn with
 | _ n ih =>
   rw [Lib.decDigits]
   by_cases g : n < 10
   · rw [dif_pos g]
     refine ⟨_, [], rfl, ?_⟩
     intro e
     have := congrArg UInt8.toNat e
     rw [(dg_ofNat g).2] at this
     have : (48 : UInt8).toNat = 48 := rfl
     omega
   · rw [dif_neg g]
     obtain ⟨c, t, e, k⟩ := ih (n / 10) (by omega) (by omega)
     exact ⟨c, t ++ [_], by rw [e]; rfl, k⟩
theorem dec_of_val (l : List UInt8) (h : l.all dgB = true) (h0 : l.head? ≠ some 48) (h1 : l ≠ []) : Lib.decDigits (val l) = l ∧ 1 ≤ val l := by
 generalize hn : l.length = n
 induction n generalizing l with
 | zero => exact absurd (List.length_eq_zero_iff.1 hn) h1
 | succ n ih =>
   have e := (List.dropLast_concat_getLast h1).symm
   generalize l.dropLast = a at *
   generalize l.getLast h1 = c at *
   subst e
   rw [List.all_append, Bool.and_eq_true] at h
   have hc := dg_bd (c := c) (by simpa using h.2)
   have ec : UInt8.ofNat (48 + (c.toNat - 48)) = c := u8_eq (by rw [UInt8.toNat_ofNat']; omega)
   rw [val_snoc]
   by_cases g : a = []
   · subst g
     have hne : c.toNat ≠ 48 := fun k => h0 (by simp; exact u8_eq k)
     have e0 : val ([] : List UInt8) = 0 := rfl
     rw [e0, Lib.decDigits, dif_pos (by omega)]
     refine ⟨?_, by omega⟩
     rw [Nat.zero_mul, Nat.zero_add, ec]; rfl
   · have hh : a.head? ≠ some 48 := by
       intro k; apply h0
       cases a with
       | nil => exact absurd rfl g
       | cons x y => simpa using k
     obtain ⟨i1, i2⟩ := ih a h.1 hh g (by simp at hn; omega)
     rw [Lib.decDigits, dif_neg (by omega)]
     refine ⟨?_, by omega⟩
     rw [show (val a * 10 + (c.toNat - 48)) / 10 = val a from by omega, show (val a * 10 + (c.toNat - 48)) % 10 = c.toNat - 48 from by omega, i1, ec]
theorem dec_len4 (n : Nat) (h : n ≤ 1000) : (Lib.decDigits n).length ≤ 4 := (dec_len n 3 (by omega)).2
theorem itoa_nat (n : Nat) : Lib.itoa n = Lib.decDigits n := by unfold Lib.itoa; rw [if_neg (by omega)]; rfl
theorem rd_dec (n : Nat) (h : n ≤ 9999) : rdV (Lib.decDigits n) = n * 10000 := by
 have hb := num_bare false (Lib.decDigits n) (okD_yes _ (dec_len n 3 (by omega)).1 (by have := (dec_len n 3 (by omega)).2; omega) (dec_all n))
 have e : sgnL false (Lib.decDigits n) = Lib.decDigits n := rfl
 rw [e] at hb
 obtain ⟨b1, b2, b3⟩ := hb
 rw [nv_bare] at b2
 unfold rdV
 rw [b1, b2, b3]
 simp
 omega
theorem val_bd (l : List UInt8) (h : l.all dgB = true) : val l < 10 ^ l.length := by
 induction l with
 | nil => decide
 | cons c l ih =>
   rw [List.all_cons, Bool.and_eq_true] at h
   have hc := dg_bd h.1
   have i := ih h.2
   have e : val (c :: l) = (c.toNat - 48) * 10 ^ l.length + val l := by
     have := val_append [c] l
     rw [show [c] ++ l = c :: l from rfl] at this
     rw [this]; simp [val]
   rw [e, List.length_cons, Nat.pow_succ]
   have : (c.toNat - 48) * 10 ^ l.length ≤ 9 * 10 ^ l.length := Nat.mul_le_mul_right _ (by omega)
   omega
/-- The two readings of a row's digits agree. -/
theorem row_in (l : List UInt8) (h1 : 1 ≤ rowC l) (h2 : rowC l ≤ 1000) : rowOk l = true ∧ (val l : Int) = rowC l := by
 unfold rowC at h1 h2 ⊢
 split at h1
 · rename_i e
   rw [if_pos e] at h2 ⊢
   obtain ⟨n, hn⟩ : ∃ n : Nat, Int.tdiv (rdV l) 10000 = n := ⟨(Int.tdiv (rdV l) 10000).toNat, by omega⟩
   rw [hn] at h1 h2 e ⊢
   rw [itoa_nat] at e
   obtain ⟨c, t, hd, hc⟩ := dec_head n (by omega)
   refine ⟨?_, by rw [← e, dec_val]⟩
   unfold rowOk
   rw [← e, dec_all, hd]
   have := dec_len4 n (by omega)
   rw [hd] at this
   simp at this ⊢
   exact ⟨hc, this⟩
 · omega
theorem row_ok (l : List UInt8) (h : rowOk l = true) (hne : l ≠ []) : rowC l = val l := by
 unfold rowOk at h
 simp only [Bool.and_eq_true, decide_eq_true_eq, bne_iff_ne] at h
 obtain ⟨⟨ha, hh⟩, hl⟩ := h
 obtain ⟨d1, d2⟩ := dec_of_val l ha hh hne
 have hv : val l ≤ 9999 := by
   have := val_bd l ha
   have h10 : 10 ^ l.length ≤ 10 ^ 4 := Nat.pow_le_pow_right (by omega) hl
   omega
 unfold rowC
 have : rdV l = val l * 10000 := by have := rd_dec (val l) hv; rwa [d1] at this
 rw [this, show Int.tdiv ((val l : Int) * 10000) 10000 = val l from Int.mul_tdiv_cancel _ (by decide), itoa_nat, d1, if_pos rfl]
end Go.Proofs.YtjhmbkdkjgjoaaaDoor

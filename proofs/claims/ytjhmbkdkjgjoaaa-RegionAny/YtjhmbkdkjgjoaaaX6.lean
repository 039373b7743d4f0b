import Derived.Test.YtjhmbkdkjgjoaaaX1
import Derived.Test.YtjhmbkdkjgjoaaaX2
import Derived.Lib.IndexAny
import Derived.Test.YtjhmbkdkjgjoaaaX5
import Derived.Test.YtjhmbkdkjgjoaaaChecked
import Derived.Laws.BytesArg
import Derived.Laws.Runes
import Derived.Test.YtjhmbkdkjgjoaaaShelf
import Derived.Laws.RangeAny
import Derived.WalkMore
namespace Go.Proofs.Ytjhmbkdkjgjoaaa
open Go.RowKit
def inB (r c : Int) : Bool := decide (1 ≤ r) && decide (r ≤ 1000) && decide (1 ≤ c) && decide (c ≤ 52)
def colB (c : Int) : Bool := decide (1 ≤ c) && decide (c ≤ 52)
open Go.RowKit
def upB (c : UInt8) : Bool := decide (65 ≤ c.toNat ∧ c.toNat ≤ 90)
def ltr (c : Nat) : UInt8 := UInt8.ofNat (65 + (c - 1) % 26)
def nameL (c : Int) : List UInt8 := if colB c then (if c ≤ 26 then [ltr c.toNat] else [65, ltr c.toNat]) else []
def colF : Nat → List UInt8 → Nat
 | n, [] => n
 | n, c :: l => if upB c && decide (26 * n + (c.toNat - 64) ≤ 52) then colF (26 * n + (c.toNat - 64)) l else 0
def colN (l : List UInt8) : Nat := colF 0 l
theorem colF_le : ∀ (l : List UInt8) (n : Nat), n ≤ 52 → colF n l ≤ 52
 | [], n, h => h
 | c :: l, n, h => by
   unfold colF
   split
   · rename_i g; simp at g; exact colF_le l _ g.2
   · omega
theorem colN_le (l : List UInt8) : colN l ≤ 52 := colF_le l 0 (by omega)
theorem colN_name (c : Nat) (h1 : 1 ≤ c) (h2 : c ≤ 52) : colN (nameL c) = c := by
 have : ∀ c : Fin 53, 1 ≤ c.val → colN (nameL c.val) = c.val := by decide +kernel
 exact this ⟨c, by omega⟩ h1
theorem u8_eq {a b : UInt8} (h : a.toNat = b.toNat) : a = b := UInt8.toNat_inj.1 h
theorem ltr_nat (c : Nat) : (ltr c).toNat = 65 + (c - 1) % 26 := by
 unfold ltr; rw [UInt8.toNat_ofNat']; omega
theorem name_colN (l : List UInt8) (h : colN l ≠ 0) : nameL (colN l) = l := by
 match l, h with
 | [], h => exact absurd rfl h
 | [a], h =>
   unfold colN colF colF at h ⊢
   by_cases g : (upB a && decide (26 * 0 + (a.toNat - 64) ≤ 52)) = true
   · rw [if_pos g]
     simp [upB] at g
     have e : a = ltr (26 * 0 + (a.toNat - 64)) := u8_eq (by rw [ltr_nat _]; omega)
     unfold nameL colB
     rw [if_pos (by simp; omega), if_pos (by omega), Int.toNat_natCast, ← e]
   · rw [if_neg g] at h; exact absurd rfl h
 | [a, b], h =>
   unfold colN colF colF colF at h ⊢
   by_cases g : (upB a && decide (26 * 0 + (a.toNat - 64) ≤ 52)) = true
   · rw [if_pos g] at h ⊢
     by_cases k : (upB b && decide (26 * (26 * 0 + (a.toNat - 64)) + (b.toNat - 64) ≤ 52)) = true
     · rw [if_pos k]
       simp [upB] at g k
       have ea : a = 65 := u8_eq (by show a.toNat = 65; omega)
       have e : b = ltr (26 * (26 * 0 + (a.toNat - 64)) + (b.toNat - 64)) := u8_eq (by rw [ltr_nat _]; omega)
       unfold nameL colB
       rw [if_pos (by simp; omega), if_neg (by omega), Int.toNat_natCast, ← e, ea]
     · rw [if_neg k] at h; exact absurd rfl h
   · rw [if_neg g] at h; exact absurd rfl h
 | a :: b :: c :: l, h =>
   exfalso; apply h
   unfold colN colF colF colF
   by_cases g : (upB a && decide (26 * 0 + (a.toNat - 64) ≤ 52)) = true
   · rw [if_pos g]
     by_cases k : (upB b && decide (26 * (26 * 0 + (a.toNat - 64)) + (b.toNat - 64) ≤ 52)) = true
     · rw [if_pos k, if_neg]
       simp [upB] at g k ⊢
       omega
     · rw [if_neg k]
   · rw [if_neg g]
theorem name_inj (c : Nat) (l : List UInt8) (h1 : 1 ≤ c) (h2 : c ≤ 52) : nameL c = l ↔ colN l = c := by
 constructor
 · intro h; rw [← h]; exact colN_name c h1 h2
 · intro h; rw [← h]; exact name_colN l (by omega)
theorem colN_letters (l : List UInt8) (h : colN l ≠ 0) : l.all upB = true := by
 have hl := colN_le l
 have := name_colN l h
 rw [← this]
 have all : ∀ c : Fin 53, 1 ≤ c.val → (nameL c.val).all upB = true := by decide +kernel
 exact all ⟨colN l, by omega⟩ (by show 1 ≤ colN l; omega)
theorem name_len (c : Int) : (nameL c).length ≤ 2 := by unfold nameL; split <;> (try split) <;> simp
open Go.RowKit
def rowC (l : List UInt8) : Int := if Lib.itoa (Int.tdiv (rdV l) 10000) = l then Int.tdiv (rdV l) 10000 else 0
def rowOk (l : List UInt8) : Bool := l.all dgB && (l.head? != some 48) && decide (l.length ≤ 4)
theorem dec_head (n : Nat) (h : 1 ≤ n) : ∃ c t, Lib.decDigits n = c :: t ∧ c ≠ 48 := by
 induction n using Nat.strongRecOn with
 | _ n ih =>
   rw [Lib.decDigits]
   by_cases g : n < 10
   · rw [dif_pos g]
     refine ⟨_, [], rfl, ?_⟩
     intro e
     have := congrArg UInt8.toNat e
     rw [(dg_ofNat g).2] at this
     have : (48 : UInt8).toNat = 48 := rfl
     omega
   · rw [dif_neg g]
     obtain ⟨c, t, e, k⟩ := ih (n / 10) (by omega) (by omega)
     exact ⟨c, t ++ [_], by rw [e]; rfl, k⟩
theorem dec_of_val (l : List UInt8) (h : l.all dgB = true) (h0 : l.head? ≠ some 48) (h1 : l ≠ []) : Lib.decDigits (val l) = l ∧ 1 ≤ val l := by
 generalize hn : l.length = n
 induction n generalizing l with
 | zero => exact absurd (List.length_eq_zero_iff.1 hn) h1
 | succ n ih =>
   have e := (List.dropLast_concat_getLast h1).symm
   generalize l.dropLast = a at *
   generalize l.getLast h1 = c at *
   subst e
   rw [List.all_append, Bool.and_eq_true] at h
   have hc := dg_bd (c := c) (by simpa using h.2)
   have ec : UInt8.ofNat (48 + (c.toNat - 48)) = c := u8_eq (by rw [UInt8.toNat_ofNat']; omega)
   rw [val_snoc]
   by_cases g : a = []
   · subst g
     have hne : c.toNat ≠ 48 := fun k => h0 (by simp; exact u8_eq k)
     have e0 : val ([] : List UInt8) = 0 := rfl
     rw [e0, Lib.decDigits, dif_pos (by omega)]
     refine ⟨?_, by omega⟩
     rw [Nat.zero_mul, Nat.zero_add, ec]; rfl
   · have hh : a.head? ≠ some 48 := by
       intro k; apply h0
       cases a with
       | nil => exact absurd rfl g
       | cons x y => simpa using k
     obtain ⟨i1, i2⟩ := ih a h.1 hh g (by simp at hn; omega)
     rw [Lib.decDigits, dif_neg (by omega)]
     refine ⟨?_, by omega⟩
     rw [show (val a * 10 + (c.toNat - 48)) / 10 = val a from by omega, show (val a * 10 + (c.toNat - 48)) % 10 = c.toNat - 48 from by omega, i1, ec]
theorem dec_len4 (n : Nat) (h : n ≤ 1000) : (Lib.decDigits n).length ≤ 4 := (dec_len n 3 (by omega)).2
theorem itoa_nat (n : Nat) : Lib.itoa n = Lib.decDigits n := by unfold Lib.itoa; rw [if_neg (by omega)]; rfl
theorem rd_dec (n : Nat) (h : n ≤ 9999) : rdV (Lib.decDigits n) = n * 10000 := by
 have hb := num_bare false (Lib.decDigits n) (okD_yes _ (dec_len n 3 (by omega)).1 (by have := (dec_len n 3 (by omega)).2; omega) (dec_all n))
 have e : sgnL false (Lib.decDigits n) = Lib.decDigits n := rfl
 rw [e] at hb
 obtain ⟨b1, b2, b3⟩ := hb
 rw [nv_bare] at b2
 unfold rdV
 rw [b1, b2, b3]
 simp
 omega
theorem val_bd (l : List UInt8) (h : l.all dgB = true) : val l < 10 ^ l.length := by
 induction l with
 | nil => decide
 | cons c l ih =>
   rw [List.all_cons, Bool.and_eq_true] at h
   have hc := dg_bd h.1
   have i := ih h.2
   have e : val (c :: l) = (c.toNat - 48) * 10 ^ l.length + val l := by
     have := val_append [c] l
     rw [show [c] ++ l = c :: l from rfl] at this
     rw [this]; simp [val]
   rw [e, List.length_cons, Nat.pow_succ]
   have : (c.toNat - 48) * 10 ^ l.length ≤ 9 * 10 ^ l.length := Nat.mul_le_mul_right _ (by omega)
   omega
theorem row_in (l : List UInt8) (h1 : 1 ≤ rowC l) (h2 : rowC l ≤ 1000) : rowOk l = true ∧ (val l : Int) = rowC l := by
 unfold rowC at h1 h2 ⊢
 split at h1
 · rename_i e
   rw [if_pos e] at h2 ⊢
   obtain ⟨n, hn⟩ : ∃ n : Nat, Int.tdiv (rdV l) 10000 = n := ⟨(Int.tdiv (rdV l) 10000).toNat, by omega⟩
   rw [hn] at h1 h2 e ⊢
   rw [itoa_nat] at e
   obtain ⟨c, t, hd, hc⟩ := dec_head n (by omega)
   refine ⟨?_, by rw [← e, dec_val]⟩
   unfold rowOk
   rw [← e, dec_all, hd]
   have := dec_len4 n (by omega)
   rw [hd] at this
   simp at this ⊢
   exact ⟨hc, this⟩
 · omega
theorem row_ok (l : List UInt8) (h : rowOk l = true) (hne : l ≠ []) : rowC l = val l := by
 unfold rowOk at h
 simp only [Bool.and_eq_true, decide_eq_true_eq, bne_iff_ne] at h
 obtain ⟨⟨ha, hh⟩, hl⟩ := h
 obtain ⟨d1, d2⟩ := dec_of_val l ha hh hne
 have hv : val l ≤ 9999 := by
   have := val_bd l ha
   have h10 : 10 ^ l.length ≤ 10 ^ 4 := Nat.pow_le_pow_right (by omega) hl
   omega
 unfold rowC
 have : rdV l = val l * 10000 := by have := rd_dec (val l) hv; rwa [d1] at this
 rw [this, show Int.tdiv ((val l : Int) * 10000) 10000 = val l from Int.mul_tdiv_cancel _ (by decide), itoa_nat, d1, if_pos rfl]
open Go.RowKit
set_option maxHeartbeats 1000000
theorem keep4 {w w1 : World} {a b c d : Value} {T : TypeId} (E : Ext (w.alloc (.cells #[a, b, c, d] T)) w1) : w.heap.size < w1.heap.size ∧
   (w1.cell? ⟨w.heap.size, 0, none⟩ = some a ∧ w1.cell? ⟨w.heap.size, 1, none⟩ = some b ∧ w1.cell? ⟨w.heap.size, 2, none⟩ = some c ∧ w1.cell? ⟨w.heap.size, 3, none⟩ = some d) ∧
   (w1.frozen? ⟨w.heap.size, 0, none⟩ = false ∧ w1.frozen? ⟨w.heap.size, 1, none⟩ = false ∧ w1.frozen? ⟨w.heap.size, 2, none⟩ = false ∧ w1.frozen? ⟨w.heap.size, 3, none⟩ = false) := by
 have hs : w.heap.size < (w.alloc (.cells #[a, b, c, d] T)).heap.size := by simp
 have k := fun o => E.cell.1 w.heap.size o hs
 have f := fun o => E.cell.2 w.heap.size o hs
 refine ⟨Nat.lt_of_lt_of_le hs E.sz, ⟨(k 0).trans ?_, (k 1).trans ?_, (k 2).trans ?_, (k 3).trans ?_⟩, (f 0).trans ?_, (f 1).trans ?_, (f 2).trans ?_, (f 3).trans ?_⟩
 all_goals simp [go_sem]
theorem fin4g (v : Value) {fn : Func} {Q : Ending → World → Prop} {a : Act} {w w1 : World} {b : Nat} {o0 o1 o2 o3 x0 x1 x2 x3 : Value}
   (k0 : w1.cell? ⟨b, 0, none⟩ = some o0) (k1 : w1.cell? ⟨b, 1, none⟩ = some o1) (k2 : w1.cell? ⟨b, 2, none⟩ = some o2) (k3 : w1.cell? ⟨b, 3, none⟩ = some o3)
   (hd : a.defers = []) (hb : w.heap.size ≤ b) (E : Ext w w1)
   (hr : ∀ W : World, W.cell? ⟨b, 0, none⟩ = some x0 → W.cell? ⟨b, 1, none⟩ = some x1 → W.cell? ⟨b, 2, none⟩ = some x2 → W.cell? ⟨b, 3, none⟩ = some x3 → (results fn a.tmps).run Try.prog W = .ok v W)
   (hQ : ∀ W, Ext w W → Q (.returned v) W) :
   bodyPost Try.prog fn Q .ret a ((((w1.setCell ⟨b, 0, none⟩ x0).setCell ⟨b, 1, none⟩ x1).setCell ⟨b, 2, none⟩ x2).setCell ⟨b, 3, none⟩ x3) := by
 have e0 := World.cell?_setCell_same w1 ⟨b, 0, none⟩ x0 (by rw [k0])
 have j1 : (w1.setCell ⟨b, 0, none⟩ x0).cell? ⟨b, 1, none⟩ = some o1 := by rw [World.cell?_setCell_other _ _ _ _ (by simp)]; exact k1
 have e1 := World.cell?_setCell_same _ ⟨b, 1, none⟩ x1 (by rw [j1])
 have j2 : ((w1.setCell ⟨b, 0, none⟩ x0).setCell ⟨b, 1, none⟩ x1).cell? ⟨b, 2, none⟩ = some o2 := by rw [World.cell?_setCell_other _ _ _ _ (by simp), World.cell?_setCell_other _ _ _ _ (by simp)]; exact k2
 have e2 := World.cell?_setCell_same _ ⟨b, 2, none⟩ x2 (by rw [j2])
 have j3 : (((w1.setCell ⟨b, 0, none⟩ x0).setCell ⟨b, 1, none⟩ x1).setCell ⟨b, 2, none⟩ x2).cell? ⟨b, 3, none⟩ = some o3 := by
   rw [World.cell?_setCell_other _ _ _ _ (by simp), World.cell?_setCell_other _ _ _ _ (by simp), World.cell?_setCell_other _ _ _ _ (by simp)]; exact k3
 have e3 := World.cell?_setCell_same _ ⟨b, 3, none⟩ x3 (by rw [j3])
 refine bodyPost_ret (hr _ ?_ ?_ ?_ e3) hd (hQ _ ((((E.setCell hb _).setCell hb _).setCell hb _).setCell hb _))
 · rw [World.cell?_setCell_other _ _ _ _ (by simp), World.cell?_setCell_other _ _ _ _ (by simp), World.cell?_setCell_other _ _ _ _ (by simp)]; exact e0
 · rw [World.cell?_setCell_other _ _ _ _ (by simp), World.cell?_setCell_other _ _ _ _ (by simp)]; exact e1
 · rw [World.cell?_setCell_other _ _ _ _ (by simp)]; exact e2
theorem fin4 {fn : Func} {Q : Ending → World → Prop} {a : Act} {w w1 : World} {b : Nat} {o0 o1 o2 o3 x0 x1 x2 x3 : Value}
   (k0 : w1.cell? ⟨b, 0, none⟩ = some o0) (k1 : w1.cell? ⟨b, 1, none⟩ = some o1) (k2 : w1.cell? ⟨b, 2, none⟩ = some o2) (k3 : w1.cell? ⟨b, 3, none⟩ = some o3)
   (hd : a.defers = []) (hb : w.heap.size ≤ b) (E : Ext w w1)
   (hr : ∀ W : World, W.cell? ⟨b, 0, none⟩ = some x0 → W.cell? ⟨b, 1, none⟩ = some x1 → W.cell? ⟨b, 2, none⟩ = some x2 → W.cell? ⟨b, 3, none⟩ = some x3 → (results fn a.tmps).run Try.prog W = .ok (.agg #[x0, x1, x2, x3]) W)
   (hQ : ∀ W, Ext w W → Q (.returned (.agg #[x0, x1, x2, x3])) W) :
   bodyPost Try.prog fn Q .ret a ((((w1.setCell ⟨b, 0, none⟩ x0).setCell ⟨b, 1, none⟩ x1).setCell ⟨b, 2, none⟩ x2).setCell ⟨b, 3, none⟩ x3) := fin4g _ k0 k1 k2 k3 hd hb E hr hQ
theorem fin4b (t : Bool) {fn : Func} {Q : Ending → World → Prop} {a : Act} {w w1 : World} {b : Nat} {o0 o1 o2 o3 x0 x1 x2 x3 : Value}
   (k0 : w1.cell? ⟨b, 0, none⟩ = some o0) (k1 : w1.cell? ⟨b, 1, none⟩ = some o1) (k2 : w1.cell? ⟨b, 2, none⟩ = some o2) (k3 : w1.cell? ⟨b, 3, none⟩ = some o3)
   (hd : a.defers = []) (hb : w.heap.size ≤ b) (E : Ext w w1)
   (hr : ∀ W : World, W.cell? ⟨b, 0, none⟩ = some x0 → W.cell? ⟨b, 1, none⟩ = some x1 → W.cell? ⟨b, 2, none⟩ = some x2 → W.cell? ⟨b, 3, none⟩ = some x3 → (results fn a.tmps).run Try.prog W = .ok (.tuple #[.agg #[x0, x1, x2, x3], .bool t]) W)
   (hQ : ∀ W, Ext w W → Q (.returned (.tuple #[.agg #[x0, x1, x2, x3], .bool t])) W) :
   bodyPost Try.prog fn Q .ret a ((((w1.setCell ⟨b, 0, none⟩ x0).setCell ⟨b, 1, none⟩ x1).setCell ⟨b, 2, none⟩ x2).setCell ⟨b, 3, none⟩ x3) := fin4g _ k0 k1 k2 k3 hd hb E hr hQ
def Blk (W : World) (b : Nat) (x0 x1 x2 x3 : Value) : Prop := b < W.heap.size ∧
 (W.cell? ⟨b, 0, none⟩ = some x0 ∧ W.cell? ⟨b, 1, none⟩ = some x1 ∧ W.cell? ⟨b, 2, none⟩ = some x2 ∧ W.cell? ⟨b, 3, none⟩ = some x3) ∧
 (W.frozen? ⟨b, 0, none⟩ = false ∧ W.frozen? ⟨b, 1, none⟩ = false ∧ W.frozen? ⟨b, 2, none⟩ = false ∧ W.frozen? ⟨b, 3, none⟩ = false)
theorem blk_top {w w1 : World} {x0 x1 x2 x3 : Value} {T : TypeId} {b : Nat} (hb : b = w.heap.size) (E : Ext (w.alloc (.cells #[x0, x1, x2, x3] T)) w1) : Blk w1 b x0 x1 x2 x3 := by subst hb; exact keep4 E
theorem Blk.ext {w w' : World} {b : Nat} {x0 x1 x2 x3 : Value} (h : Blk w b x0 x1 x2 x3) (e : Ext w w') : Blk w' b x0 x1 x2 x3 := by
 obtain ⟨z, ⟨k0, k1, k2, k3⟩, f0, f1, f2, f3⟩ := h
 have k := fun o => e.cell.1 b o z
 have f := fun o => e.cell.2 b o z
 exact ⟨Nat.lt_of_lt_of_le z e.sz, ⟨(k 0).trans k0, (k 1).trans k1, (k 2).trans k2, (k 3).trans k3⟩, (f 0).trans f0, (f 1).trans f1, (f 2).trans f2, (f 3).trans f3⟩
theorem Blk.far1 {w : World} {b c : Nat} {x0 x1 x2 x3 : Value} (h : Blk w b x0 x1 x2 x3) (hc : c ≠ b) (o : Nat) (v : Value) : Blk (w.setCell ⟨c, o, none⟩ v) b x0 x1 x2 x3 := by
 obtain ⟨z, ⟨k0, k1, k2, k3⟩, f0, f1, f2, f3⟩ := h
 refine ⟨by simpa [World.setCell] using z, ⟨?_, ?_, ?_, ?_⟩, ?_, ?_, ?_, ?_⟩
 · rw [World.cell?_setCell_far _ _ _ _ hc]; exact k0
 · rw [World.cell?_setCell_far _ _ _ _ hc]; exact k1
 · rw [World.cell?_setCell_far _ _ _ _ hc]; exact k2
 · rw [World.cell?_setCell_far _ _ _ _ hc]; exact k3
 · rw [World.frozen?_setCell]; exact f0
 · rw [World.frozen?_setCell]; exact f1
 · rw [World.frozen?_setCell]; exact f2
 · rw [World.frozen?_setCell]; exact f3
theorem Blk.far {w : World} {b c : Nat} {x0 x1 x2 x3 : Value} (h : Blk w b x0 x1 x2 x3) (hc : c ≠ b) (y0 y1 y2 y3 : Value) :
   Blk ((((w.setCell ⟨c, 0, none⟩ y0).setCell ⟨c, 1, none⟩ y1).setCell ⟨c, 2, none⟩ y2).setCell ⟨c, 3, none⟩ y3) b x0 x1 x2 x3 := (((h.far1 hc _ _).far1 hc _ _).far1 hc _ _).far1 hc _ _
theorem Blk.set {w1 : World} {b : Nat} {o0 o1 o2 o3 : Value} (h : Blk w1 b o0 o1 o2 o3) (x0 x1 x2 x3 : Value) :
   Blk ((((w1.setCell ⟨b, 0, none⟩ x0).setCell ⟨b, 1, none⟩ x1).setCell ⟨b, 2, none⟩ x2).setCell ⟨b, 3, none⟩ x3) b x0 x1 x2 x3 := by
 obtain ⟨z, ⟨k0, k1, k2, k3⟩, f0, f1, f2, f3⟩ := h
 have e0 := World.cell?_setCell_same w1 ⟨b, 0, none⟩ x0 (by rw [k0])
 have j1 : (w1.setCell ⟨b, 0, none⟩ x0).cell? ⟨b, 1, none⟩ = some o1 := by rw [World.cell?_setCell_other _ _ _ _ (by simp)]; exact k1
 have e1 := World.cell?_setCell_same _ ⟨b, 1, none⟩ x1 (by rw [j1])
 have j2 : ((w1.setCell ⟨b, 0, none⟩ x0).setCell ⟨b, 1, none⟩ x1).cell? ⟨b, 2, none⟩ = some o2 := by rw [World.cell?_setCell_other _ _ _ _ (by simp), World.cell?_setCell_other _ _ _ _ (by simp)]; exact k2
 have e2 := World.cell?_setCell_same _ ⟨b, 2, none⟩ x2 (by rw [j2])
 have j3 : (((w1.setCell ⟨b, 0, none⟩ x0).setCell ⟨b, 1, none⟩ x1).setCell ⟨b, 2, none⟩ x2).cell? ⟨b, 3, none⟩ = some o3 := by
   rw [World.cell?_setCell_other _ _ _ _ (by simp), World.cell?_setCell_other _ _ _ _ (by simp), World.cell?_setCell_other _ _ _ _ (by simp)]; exact k3
 have e3 := World.cell?_setCell_same _ ⟨b, 3, none⟩ x3 (by rw [j3])
 refine ⟨by simpa [World.setCell] using z, ⟨?_, ?_, ?_, e3⟩, ?_, ?_, ?_, ?_⟩
 · rw [World.cell?_setCell_other _ _ _ _ (by simp), World.cell?_setCell_other _ _ _ _ (by simp), World.cell?_setCell_other _ _ _ _ (by simp)]; exact e0
 · rw [World.cell?_setCell_other _ _ _ _ (by simp), World.cell?_setCell_other _ _ _ _ (by simp)]; exact e1
 · rw [World.cell?_setCell_other _ _ _ _ (by simp)]; exact e2
 · simp only [World.frozen?_setCell]; exact f0
 · simp only [World.frozen?_setCell]; exact f1
 · simp only [World.frozen?_setCell]; exact f2
 · simp only [World.frozen?_setCell]; exact f3
theorem Blk.dr {w : World} {b : Nat} {x0 x1 x2 x3 : Value} (h : Blk w b x0 x1 x2 x3) : Blk w.drew b x0 x1 x2 x3 := h.ext (Ext.drew (Ext.refl _))
theorem Blk.al {w : World} {b : Nat} {x0 x1 x2 x3 : Value} (o : Obj) (h : Blk w b x0 x1 x2 x3) : Blk (w.alloc o) b x0 x1 x2 x3 := h.ext (Ext.alloc (Ext.refl _) _)
theorem Blk.put0 {w : World} {b : Nat} {x0 x1 x2 x3 : Value} (h : Blk w b x0 x1 x2 x3) (v : Value) : Blk (w.setCell ⟨b, 0, none⟩ v) b v x1 x2 x3 := by
 obtain ⟨z, ⟨k0, k1, k2, k3⟩, f0, f1, f2, f3⟩ := h
 refine ⟨by simpa [World.setCell] using z, ⟨World.cell?_setCell_same _ ⟨b, 0, none⟩ _ (by rw [k0]), ?_, ?_, ?_⟩, ?_, ?_, ?_, ?_⟩
 · rw [World.cell?_setCell_other _ _ _ _ (by simp)]; exact k1
 · rw [World.cell?_setCell_other _ _ _ _ (by simp)]; exact k2
 · rw [World.cell?_setCell_other _ _ _ _ (by simp)]; exact k3
 · rw [World.frozen?_setCell]; exact f0
 · rw [World.frozen?_setCell]; exact f1
 · rw [World.frozen?_setCell]; exact f2
 · rw [World.frozen?_setCell]; exact f3
theorem Blk.put1 {w : World} {b : Nat} {x0 x1 x2 x3 : Value} (h : Blk w b x0 x1 x2 x3) (v : Value) : Blk (w.setCell ⟨b, 1, none⟩ v) b x0 v x2 x3 := by
 obtain ⟨z, ⟨k0, k1, k2, k3⟩, f0, f1, f2, f3⟩ := h
 refine ⟨by simpa [World.setCell] using z, ⟨?_, World.cell?_setCell_same _ ⟨b, 1, none⟩ _ (by rw [k1]), ?_, ?_⟩, ?_, ?_, ?_, ?_⟩
 · rw [World.cell?_setCell_other _ _ _ _ (by simp)]; exact k0
 · rw [World.cell?_setCell_other _ _ _ _ (by simp)]; exact k2
 · rw [World.cell?_setCell_other _ _ _ _ (by simp)]; exact k3
 · rw [World.frozen?_setCell]; exact f0
 · rw [World.frozen?_setCell]; exact f1
 · rw [World.frozen?_setCell]; exact f2
 · rw [World.frozen?_setCell]; exact f3
open Go.RowKit
set_option maxHeartbeats 1000000
theorem iscol_any (c : Int) (w : World) : Calls Try.prog 43 #[.int .i64 c] w fun e w' => e = .returned (.bool (colB c)) ∧ w' = w := by
 cases h1 : decide (1 ≤ c) <;> cases h2 : decide (c ≤ 52) <;>
 · have HR : Hid (colB c = (decide (1 ≤ c) && decide (c ≤ 52))) := rfl
   rw [h1, h2] at HR
   have h3 := h1
   have h4 := h2
   simp only [decide_eq_true_eq, decide_eq_false_iff_not] at h3 h4
   go_enter Try.func43, Try.ntmps43
   go_wp2_with fail
   go_ret
   exact ⟨ret_bool HR.out.symm, rfl⟩
theorem in_eq (r c : Int) : inB r c = (decide (1 ≤ r) && decide (r ≤ 1000) && colB c) := by unfold inB colB; simp [Bool.and_assoc]
theorem in_any (r c : Int) (w : World) : Calls Try.prog 23 #[.int .i64 r, .int .i64 c] w fun e w' => e = .returned (.bool (inB r c)) ∧ w' = w := by
 have k := fun W => iscol_any c W
 cases h1 : decide (1 ≤ r) <;> cases h2 : decide (r ≤ 1000) <;>
 · have HR : Hid (inB r c = (decide (1 ≤ r) && decide (r ≤ 1000) && colB c)) := in_eq r c
   rw [h1, h2] at HR
   have h3 := h1
   have h4 := h2
   simp only [decide_eq_true_eq, decide_eq_false_iff_not] at h3 h4
   go_enter Try.func23, Try.ntmps23
   first
     | (go_wp2_with fail
        refine (k _).mono ?_
        rintro e w' ⟨rfl, rfl⟩
        go_wp2_with fail
        go_ret
        exact ⟨ret_bool HR.out.symm, rfl⟩)
     | (go_wp2_with fail
        go_ret
        exact ⟨ret_bool HR.out.symm, rfl⟩)
theorem rin_any (r c : Int) (w : World) : Calls Try.prog 28 #[.int .i64 r, .int .i64 c] w fun e w' => e = .returned (.bool (inB r c)) ∧ w' = w := by
 cases h1 : decide (1 ≤ r) <;> cases h2 : decide (r ≤ 1000) <;> cases h5 : decide (1 ≤ c) <;> cases h6 : decide (c ≤ 52) <;>
 · have HR : Hid (inB r c = (decide (1 ≤ r) && decide (r ≤ 1000) && decide (1 ≤ c) && decide (c ≤ 52))) := rfl
   rw [h1, h2, h5, h6] at HR
   have h3 := h1
   have h4 := h2
   have h7 := h5
   have h8 := h6
   simp only [decide_eq_true_eq, decide_eq_false_iff_not] at h3 h4 h7 h8
   go_enter Try.func28, Try.ntmps28
   go_wp2_with fail
   go_ret
   exact ⟨ret_bool HR.out.symm, rfl⟩
open Go.RowKit
set_option maxHeartbeats 1000000
open Go.RowKit
set_option maxHeartbeats 1000000
theorem ret_s' {a b : ByteArray} (h : a = b) : Ending.returned (.string a) = .returned (.string b) := by rw [h]
theorem app_list' (a b : ByteArray) : (a ++ b).data.toList = a.data.toList ++ b.data.toList := by rw [ByteArray.data_append, Array.toList_append]
theorem bytes_eq {a b : ByteArray} (h : a.data.toList = b.data.toList) : a = b := by rw [← Lib.mk_data a, ← Lib.mk_data b, h]
theorem conv_ltr (x : UInt8) (w : World) : (convert 99 9 (.slice (some ⟨w.heap.size, 0, none⟩) 1 1)).run Try.prog (w.alloc (.cells #[.int .u8 x.toNat] 5)) = .ok (.string ⟨#[x]⟩) (w.alloc (.cells #[.int .u8 x.toNat] 5)) := by
 have := run_convert_bytes_arg (P := Try.prog) (w.alloc (.cells #[.int .u8 x.toNat] 5)) 99 5 Try.underlying99 Try.underlying5 w.heap.size 0 1 1 [(x.toNat : Int)] rfl (fun i hi => by
   obtain rfl : i = 0 := by omega
   simp) 9 Try.underlying9
 rw [this]
 simp [strOfNums]
def abc : ByteArray := ⟨#[65, 66, 67, 68, 69, 70, 71, 72, 73, 74, 75, 76, 77, 78, 79, 80, 81, 82, 83, 84, 85, 86, 87, 88, 89, 90]⟩
theorem abc_at : ∀ i : Fin 26, abc[i.val]'(i.isLt) = UInt8.ofNat (65 + i.val) := by decide +kernel
set_option maxRecDepth 100000 in
theorem rcolname_any (c : Int) (hc : I64 c) (w : World) :
   Calls Try.prog 61 #[.int .i64 c] w fun e w' => e = .returned (.string ⟨(nameL c).toArray⟩) ∧ Ext w w' := by
 obtain ⟨b1, b2⟩ := hc
 by_cases c1 : c < 1
 · have HN : Hid (nameL c = []) := by show nameL c = []; unfold nameL colB; rw [if_neg (by simp; omega)]
   have h3 : decide (c < 1) = true := by simpa using c1
   go_enter Try.func61, Try.ntmps61
   go_wp2_with fail
   go_ret
   exact ⟨ret_s' (by rw [HN.out]), Ext.refl _⟩
 have h3 : decide (c < 1) = false := by simpa using c1
 by_cases c2 : 52 < c
 · have HN : Hid (nameL c = []) := by show nameL c = []; unfold nameL colB; rw [if_neg (by simp; omega)]
   have h4 : decide (52 < c) = true := by simpa using c2
   go_enter Try.func61, Try.ntmps61
   go_wp2_with fail
   go_ret
   exact ⟨ret_s' (by rw [HN.out]), Ext.refl _⟩
 have h4 : decide (52 < c) = false := by simpa using c2
 obtain ⟨n, hn⟩ : ∃ n : Nat, c = (n : Int) + 1 := ⟨(c - 1).toNat, by omega⟩
 subst hn
 have n1 : (n : Int) ≤ 51 := by omega
 have n0 : (0 : Int) ≤ n := by omega
 have HN1 : Hid (n < 26 → nameL ((n : Int) + 1) = [UInt8.ofNat (65 + n % 26)]) := by
   show _ → _; intro h; unfold nameL colB; rw [if_pos (by simp; omega), if_pos (by omega)]; unfold ltr; congr 3
 have HN2 : Hid (¬ n < 26 → nameL ((n : Int) + 1) = [65, UInt8.ofNat (65 + n % 26)]) := by
   show _ → _; intro h; unfold nameL colB; rw [if_pos (by simp; omega), if_neg (by omega)]; unfold ltr; congr 4
 generalize hx : UInt8.ofNat (65 + n % 26) = x at HN1 HN2
 have cv := conv_ltr x w
 generalize hX : (⟨#[x]⟩ : ByteArray) = X at cv
 have CV : Hid (_ = _) := cv
 have hXs : X.size = 1 := by rw [← hX]; rfl
 have HX : Hid (X.data.toList = [x]) := by show _ = _; rw [← hX]
 obtain ⟨k, hk⟩ : ∃ k : Nat, k = n % 26 := ⟨_, rfl⟩
 have hk1 : (n : Int) % 26 = (k : Int) := by omega
 have hk2 : (k : Int) < 26 := by omega
 have hk0 : (0 : Int) ≤ k := by omega
 obtain ⟨S, hS⟩ : ∃ S : ByteArray, abc = S := ⟨_, rfl⟩
 have hSs : S.size = 26 := by rw [← hS]; rfl
 have hlt : k < S.size := by omega
 have hSk : S[k]'hlt = x := by
   subst hS
   rw [← hx, ← hk]
   exact abc_at ⟨k, by omega⟩
 unfold abc at hS
 clear hx hX cv c1 c2 b1 b2 hk
 go_enter Try.func61, Try.ntmps61
 go_wp2_with fail
 rw [CV.out]
 by_cases h : n < 26
 · have HL : Hid (nameL ((n : Int) + 1) = [x]) := HN1.out h
   have h5 : (n : Int) + 1 ≤ 26 := by omega
   clear h
   go_wp2_with fail
   go_ret
   exact ⟨ret_s' (by rw [HL.out, ← HX.out, Lib.mk_data]), (Ext.refl _).alloc _⟩
 · have HL : Hid (nameL ((n : Int) + 1) = [65, x]) := HN2.out h
   have h5 : (26 : Int) < (n : Int) + 1 := by omega
   clear h
   go_wp2_with fail
   go_ret
   exact ⟨ret_s' (bytes_eq (by rw [HL.out, app_list', HX.out]; rfl)), (Ext.refl _).alloc _⟩
theorem name_eq (k : Nat) (s : ByteArray) (h1 : 1 ≤ k) (h2 : k ≤ 52) : ((⟨(nameL k).toArray⟩ : ByteArray).toList == s.toList) = decide (colN s.data.toList = k) := by
 rw [ByteArray.toList_eq, ByteArray.toList_eq, Bool.eq_iff_iff, beq_iff_eq, decide_eq_true_eq]
 exact name_inj k s.data.toList h1 h2
theorem rcolnumber_any (s : ByteArray) (w : World) :
   Calls Try.prog 89 #[.string s] w fun e w' => e = .returned (.int .i64 (colN s.data.toList)) ∧ Ext w w' := by
 have HL : Hid (colN s.data.toList ≤ 52) := colN_le _
 go_enter Try.func89, Try.ntmps89
 go_wp2_with fail
 go_loopw [3] (fun v3 wx => ∃ g k : Nat, k + g = 53 ∧ 1 ≤ k ∧ v3 = .int .i64 k ∧ Ext w wx ∧ (colN s.data.toList = 0 ∨ k ≤ colN s.data.toList)) (fun v3 _ => 53 - (intOf v3).toNat)
 case atStart => exact ⟨52, 1, rfl, Nat.le_refl _, rfl, Ext.refl _, by omega⟩
 case round =>
   obtain ⟨g, k, hk, k1, rfl, E, hc⟩ := hrel
   have HC : Hid (colN s.data.toList = 0 ∨ k ≤ colN s.data.toList) := hc
   clear hc
   cases g with
   | zero =>
     obtain rfl : k = 53 := by omega
     have HZ : Hid (colN s.data.toList = 0) := by
       show _ = _
       have := HC.out; have := HL.out; omega
     clear hk k1
     go_wp2_with fail
     go_ret
     exact ⟨ret_int (by rw [HZ.out]; rfl), E⟩
   | succ g =>
     have kk : (k : Int) ≤ 52 := by omega
     have k2 : k ≤ 52 := by omega
     have c := fun W => rcolname_any (k : Int) ⟨by omega, by omega⟩ W
     have hq := name_eq k s k1 k2
     have HK : Hid (k + (g + 1) = 53) := hk
     have HK1 : Hid (1 ≤ k) := k1
     generalize (⟨(nameL k).toArray⟩ : ByteArray) = q at c hq
     clear hk k2 k1
     by_cases h : colN s.data.toList = k
     · rw [show decide (colN s.data.toList = k) = true from by simpa using h] at hq
       have H : Hid (colN s.data.toList = k) := h
       clear h
       go_wp2_with fail
       refine (c _).mono ?_
       rintro e w1 ⟨rfl, E1⟩
       go_wp2_with fail
       go_ret
       exact ⟨ret_int (by rw [H.out]), E.trans E1⟩
     · rw [show decide (colN s.data.toList = k) = false from by simpa using h] at hq
       have H : Hid (colN s.data.toList ≠ k) := h
       clear h
       go_wp2_with fail
       refine (c _).mono ?_
       rintro e w1 ⟨rfl, E1⟩
       go_wp2_with fail
       go_roundw
       case measure => have := HK.out; simp [intOf]; omega
       case rel =>
         exact ⟨g, k + 1, by have := HK.out; omega, by omega, by go_num, E.trans E1, by have := HC.out; have := H.out; omega⟩
open Go.RowKit
set_option maxHeartbeats 1000000
end Go.Proofs.Ytjhmbkdkjgjoaaa

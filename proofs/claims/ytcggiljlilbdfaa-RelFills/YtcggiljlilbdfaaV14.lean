/-
 Formulas as they are filled down, as trees. Plain mathematics: no program in sight.
 The document's Small: a tree with not too many parts, and not too deep.
 A struct of 2 fields in a block of its own: laid, kept, stored; the end of a function whose result lies in one.
 The contracts of the reader's small steps: here, isSign, take, pass.
-/
import Derived.Test.YtcggiljlilbdfaaV11
import Derived.Test.YtcggiljlilbdfaaV12
import Derived.Test.YtcggiljlilbdfaaV13
import Derived.Test.YtcggiljlilbdfaaV1
namespace Go.Proofs.Ytcggiljlilbdfaa
open Go.RowKit

/-- A tree with another place, two other places, other parts. -/
def T.wR (t : T) (r : Rf) : T := .mk t.k t.n t.s t.e r t.q t.l
def T.wRQ (t : T) (r q : Rf) : T := .mk t.k t.n t.s t.e r q t.l
def T.wL (t : T) (l : List T) : T := .mk t.k t.n t.s t.e t.r t.q l
theorem wL_self (t : T) : t.wL t.l = t := by cases t; rfl
/-- A place so many rows and columns on, where it is not absolute. -/
def mvF (dr dc : Int) (r : Rf) : Rf := (if r.2.2.1 then r.1 else wrap64 (r.1 + dr), if r.2.2.2 then r.2.1 else wrap64 (r.2.1 + dc), r.2.2.1, r.2.2.2)
/-- One tree, not its parts, so moved. -/
def mvE (dr dc : Int) (t : T) : T := if t.k = 4 then t.wR (mvF dr dc t.r) else if t.k = 5 then t.wRQ (mvF dr dc t.r) (mvF dr dc t.q) else t
/-- Whether a kind has parts. -/
def prB (k : Int) : Bool := decide (k = 6 ∨ k = 7 ∨ k = 8)
/-- Each part, and then the tree itself, as g makes it. -/
def mpT (g : T → T) : Nat → T → T
 | 0, t => t
 | n + 1, t => g (t.wL (t.l.map (if prB t.k then mpT g n else id)))
theorem mpT_id (n : Nat) : ∀ t, mpT id n t = t := by
 induction n with
 | zero => intro t; rfl
 | succ n ih =>
   intro t
   have : (if prB t.k then mpT id n else id) = id := by
     split
     · funext x; exact ih x
     · rfl
   rw [mpT, this, List.map_id]
   exact wL_self t
/-- The rectangle of two places. -/
def rcT (a b : Rf) : Int × Int × Int × Int := if rcB a.1 a.2.1 b.1 b.2.1 then (mnI a.1 b.1, mnI a.2.1 b.2.1, mxI a.1 b.1, mxI a.2.1 b.2.1) else (0, 0, 0, 0)
theorem rcD_T (a b : Rf) : rcD a.1 a.2.1 b.1 b.2.1 = .agg #[.int .i64 (rcT a b).1, .int .i64 (rcT a b).2.1, .int .i64 (rcT a b).2.2.1, .int .i64 (rcT a b).2.2.2] := by
 unfold rcD rcT rectD
 split <;> rfl
theorem rcT_0 (a b : Rf) : rcT a b = (0, 0, 0, 0) ↔ rcB a.1 a.2.1 b.1 b.2.1 = false := by
 unfold rcT
 cases h : rcB a.1 a.2.1 b.1 b.2.1 with
 | false => simp
 | true =>
   simp
   intro h1
   unfold rcB inB at h
   simp at h
   unfold mnI at h1
   split at h1 <;> omega
/-- One tree, not its parts, as it is filled. -/
def fiE (dr dc : Int) (t : T) : T := if t.k = 4 ∧ rcB (mvF dr dc t.r).1 (mvF dr dc t.r).2.1 (mvF dr dc t.r).1 (mvF dr dc t.r).2.1 = false ∨ t.k = 5 ∧ rcB (mvF dr dc t.r).1 (mvF dr dc t.r).2.1 (mvF dr dc t.q).1 (mvF dr dc t.q).2.1 = false then tErr 1 else mvE dr dc t
/-- The places that a tree names, from left to right. -/
def refsT : Nat → T → List (Int × Int × Int × Int)
 | 0, _ => []
 | n + 1, t => if t.k = 4 then [rcT t.r t.r] else if t.k = 5 then [rcT t.r t.q] else if prB t.k then (t.l.map (refsT n)).flatten else []
/-- How many errors a tree has. -/
def erT : Nat → T → Nat
 | 0, _ => 0
 | n + 1, t => (if t.k = 3 then 1 else 0) + (if prB t.k then (t.l.map (erT n)).sum else 0)

open Go.RowKit
set_option maxHeartbeats 6000000

def SmQ (n : Nat) (t : T) (most : Int) (W : World) (e : Ending) (w' : World) : Prop :=
 ∃ (m : Int) (ok : Bool), e = .returned (.tuple #[.int .i64 m, .bool ok]) ∧ Ext W w' ∧ 1 ≤ m ∧ m ≤ 2000 + n ∧ m ≤ max most 1 + n ∧ (ok = true → m = szT n t ∧ Hr n t ∧ m ≤ max most 1)
def Sml (n : Nat) (t : T) : Prop := ∀ (W : World) (P : Nat → Prop) (pp : Option Addr) (ln cl : Nat) (most : Int), (n : Int) - 402 ≤ most → most ≤ 2000 → IsL W P (.slice pp ln cl) t.l →
 Calls Try.prog 37 #[.agg #[.int .i64 t.k, .int .i64 t.n, .string (bs t.s), .int .i64 t.e, .int .i64 t.r.1, .int .i64 t.r.2.1, .bool t.r.2.2.1, .bool t.r.2.2.2, .int .i64 t.q.1, .int .i64 t.q.2.1, .bool t.q.2.2.1, .bool t.q.2.2.2, .slice pp ln cl], .int .i64 most, .int .i64 (401 - (n : Int))] W (SmQ n t most W)
theorem sum_take {l : List T} {n j : Nat} {x : T} (h : l[j]? = some x) : ((l.take (j + 1)).map (szT n)).sum = ((l.take j).map (szT n)).sum + szT n x := by
 rw [List.take_add_one, h]; simp
set_option maxRecDepth 100000 in
theorem small_deep (t : T) : Sml 0 t := by
 intro W P pp ln cl most _ _ _
 have hd : (401 : Int) - ((0 : Nat) : Int) = 401 := rfl
 rw [hd]
 clear hd
 go_enter Try.func37, Try.ntmps37
 go_wp2_with fail
 go_ret2
 exact ⟨1, false, rfl, (Ext.refl _).alloc _, by omega, by omega, by omega, fun h => by cases h⟩
set_option maxRecDepth 100000 in
theorem small_step (n : Nat) (hn : n ≤ 400) (ih : ∀ x, Sml n x) (t : T) : Sml (n + 1) t := by
 intro W P pp ln cl most hm1 hm2 hL
 have hln : ln = t.l.length := by
   obtain ⟨p, c, h1, _⟩ := hL.form
   cases h1; rfl
 obtain ⟨d, hd⟩ : ∃ d : Int, 401 - ((n + 1 : Nat) : Int) = d := ⟨_, rfl⟩
 have HD : Hid (401 - (n : Int) = d + 1) := by show _ = _; omega
 have hd0 : 0 ≤ d := by omega
 have hd1 : d ≤ 400 := by omega
 rw [hd]
 have HI : Hid (IsL W P (.slice pp ln cl) t.l) := hL
 have HLN : Hid (ln = t.l.length) := hln
 have HN : Hid (n ≤ 400 ∧ ((n + 1 : Nat) : Int) - 402 ≤ most ∧ most ≤ 2000) := ⟨hn, hm1, hm2⟩
 have HIH : Hid (∀ x, Sml n x) := ih
 have hmA : -1000 ≤ most := by omega
 clear hL hln hd ih hn hm1
 go_enter Try.func37, Try.ntmps37
 go_wp2_with fail
 go_loopw [8, 9] (fun nv iv wr => ∃ (j : Nat) (a : Int), j ≤ ln ∧ nv = .int .i64 a ∧ iv = .int .i64 (j : Int) ∧ (j : Int) + 1 ≤ a ∧ a ≤ max most 1 ∧ a = 1 + (((t.l.take j).map (szT n)).sum : Nat) ∧ (∀ x ∈ t.l.take j, Hr n x) ∧ BlkX wr W.heap.size t (.slice pp ln cl) ∧ Ext W wr) (fun _ iv _ => ln - (intOf iv).toNat)
 case atStart => exact ⟨0, 1, Nat.zero_le _, rfl, rfl, by omega, by omega, by simp, fun x hx => by simp at hx, blk13_top rfl (Ext.refl _), (Ext.refl _).alloc _⟩
 case round =>
   obtain ⟨j, a, hj, rfl, rfl, ha1, ha2, ha3, hg, hB, hE⟩ := hrel
   have HE : Hid (Ext W wr ∧ (∀ x ∈ t.l.take j, Hr n x) ∧ a = 1 + (((t.l.take j).map (szT n)).sum : Nat)) := ⟨hE, hg, ha3⟩
   have HBX : Hid (BlkX wr W.heap.size t (.slice pp ln cl)) := hB
   have HA2 : Hid (a ≤ max most 1) := ha2
   have ha4 : a ≤ 2000 := by omega
   obtain ⟨qz, ⟨k0, k1, k2, k3, k4, k5, k6, k7, k8, k9, k10, k11, k12⟩, gz⟩ := hB
   clear hE hg ha3 ha2 gz
   by_cases hlt : j < ln
   · have hltI : (j : Int) < (ln : Int) := by omega
     have hI := HI.out.ext HE.out.1
     obtain ⟨gb, off, x, lv, hpp, hx1, hA1, hgb, hA2, hLx, hce⟩ := hI.at (i := j) (by rw [← HLN.out]; exact hlt)
     clear hA1 hA2
     subst hpp
     obtain ⟨pp, cl', hlv, hcl⟩ := hLx.form
     obtain ⟨ln', hln'⟩ : ∃ ln', x.l.length = ln' := ⟨_, rfl⟩
     rw [hln'] at hlv
     subst hlv
     have HX1 : Hid (t.l[j]? = some x) := hx1
     have HC : Hid (Calls Try.prog 37 #[.agg #[.int .i64 x.k, .int .i64 x.n, .string (bs x.s), .int .i64 x.e, .int .i64 x.r.1, .int .i64 x.r.2.1, .bool x.r.2.2.1, .bool x.r.2.2.2, .int .i64 x.q.1, .int .i64 x.q.2.1, .bool x.q.2.2.1, .bool x.q.2.2.2, .slice pp ln' cl'], .int .i64 (most - a), .int .i64 (d + 1)] wr (SmQ n x (most - a) wr)) := by
       have := HIH.out x wr P pp ln' cl' (most - a) (by have := HN.out; have := HA2.out; omega) (by omega) hLx
       rw [HD.out] at this
       exact this
     have e0 : wr.cell? ⟨gb, off + j * 13, none⟩ = some (.int .i64 x.k) := hce 0 _ rfl
     have e1 : wr.cell? ⟨gb, off + j * 13 + 1, none⟩ = some (.int .i64 x.n) := hce 1 _ rfl
     have e2 : wr.cell? ⟨gb, off + j * 13 + 2, none⟩ = some (.string (bs x.s)) := hce 2 _ rfl
     have e3 : wr.cell? ⟨gb, off + j * 13 + 3, none⟩ = some (.int .i64 x.e) := hce 3 _ rfl
     have e4 : wr.cell? ⟨gb, off + j * 13 + 4, none⟩ = some (.int .i64 x.r.1) := hce 4 _ rfl
     have e5 : wr.cell? ⟨gb, off + j * 13 + 5, none⟩ = some (.int .i64 x.r.2.1) := hce 5 _ rfl
     have e6 : wr.cell? ⟨gb, off + j * 13 + 6, none⟩ = some (.bool x.r.2.2.1) := hce 6 _ rfl
     have e7 : wr.cell? ⟨gb, off + j * 13 + 7, none⟩ = some (.bool x.r.2.2.2) := hce 7 _ rfl
     have e8 : wr.cell? ⟨gb, off + j * 13 + 8, none⟩ = some (.int .i64 x.q.1) := hce 8 _ rfl
     have e9 : wr.cell? ⟨gb, off + j * 13 + 9, none⟩ = some (.int .i64 x.q.2.1) := hce 9 _ rfl
     have e10 : wr.cell? ⟨gb, off + j * 13 + 10, none⟩ = some (.bool x.q.2.2.1) := hce 10 _ rfl
     have e11 : wr.cell? ⟨gb, off + j * 13 + 11, none⟩ = some (.bool x.q.2.2.2) := hce 11 _ rfl
     have e12 : wr.cell? ⟨gb, off + j * 13 + 12, none⟩ = some (.slice pp ln' cl') := hce 12 _ rfl
     clear hI hx1 hLx hce hcl hln'
     go_wp2_with fail
     refine HC.out.mono ?_
     rintro e w1 ⟨m, ok, rfl, E1, hm1, hm2', hm3, hok⟩
     have HR : Hid (Ext W w1 ∧ m ≤ max (most - a) 1 + n ∧ (ok = true → m = szT n x ∧ Hr n x ∧ m ≤ max (most - a) 1)) := ⟨HE.out.1.trans E1, hm3, hok⟩
     have HBX1 : Hid (BlkX w1 W.heap.size t (.slice (some ⟨gb, off, none⟩) ln cl)) := HBX.out.ext E1
     have hmm : m ≤ 3000 := by have := HN.out; omega
     clear hm3 hok hm2' E1 k0 k1 k2 k3 k4 k5 k6 k7 k8 k9 k10 k11 k12 e0 e1 e2 e3 e4 e5 e6 e7 e8 e9 e10 e11 e12
     cases ok
     · go_wp2_with fail
       go_ret2
       have q1 := HR.out.2.1
       have q2 := HA2.out
       have q3 := HN.out
       exact ⟨a + m, false, rfl, HR.out.1, by omega, by omega, by omega, fun h => by cases h⟩
     · by_cases hgt : most < a + m
       · go_wp2_with fail
         go_ret2
         have q1 := HR.out.2.1
         have q2 := HA2.out
         have q3 := HN.out
         exact ⟨a + m, false, rfl, HR.out.1, by omega, by omega, by omega, fun h => by cases h⟩
       · go_wp2_with fail
         go_roundw
         case rel =>
           obtain ⟨y1, y2, y3⟩ := HR.out.2.2 trivial
           refine ⟨j + 1, a + m, by omega, rfl, by go_num, by omega, by omega, ?_, ?_, HBX1.out, HR.out.1⟩
           · rw [sum_take HX1.out, y1, HE.out.2.2]; omega
           · intro z hz
             rw [List.take_add_one, HX1.out] at hz
             rcases List.mem_append.1 hz with hz | hz
             · exact HE.out.2.1 z hz
             · simp at hz; subst hz; exact y2
         case measure => show ln - ((j : Int) + 1).toNat < ln - ((j : Int)).toNat; omega
   · have hltI : ¬ (j : Int) < (ln : Int) := by omega
     have hjl : j = ln := by omega
     have HT : Hid (t.l.take j = t.l) := by show _ = _; rw [hjl, HLN.out]; exact List.take_length
     clear hlt hjl
     go_wp2_with fail
     go_ret2
     have q1 := HE.out.2.2
     have q2 := HE.out.2.1
     rw [HT.out] at q1 q2
     have q3 := HA2.out
     refine ⟨a, true, rfl, HE.out.1, by omega, by omega, by omega, fun _ => ⟨?_, ⟨?_, q2⟩, q3⟩⟩
     · rw [q1, szT]; omega
     · have h1 : ∀ l : List T, l.length ≤ (l.map (szT n)).sum := by
         intro l
         induction l with
         | nil => simp
         | cons y r ih => simp only [List.map_cons, List.sum_cons, List.length_cons]; have := szT_pos n y; omega
       have := h1 t.l
       omega
theorem small_any (n : Nat) (hn : n ≤ 401) (t : T) : Sml n t := by
 induction n generalizing t with
 | zero => exact small_deep t
 | succ n ih => exact small_step n (by omega) (fun x => ih (by omega) x) t

open Go.RowKit
set_option maxHeartbeats 1000000

def Blk2 (W : World) (b : Nat) (x0 x1 : Value) : Prop := b < W.heap.size ∧
 (W.cell? ⟨b, 0, none⟩ = some x0 ∧ W.cell? ⟨b, 1, none⟩ = some x1) ∧
 (W.frozen? ⟨b, 0, none⟩ = false ∧ W.frozen? ⟨b, 1, none⟩ = false)
theorem Blk2.ext {w w' : World} {b : Nat} {x0 x1 : Value} (h : Blk2 w b x0 x1) (e : Ext w w') : Blk2 w' b x0 x1 := by
 obtain ⟨z, ⟨k0, k1⟩, f0, f1⟩ := h
 have k := fun o => e.cell.1 b o z
 have f := fun o => e.cell.2 b o z
 exact ⟨Nat.lt_of_lt_of_le z e.sz, ⟨(k 0).trans k0, (k 1).trans k1⟩, (f 0).trans f0, (f 1).trans f1⟩
theorem Blk2.far1 {w : World} {b c : Nat} {x0 x1 : Value} (h : Blk2 w b x0 x1) (hc : c ≠ b) (o : Nat) (v : Value) : Blk2 (w.setCell ⟨c, o, none⟩ v) b x0 x1 := by
 obtain ⟨z, ⟨k0, k1⟩, f0, f1⟩ := h
 refine ⟨by simpa [World.setCell] using z, ⟨?_, ?_⟩, ?_, ?_⟩
 · rw [World.cell?_setCell_far _ _ _ _ hc]; exact k0
 · rw [World.cell?_setCell_far _ _ _ _ hc]; exact k1
 · rw [World.frozen?_setCell]; exact f0
 · rw [World.frozen?_setCell]; exact f1
theorem Blk2.far {w : World} {b c : Nat} {x0 x1 : Value} (h : Blk2 w b x0 x1) (hc : c ≠ b) (y0 y1 : Value) :
   Blk2 ((w.setCell ⟨c, 0, none⟩ y0).setCell ⟨c, 1, none⟩ y1) b x0 x1 := ((h.far1 hc _ _).far1 hc _ _)
theorem Blk2.put0 {w : World} {b : Nat} {x0 x1 : Value} (h : Blk2 w b x0 x1) (v : Value) : Blk2 (w.setCell ⟨b, 0, none⟩ v) b v x1 := by
 obtain ⟨z, ⟨k0, k1⟩, f0, f1⟩ := h
 have e := World.cell?_setCell_same w ⟨b, 0, none⟩ v (by rw [k0])
 refine ⟨by simpa [World.setCell] using z, ⟨e, ?_⟩, ?_, ?_⟩
 · rw [World.cell?_setCell_other _ _ _ _ (by simp)]; exact k1
 · rw [World.frozen?_setCell]; exact f0
 · rw [World.frozen?_setCell]; exact f1
theorem Blk2.put1 {w : World} {b : Nat} {x0 x1 : Value} (h : Blk2 w b x0 x1) (v : Value) : Blk2 (w.setCell ⟨b, 1, none⟩ v) b x0 v := by
 obtain ⟨z, ⟨k0, k1⟩, f0, f1⟩ := h
 have e := World.cell?_setCell_same w ⟨b, 1, none⟩ v (by rw [k1])
 refine ⟨by simpa [World.setCell] using z, ⟨?_, e⟩, ?_, ?_⟩
 · rw [World.cell?_setCell_other _ _ _ _ (by simp)]; exact k0
 · rw [World.frozen?_setCell]; exact f0
 · rw [World.frozen?_setCell]; exact f1
theorem Blk2.set {w : World} {b : Nat} {o0 o1 : Value} (h : Blk2 w b o0 o1) (x0 x1 : Value) :
   Blk2 ((w.setCell ⟨b, 0, none⟩ x0).setCell ⟨b, 1, none⟩ x1) b x0 x1 := ((h.put0 _).put1 _)
theorem Blk2.dr {w : World} {b : Nat} {x0 x1 : Value} (h : Blk2 w b x0 x1) : Blk2 w.drew b x0 x1 := h.ext (Ext.drew (Ext.refl _))
theorem Blk2.al {w : World} {b : Nat} {x0 x1 : Value} (o : Obj) (h : Blk2 w b x0 x1) : Blk2 (w.alloc o) b x0 x1 := h.ext (Ext.alloc (Ext.refl _) _)

open Go.RowKit
set_option maxHeartbeats 1000000

end Go.Proofs.Ytcggiljlilbdfaa

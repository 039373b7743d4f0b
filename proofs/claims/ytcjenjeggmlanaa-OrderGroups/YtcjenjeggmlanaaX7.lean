/-
 Who needs whom at all, by tables that grow: plain data.
 A table of truths in rows of their own.
 The document's Reaches.
-/
import Derived.Test.YtcjenjeggmlanaaX2
import Derived.Test.YtcjenjeggmlanaaX5
namespace Go.Proofs.Ytcjenjeggmlanaa
/-- From i to j, by things below k alone. -/
def Pk (E : Nat → Nat → Prop) : Nat → Nat → Nat → Prop
 | 0, i, j => E i j
 | k + 1, i, j => Pk E k i j ∨ (Pk E k i k ∧ Pk E k k j)
section
variable {E : Nat → Nat → Prop}
theorem pk_trans : ∀ k i m j, m < k → Pk E k i m → Pk E k m j → Pk E k i j
 | 0, _, _, _, h, _, _ => absurd h (Nat.not_lt_zero _)
 | k + 1, i, m, j, h, h1, h2 => by
   by_cases e : m = k
   · subst e
     refine .inr ⟨?_, ?_⟩
     · rcases h1 with h1 | ⟨h1, _⟩
       · exact h1
       · exact h1
     · rcases h2 with h2 | ⟨_, h2⟩
       · exact h2
       · exact h2
   · have hm : m < k := by omega
     rcases h1 with h1 | ⟨h1, h1'⟩
     · rcases h2 with h2 | ⟨h2, h2'⟩
       · exact .inl (pk_trans k i m j hm h1 h2)
       · exact .inr ⟨pk_trans k i m k hm h1 h2, h2'⟩
     · rcases h2 with h2 | ⟨h2, h2'⟩
       · exact .inr ⟨h1, pk_trans k k m j hm h1' h2⟩
       · exact .inr ⟨h1, h2'⟩
theorem pk_mono : ∀ k d i j, Pk E k i j → Pk E (k + d) i j
 | _, 0, _, _, h => h
 | k, d + 1, i, j, h => .inl (pk_mono k d i j h)
theorem rch_pk {n : Nat} (hE : ∀ a b, E a b → a < n ∧ b < n) {i j : Nat} (h : Rch E i j) : Pk E n i j := by
 induction h with
 | one e =>
   have := pk_mono 0 n _ _ (show Pk E 0 _ _ from e)
   rwa [Nat.zero_add] at this
 | step e _ ih =>
   have := pk_mono 0 n _ _ (show Pk E 0 _ _ from e)
   rw [Nat.zero_add] at this
   exact pk_trans n _ _ _ (hE _ _ e).2 this ih
/-- A table between what is known by things below k and what is at all; behind (i, j) in row k the next. -/
structure Tb (E : Nat → Nat → Prop) (n k i j : Nat) (F : Nat → Nat → Bool) : Prop where
 s : ∀ x y, F x y = true → Rch E x y
 c : ∀ x y, x < n → y < n → Pk E k x y → F x y = true
 d : ∀ x y, x < n → y < n → (x < i ∨ x = i ∧ y < j) → Pk E (k + 1) x y → F x y = true
def set2 (F : Nat → Nat → Bool) (i j : Nat) : Nat → Nat → Bool := fun x y => if x = i ∧ y = j then true else F x y
theorem Tb.row {n k i : Nat} {F : Nat → Nat → Bool} (h : Tb E n k i n F) : Tb E n k (i + 1) 0 F :=
 ⟨h.s, h.c, fun x y hx hy hxy => h.d x y hx hy (by omega)⟩
theorem Tb.next {n k : Nat} {F : Nat → Nat → Bool} (h : Tb E n k n 0 F) : Tb E n (k + 1) 0 0 F :=
 ⟨h.s, fun x y hx hy hp => h.d x y hx hy (by omega) hp, fun x y _ _ hxy => by omega⟩
theorem Tb.yes {n k i j : Nat} {F : Nat → Nat → Bool} (h : Tb E n k i j F) (h1 : F i k = true) (h2 : F k j = true) : Tb E n k i (j + 1) (set2 F i j) := by
 have mono : ∀ x y, F x y = true → set2 F i j x y = true := fun x y hxy => by unfold set2; split <;> simp_all
 refine ⟨fun x y hxy => ?_, fun x y hx hy hp => mono x y (h.c x y hx hy hp), fun x y hx hy hxy hp => ?_⟩
 · unfold set2 at hxy
   split at hxy
   · rename_i e
     rw [e.1, e.2]
     exact (h.s i k h1).trans (h.s k j h2)
   · exact h.s x y hxy
 · by_cases e : x = i ∧ y = j
   · unfold set2; rw [if_pos e]
   · exact mono x y (h.d x y hx hy (by omega) hp)
theorem Tb.no {n k i j : Nat} {F : Nat → Nat → Bool} (h : Tb E n k i j F) (hk : k < n) (hi : i < n) (hj : j < n) (h1 : ¬ (F i k = true ∧ F k j = true)) : Tb E n k i (j + 1) F := by
 refine ⟨h.s, h.c, fun x y hx hy hxy hp => ?_⟩
 by_cases e : x = i ∧ y = j
 · obtain ⟨rfl, rfl⟩ := e
   rcases hp with hp | ⟨p1, p2⟩
   · exact h.c x y hx hy hp
   · exact absurd ⟨h.c x k hx hk p1, h.c k y hk hy p2⟩ h1
 · exact h.d x y hx hy (by omega) hp
theorem Tb.start {n : Nat} {F : Nat → Nat → Bool} (h : ∀ x y, F x y = true ↔ E x y) : Tb E n 0 0 0 F :=
 ⟨fun x y hxy => .one ((h x y).1 hxy), fun x y _ _ hp => (h x y).2 hp, fun x y _ _ hxy => by omega⟩
theorem Tb.done {n : Nat} {F : Nat → Nat → Bool} (hE : ∀ a b, E a b → a < n ∧ b < n) (h : Tb E n n 0 0 F) {x y : Nat} (hx : x < n) (hy : y < n) : F x y = true ↔ Rch E x y :=
 ⟨h.s x y, fun hr => h.c x y hx hy (rch_pk hE hr)⟩
end

open Go.RowKit
set_option maxHeartbeats 4000000

def eB (x : Bool) : Value := .bool x
theorem hB (x : Bool) : cB x = [eB x] := rfl
def cS (n : Nat) (x : Nat) : List Value := [sl x n]
def eS (n : Nat) (x : Nat) : Value := sl x n
theorem hS (n x : Nat) : cS n x = [eS n x] := rfl
theorem cS_len (n x : Nat) : (cS n x).length = 1 := rfl
theorem cS_one (n x : Nat) : ∀ v ∈ cS n x, v.oneCell' = true := by intro v hv; simp [cS, sl] at hv; subst hv; rfl
/-- The first m rows, n truths each, row v in block g v. -/
structure RwB (base n m : Nat) (W : World) (mv : Value) (g : Nat → Nat) (F : Nat → Nat → Bool) : Prop where
 o : W.ownsRow base 37 1 mv m ((rng m g).flatMap (cS n))
 r : ∀ v, v < m → W.ownsRow base 4 1 (sl (g v) n) n ((rng n (F v)).flatMap cB)
 d : ∀ v, v < m → mv.ownBlock ≠ some (g v)
 u : ∀ v t, v < m → t < m → v ≠ t → g v ≠ g t
section
variable {base n m : Nat} {W W' : World} {mv : Value} {g : Nat → Nat} {F : Nat → Nat → Bool}
theorem RwB.ext (h : RwB base n m W mv g F) (e : Ext W W') : RwB base n m W' mv g F :=
 ⟨ownsRow_ext h.o e, fun v hv => ownsRow_ext (h.r v hv) e, h.d, h.u⟩
theorem RwB.at (h : RwB base n m W mv g F) {v j : Nat} (hv : v < m) (hj : j < n) : W.cell? ⟨g v, j, none⟩ = some (.bool (F v j)) ∧ W.frozen? ⟨g v, j, none⟩ = false := own_cell hB (h.r v hv) hj
theorem RwB.low (h : RwB base n m W mv g F) {v : Nat} (hv : v < m) : base ≤ g v ∧ g v < W.heap.size := (h.r v hv).lt _ rfl
/-- The cell of a row. -/
theorem RwB.row (h : RwB base n m W mv g F) (hm : 0 < m) : ∃ b c, mv = .slice (some ⟨b, 0, none⟩) m c ∧ ∀ v, v < m → W.cell? ⟨b, v, none⟩ = some (sl (g v) n) := by
 rcases h.o.2 with ⟨_, h0⟩ | ⟨b, c, cur, rfl, _⟩
 · omega
 · refine ⟨b, c, rfl, fun v hv => ?_⟩
   rw [World.ownsRow.cellAt h.o v (by omega)]
   exact one_at (cS_len n) _ _ (rng_at _ hv) rfl
theorem RwB.set (h : RwB base n m W mv g F) {v j : Nat} (hv : v < m) : RwB base n m (W.setCell ⟨g v, j, none⟩ (.bool true)) mv g (set2 F v j) := by
 refine ⟨own_far h.o _ (h.d v hv), fun t ht => ?_, h.d, h.u⟩
 by_cases e : t = v
 · subst e
   have := own_put hB (h.r t ht) j true
   have e2 : upd (F t) j true = set2 F t j t := by
     funext y
     unfold upd set2
     by_cases hy : y = j
     · simp [hy]
     · simp [hy]
   rwa [e2] at this
 · have e2 : set2 F v j t = F t := by
     funext y
     unfold set2
     simp [e]
   rw [e2]
   exact own_far (h.r t ht) _ (by rw [sl_own]; intro e3; exact h.u t v ht hv e (Option.some.inj e3))
/-- One row more. -/
theorem RwB.add (h : RwB base n m W mv g F) {x : Nat} {v2 : Value} (hr : W.ownsRow base 4 1 (sl x n) n ((rng n (fun _ => false)).flatMap cB)) (hxm : mv.ownBlock ≠ some x) (hxg : ∀ v, v < m → g v ≠ x)
   (hg : W.grownBy W' mv.ownBlock) (o : W'.ownsRow base 37 1 v2 (m + 1) ((rng m g ++ [x]).flatMap (cS n))) (nb : v2.ownBlock = mv.ownBlock ∨ v2.ownBlock = some W.heap.size) :
   RwB base n (m + 1) W' v2 (upd g m x) (fun v => if v = m then fun _ => false else F v) := by
 have far : ∀ k, k < W.heap.size → mv.ownBlock ≠ some k → W'.heap[k]? = W.heap[k]? := fun k hk hn => hg.block k hk (fun e => hn e.symm)
 have hxl := (hr.lt x rfl).2
 refine ⟨?_, fun v hv => ?_, fun v hv e => ?_, fun v t hv ht hne => ?_⟩
 · refine own_eq o rfl ?_
   congr 1
   unfold rng
   rw [List.range_succ, List.map_append]
   congr 1
   · refine List.map_congr_left (fun i hi => ?_)
     rw [upd_ne _ _ (by have := List.mem_range.1 hi; omega)]
   · simp [upd]
 · by_cases e : v = m
   · subst e
     rw [upd_at, if_pos rfl]
     exact own_keep hr (fun k ek hk => by cases ek; exact far x hk hxm)
   · rw [upd_ne _ _ e, if_neg e]
     exact own_keep (h.r v (by omega)) (fun k ek hk => by cases ek; exact far _ hk (h.d v (by omega)))
 · by_cases e2 : v = m
   · subst e2
     rw [upd_at] at e
     rcases nb with nb | nb
     · exact hxm (nb ▸ e)
     · rw [nb] at e
       have := Option.some.inj e
       omega
   · rw [upd_ne _ _ e2] at e
     rcases nb with nb | nb
     · exact h.d v (by omega) (nb ▸ e)
     · rw [nb] at e
       have h1 := Option.some.inj e
       have h2 := (h.low (show v < m by omega)).2
       omega
 · by_cases e1 : v = m
   · subst e1
     rw [upd_at, upd_ne _ _ (fun e => hne e.symm)]
     exact fun e => hxg t (by omega) e.symm
   · rw [upd_ne _ _ e1]
     by_cases e2 : t = m
     · subst e2
       rw [upd_at]
       exact hxg v (by omega)
     · rw [upd_ne _ _ e2]
       exact h.u v t (by omega) (by omega) hne
end

open Go.RowKit
set_option maxHeartbeats 4000000

def zB (n : Nat) : Array Value := madeCells #[.bool false] n
theorem mk_bool (W : World) (l n : Nat) (hl : l ≤ n) (hn : n ≤ 1000000) : (Instr.makeSlice 37 (.int .i64 (l : Int)) (.int .i64 (n : Int))).run Try.prog W = .ok (.slice (some ⟨W.heap.size, 0, none⟩) l n) (W.alloc (.cells (zB n) 4)) :=
 mk_row (bytes := 1) Try.underlying37 rfl (by kernel_rfl) (by kernel_rfl) (by kernel_rfl) (by decide) W l n hl hn
theorem eltB : Elt 35 37 1 24 := elt_of (z := .slice none 0 0) Try.underlying35 (by kernel_rfl) (by kernel_rfl) (by kernel_rfl) rfl (by decide)
theorem set2_in {L : List (Nat × Nat)} {k a b : Nat} (h : L[k]? = some (a, b)) : set2 (fun x y => decide ((x, y) ∈ L.take k)) a b = fun x y => decide ((x, y) ∈ L.take (k + 1)) := by
 funext x y
 unfold set2
 rw [take_at h]
 by_cases e : x = a ∧ y = b
 · simp [e]
 · rw [if_neg e]
   simp only [List.mem_append, List.mem_singleton, Prod.mk.injEq, e, or_false]
/-- What Reaches leaves. -/
def ReQ (w : World) (L : List (Nat × Nat)) (n : Nat) (e : Ending) (w' : World) : Prop :=
 ∃ mv g F, e = .returned mv ∧ RwB w.heap.size n n w' mv g F ∧ (∀ x y, x < n → y < n → (F x y = true ↔ Rch (EL L) x y)) ∧ Ext w w'
set_option maxRecDepth 100000 in
theorem reaches_any (w : World) (v : Value) (L : List (Nat × Nat)) (n : Nat) (h : RdG cM 2 w v L) (hL : L.length ≤ 100000) (hn : n ≤ 5000) (hb : ∀ p ∈ L, p.1 < n ∧ p.2 < n) :
   Calls Try.prog 12 #[.int .i64 (n : Int), v] w (ReQ w L n) := by
 obtain ⟨p, c, rfl, _⟩ := h.form
 obtain ⟨M, hM⟩ : ∃ M, L.length = M := ⟨_, rfl⟩
 have HB : Hid (L.length ≤ 100000 ∧ n ≤ 5000 ∧ (∀ p ∈ L, p.1 < n ∧ p.2 < n) ∧ L.length = M) := ⟨hL, hn, hb, hM⟩
 have HR : Hid (RdG cM 2 w (.slice p M c) L) := by rw [← hM]; exact h
 rw [hM]
 have mk := fun W => mk_bool W n n (Nat.le_refl _) (by omega)
 have H0 : Hid (RwB w.heap.size n 0 (w.alloc (.cells #[] 37)) (.slice (some ⟨w.heap.size, 0, none⟩) 0 0) (fun _ => 0) (fun _ _ => false)) :=
   ⟨own_new w w (Nat.le_refl _), fun v hv => absurd hv (Nat.not_lt_zero _), fun v hv => absurd hv (Nat.not_lt_zero _), fun v t hv => absurd hv (Nat.not_lt_zero _)⟩
 clear h hL hn hb hM
 go_enter Try.func12, Try.ntmps12
 go_wp2_with fail
 go_loopw [6, 5] (fun x mv wr => ∃ (i : Nat) (g : Nat → Nat), x = .int .i64 (i : Int) ∧ i ≤ n ∧ RwB w.heap.size n i wr mv g (fun _ _ => false) ∧ Ext w wr) (fun x _ _ => n - (intOf x).toNat)
 case atStart => exact ⟨0, _, rfl, Nat.zero_le _, H0.out, (Ext.refl _).alloc _⟩
 case round =>
   clear H0
   obtain ⟨i, g, rfl, hi, hS, hE⟩ := hrel
   have HS : Hid (RwB w.heap.size n i wr u5 g (fun _ _ => false) ∧ Ext w wr) := ⟨hS, hE⟩
   obtain ⟨mp, mc, rfl, -⟩ := own_form hS.o
   rcases Nat.lt_or_ge i n with hlt | hge
   · have hltI : (i : Int) < (n : Int) := by omega
     have HI : Hid (i + 1 ≤ 1000000) := by have := HB.out.2.1; show _ ≤ _; omega
     have wi := wrapI i (by have := HI.out; omega)
     have hsz := hE.size
     have HZ : Hid (w.heap.size ≤ wr.heap.size ∧ i < n) := ⟨hsz, hlt⟩
     have HA : Hid (RwB w.heap.size n i ((wr.alloc (.cells (zB n) 4)).alloc (.cells #[.slice (some ⟨wr.heap.size, 0, none⟩) n n] 37)) (.slice mp i mc) g (fun _ _ => false) ∧ Ext w ((wr.alloc (.cells (zB n) 4)).alloc (.cells #[.slice (some ⟨wr.heap.size, 0, none⟩) n n] 37))) := ⟨hS.ext (((Ext.refl wr).alloc _).alloc _), (hE.alloc _).alloc _⟩
     have HRow : Hid (((wr.alloc (.cells (zB n) 4)).alloc (.cells #[.slice (some ⟨wr.heap.size, 0, none⟩) n n] 37)).ownsRow w.heap.size 4 1 (sl wr.heap.size n) n ((rng n (fun _ => false)).flatMap cB)) := (mk_full hsz (by have := HB.out; omega) hB false rfl).alloc _
     have HRd : Hid (RdG (cS n) 1 ((wr.alloc (.cells (zB n) 4)).alloc (.cells #[.slice (some ⟨wr.heap.size, 0, none⟩) n n] 37)) (.slice (some ⟨wr.heap.size + 1, 0, none⟩) 1 1) [wr.heap.size]) := by
       have := RdG.one (c := cS n) (x := wr.heap.size) (k := 1) (top_heap (wr.alloc (.cells (zB n) 4)) (.cells #[.slice (some ⟨wr.heap.size, 0, none⟩) n n] 37)) (fun j u h => by
         have hj : j < 1 := (List.getElem?_eq_some_iff.1 h).1
         match j, hj with
         | 0, _ => exact h)
       simp at this
       exact this
     have HSz : Hid (w.heap.size ≤ ((wr.alloc (.cells (zB n) 4)).alloc (.cells #[.slice (some ⟨wr.heap.size, 0, none⟩) n n] 37)).heap.size) := HA.out.2.size
     have HNx : Hid ((Value.slice mp i mc).ownBlock ≠ some wr.heap.size ∧ ∀ v, v < i → g v ≠ wr.heap.size) := ⟨fun e => Nat.lt_irrefl _ (hS.o.lt _ e).2, fun v hv e => by have := (hS.low hv).2; omega⟩
     clear hS hE hsz
     go_wp2_with (at_builtin; refine app_q eltB (cS_len n) (cS_one n) (by decide) _ _ _ _ _ i 1 (rng i g) [wr.heap.size] w.heap.size rfl rfl (by rfl) (by rfl) HA.out.1.o rfl HRd.out HI.out HSz.out ?_; intro v9 w9 O9 G9 B9; have H9 : Hid _ := And.intro (HA.out.1.add HRow.out HNx.out.1 HNx.out.2 G9 O9 B9) (ext_grownG HA.out.1.o (Nat.le_refl _) HA.out.2 G9); clear O9 G9 B9)
     go_roundw
     case rel =>
       refine ⟨i + 1, upd g i wr.heap.size, by rw [wi], HZ.out.2, ?_, H9.out.2⟩
       have e : (fun v => if v = i then fun _ => false else fun _ => false) = (fun _ _ => false : Nat → Nat → Bool) := by funext v y; split <;> rfl
       have := H9.out.1
       rw [e] at this
       exact this
     case measure => rw [wi]; have := HZ.out; clear wi; simp [intOf]; omega
   · have hltI : ¬ (i : Int) < (n : Int) := by omega
     have hin : n = i := by omega
     subst hin
     have H1 : Hid (RwB w.heap.size n n wr (.slice mp n mc) g (fun x y => decide ((x, y) ∈ L.take 0))) := by
       have e : (fun x y => decide ((x, y) ∈ L.take 0)) = (fun _ _ => false : Nat → Nat → Bool) := by funext x y; simp
       rw [e]
       exact hS
     clear hS hE hge mk
     go_wp2_with fail
     go_loopw [7] (fun x wq => ∃ k : Nat, x = .int .i64 (k : Int) ∧ k ≤ M ∧ RwB w.heap.size n n wq (.slice mp n mc) g (fun x y => decide ((x, y) ∈ L.take k)) ∧ Ext w wq) (fun x _ => M - (intOf x).toNat)
     case atStart => exact ⟨0, rfl, Nat.zero_le _, H1.out, HS.out.2⟩
     case round =>
       clear H1 HS hltI
       obtain ⟨k, rfl, hk, hS, hE⟩ := hrel
       have HS : Hid (RwB w.heap.size n n wr (.slice mp n mc) g (fun x y => decide ((x, y) ∈ L.take k)) ∧ Ext w wr) := ⟨hS, hE⟩
       rcases Nat.lt_or_ge k M with hlt | hge
       · have hltI : (k : Int) < (M : Int) := by omega
         obtain ⟨x, hx⟩ : ∃ x, L[k]? = some x := ⟨_, List.getElem?_eq_getElem (by have := HB.out.2.2.2; omega)⟩
         obtain ⟨x1, x2⟩ := x
         obtain ⟨b, off, rfl, bl, c1, c2⟩ := RdM.cell (HR.out.ext hE) hx
         obtain ⟨hx1, hx2⟩ := HB.out.2.2.1 _ (List.mem_of_getElem? hx)
         obtain ⟨mb, mc', he, hrow⟩ := hS.row (by omega)
         simp only [Value.slice.injEq, true_and] at he
         obtain ⟨rfl, rfl⟩ := he
         have r1 := hrow x1 hx1
         obtain ⟨g1, g2⟩ := hS.at hx1 hx2
         have i1 : (x1 : Int) < (n : Int) := by omega
         have i2 : (x2 : Int) < (n : Int) := by omega
         have HF : Hid (RwB w.heap.size n n (wr.setCell ⟨g x1, x2, none⟩ (.bool true)) (.slice (some ⟨mb, 0, none⟩) n mc) g (fun x y => decide ((x, y) ∈ L.take (k + 1))) ∧ Ext w (wr.setCell ⟨g x1, x2, none⟩ (.bool true))) := by
           refine ⟨?_, hE.setCell (hS.low hx1).1 _⟩
           rw [← set2_in hx]
           exact hS.set hx1
         have HK : Hid (k ≤ 1000000) := by have := HB.out; show _ ≤ _; omega
         unfold sl at r1
         clear hS hE hx hx1 hx2 hrow bl
         have wk := wrapI k HK.out
         go_upto_region 9 with fail
         go_region
         go_wp2
         go_roundw
         case rel => exact ⟨k + 1, by rw [wk], hlt, HF.out.1.ext (Ext.refl _).drew, HF.out.2.drew⟩
         case measure => rw [wk]; clear wk; simp [intOf]; omega
       · have hltI : ¬ (k : Int) < (M : Int) := by omega
         have H2 : Hid (Tb (EL L) n 0 0 0 (fun x y => decide ((x, y) ∈ L.take k))) := Tb.start (fun x y => by
           rw [List.take_of_length_le (by have := HB.out.2.2.2; omega)]
           simp [EL])
         clear hS hE hge
         go_wp2_with fail
         go_loopw [8] (fun x wq => ∃ (k : Nat) (F : Nat → Nat → Bool), x = .int .i64 (k : Int) ∧ k ≤ n ∧ RwB w.heap.size n n wq (.slice mp n mc) g F ∧ Ext w wq ∧ Tb (EL L) n k 0 0 F) (fun x _ => n - (intOf x).toNat)
         case atStart => exact ⟨0, _, rfl, Nat.zero_le _, HS.out.1, HS.out.2, H2.out⟩
         case round =>
           clear H2 HS hltI
           obtain ⟨k, F, rfl, hk, hS, hE, hT⟩ := hrel
           have HS : Hid (RwB w.heap.size n n wr (.slice mp n mc) g F ∧ Ext w wr ∧ Tb (EL L) n k 0 0 F) := ⟨hS, hE, hT⟩
           clear hE hT
           rcases Nat.lt_or_ge k n with hlt | hge
           · have hltI : (k : Int) < (n : Int) := by omega
             have HK : Hid (k < n ∧ k + 1 ≤ 1000000) := by have := HB.out; exact ⟨hlt, by omega⟩
             clear hS
             go_wp2_with fail
             go_loopw [9] (fun x wq => ∃ (i : Nat) (F : Nat → Nat → Bool), x = .int .i64 (i : Int) ∧ i ≤ n ∧ RwB w.heap.size n n wq (.slice mp n mc) g F ∧ Ext w wq ∧ Tb (EL L) n k i 0 F) (fun x _ => n - (intOf x).toNat)
             case atStart => exact ⟨0, _, rfl, Nat.zero_le _, HS.out⟩
             case round =>
               clear HS
               obtain ⟨i, F, rfl, hi, hS, hE, hT⟩ := hrel
               have HS : Hid (RwB w.heap.size n n wr (.slice mp n mc) g F ∧ Ext w wr ∧ Tb (EL L) n k i 0 F) := ⟨hS, hE, hT⟩
               clear hS hE hT
               rcases Nat.lt_or_ge i n with hli | hgi
               · have hliI : (i : Int) < (n : Int) := by omega
                 have HI : Hid (i < n ∧ i + 1 ≤ 1000000) := by have := HB.out; exact ⟨hli, by omega⟩
                 go_wp2_with fail
                 go_loopw [10] (fun x wq => ∃ (j : Nat) (F : Nat → Nat → Bool), x = .int .i64 (j : Int) ∧ j ≤ n ∧ RwB w.heap.size n n wq (.slice mp n mc) g F ∧ Ext w wq ∧ Tb (EL L) n k i j F) (fun x _ => n - (intOf x).toNat)
                 case atStart => exact ⟨0, _, rfl, Nat.zero_le _, HS.out⟩
                 case round =>
                   clear HS
                   obtain ⟨j, F, rfl, hj, hS, hE, hT⟩ := hrel
                   have HS : Hid (RwB w.heap.size n n wr (.slice mp n mc) g F ∧ Ext w wr ∧ Tb (EL L) n k i j F) := ⟨hS, hE, hT⟩
                   rcases Nat.lt_or_ge j n with hlj | hgj
                   · have hljI : (j : Int) < (n : Int) := by omega
                     obtain ⟨mb, mc', he, hrow⟩ := hS.row (by omega)
                     simp only [Value.slice.injEq, true_and] at he
                     obtain ⟨rfl, rfl⟩ := he
                     have r1 := hrow i hli
                     have r2 := hrow k hlt
                     obtain ⟨g1, -⟩ := hS.at hli hlt
                     obtain ⟨g2, -⟩ := hS.at hlt hlj
                     obtain ⟨g3, g4⟩ := hS.at hli hlj
                     unfold sl at r1 r2
                     have HJ : Hid (j < n ∧ j + 1 ≤ 1000000) := by have := HB.out; exact ⟨hlj, by omega⟩
                     have HSet : Hid (RwB w.heap.size n n (wr.setCell ⟨g i, j, none⟩ (.bool true)) (.slice (some ⟨mb, 0, none⟩) n mc) g (set2 F i j) ∧ Ext w (wr.setCell ⟨g i, j, none⟩ (.bool true))) := ⟨hS.set hli, hE.setCell (hS.low hli).1 _⟩
                     clear hS hE hT hrow
                     have wj := wrapI j (by have := HJ.out; omega)
                     cases hf1 : F i k
                     · have HT : Hid (Tb (EL L) n k i (j + 1) F) := HS.out.2.2.no HK.out.1 HI.out.1 HJ.out.1 (by rw [hf1]; simp)
                       rw [hf1] at g1
                       clear hf1
                       go_wp2
                       go_roundw
                       case rel => exact ⟨j + 1, F, by rw [wj], hlj, HS.out.1, HS.out.2.1, HT.out⟩
                       case measure => rw [wj]; clear wj; simp [intOf]; omega
                     · cases hf2 : F k j
                       · have HT : Hid (Tb (EL L) n k i (j + 1) F) := HS.out.2.2.no HK.out.1 HI.out.1 HJ.out.1 (by rw [hf2]; simp)
                         rw [hf1] at g1
                         rw [hf2] at g2
                         clear hf1 hf2
                         go_wp2
                         go_roundw
                         case rel => exact ⟨j + 1, F, by rw [wj], hlj, HS.out.1, HS.out.2.1, HT.out⟩
                         case measure => rw [wj]; clear wj; simp [intOf]; omega
                       · have HT : Hid (Tb (EL L) n k i (j + 1) (set2 F i j)) := HS.out.2.2.yes hf1 hf2
                         rw [hf1] at g1
                         rw [hf2] at g2
                         clear hf1 hf2
                         go_wp2
                         go_roundw
                         case rel => exact ⟨j + 1, set2 F i j, by rw [wj], hlj, HSet.out.1, HSet.out.2, HT.out⟩
                         case measure => rw [wj]; clear wj; simp [intOf]; omega
                   · have hljI : ¬ (j : Int) < (n : Int) := by omega
                     have HT : Hid (Tb (EL L) n k (i + 1) 0 F) := by
                       have e : j = n := by omega
                       rw [e] at hT
                       exact hT.row
                     have wi := wrapI i (by have := HI.out; omega)
                     clear hS hE hT
                     go_wp2
                     go_roundw
                     case rel => exact ⟨i + 1, F, by rw [wi], hli, HS.out.1, HS.out.2.1, HT.out⟩
                     case measure => rw [wi]; clear wi; simp [intOf]; omega
               · have hliI : ¬ (i : Int) < (n : Int) := by omega
                 have HT : Hid (Tb (EL L) n (k + 1) 0 0 F) := by
                   have e : i = n := by omega
                   have := HS.out.2.2
                   rw [e] at this
                   exact this.next
                 have wk := wrapI k (by have := HK.out; omega)
                 go_wp2
                 go_roundw
                 case rel => exact ⟨k + 1, F, by rw [wk], hlt, HS.out.1, HS.out.2.1, HT.out⟩
                 case measure => rw [wk]; clear wk; simp [intOf]; omega
           · have hltI : ¬ (k : Int) < (n : Int) := by omega
             have HQ : Hid (ReQ w L n (.returned (.slice mp n mc)) wr) := by
               refine ⟨_, g, F, rfl, HS.out.1, fun x y hx hy => ?_, HS.out.2.1⟩
               have e : k = n := by omega
               have := HS.out.2.2
               rw [e] at this
               exact this.done (fun a b h => HB.out.2.2.1 _ h) hx hy
             clear hS
             go_wp2
             go_ret
             exact HQ.out
end Go.Proofs.Ytcjenjeggmlanaa

/-
 Formulas that are filled, seen from their places, and back: plain mathematics, no program in sight.
 Package rel: a tree in new memory, in which each part, and then the tree itself, is what a function makes of it.
-/
import Derived.Test.YtcggiljlilbdfaaV21
namespace Go.Proofs.Ytcggiljlilbdfaa
open Go.RowKit
set_option maxHeartbeats 2000000

theorem mvE_wL (a b : Int) (t : T) (l : List T) : mvE a b (t.wL l) = (mvE a b t).wL l := by
 have hk : (t.wL l).k = t.k := rfl
 unfold mvE
 rw [hk]
 by_cases k4 : t.k = 4
 · rw [if_pos k4, if_pos k4]; rfl
 · by_cases k5 : t.k = 5
   · rw [if_neg k4, if_pos k5, if_neg k4, if_pos k5]; rfl
   · rw [if_neg k4, if_neg k5, if_neg k4, if_neg k5]
theorem mvE_node (a b : Int) (t : T) (h : t.k = 6 ∨ t.k = 7 ∨ t.k = 8) : mvE a b t = t := by
 unfold mvE; rw [if_neg (by omega), if_neg (by omega)]
theorem fiE_node (a b : Int) (t : T) (h : t.k = 6 ∨ t.k = 7 ∨ t.k = 8) : fiE a b t = t := by
 unfold fiE; rw [if_neg (by omega), mvE_node a b t h]
theorem mpT_node (g : T → T) (hg : ∀ t : T, t.k = 6 ∨ t.k = 7 ∨ t.k = 8 → g t = t) (n : Nat) (t : T) (h : t.k = 6 ∨ t.k = 7 ∨ t.k = 8) : mpT g (n + 1) t = t.wL (t.l.map (mpT g n)) := by
 rw [mpT, show prB t.k = true from by simpa [prB] using h]
 exact hg _ h
theorem mpT_leaf (g : T → T) (n : Nat) (t : T) (h : prB t.k = false) : mpT g (n + 1) t = g t := by
 rw [mpT, h]; simp only [Bool.false_eq_true, if_false, List.map_id, wL_self]
theorem mvE_k (a b : Int) (t : T) : (mvE a b t).k = t.k := by
 unfold mvE
 split
 · rfl
 · split <;> rfl
theorem wL_wL (t : T) (l m : List T) : (t.wL l).wL m = t.wL m := rfl
/-- One change behind another. -/
theorem mpT_comp (f g : T → T) (hk : ∀ t, (f t).k = t.k) (hl : ∀ t, (f t).l = t.l) (hw : ∀ t l, f (t.wL l) = (f t).wL l) (n : Nat) : ∀ t, mpT g n (mpT f n t) = mpT (fun x => g (f x)) n t := by
 induction n with
 | zero => intro t; rfl
 | succ n ih =>
   intro t
   rw [mpT, mpT, mpT, hk, hl, hw, hw, wL_wL]
   show g ((f t).wL (List.map (if prB t.k = true then mpT g n else id) (List.map (if prB t.k = true then mpT f n else id) t.l))) = _
   rw [List.map_map]
   have e : ((if prB t.k = true then mpT g n else id) ∘ (if prB t.k = true then mpT f n else id)) = (if prB t.k = true then mpT (fun x => g (f x)) n else id) := by
     split
     · funext x; exact ih x
     · rfl
   rw [e]
theorem mvF_add (a b c d : Int) (r : Rf) : mvF a b (mvF c d r) = mvF (a + c) (b + d) r := by
 obtain ⟨r1, r2, r3, r4⟩ := r
 unfold mvF
 cases r3 <;> cases r4 <;> simp [wrap64] <;> omega
theorem mvF_mod (a b a' b' : Int) (ha : (a - a') % 18446744073709551616 = 0) (hb : (b - b') % 18446744073709551616 = 0) (r : Rf) : mvF a b r = mvF a' b' r := by
 obtain ⟨r1, r2, r3, r4⟩ := r
 unfold mvF
 cases r3 <;> cases r4 <;> simp [wrap64] <;> omega
theorem mvE_add (a b c d : Int) (t : T) : mvE a b (mvE c d t) = mvE (a + c) (b + d) t := by
 cases t with
 | mk k n s e r q l =>
 unfold mvE
 simp only [T.k, T.wR, T.wRQ, T.n, T.s, T.e, T.r, T.q, T.l]
 by_cases k4 : k = 4
 · subst k4; simp only [if_true, mvF_add]
 · by_cases k5 : k = 5
   · subst k5; simp [mvF_add]
   · simp [k4, k5]
theorem mvE_mod (a b a' b' : Int) (ha : (a - a') % 18446744073709551616 = 0) (hb : (b - b') % 18446744073709551616 = 0) : mvE a b = mvE a' b' := by
 funext t
 unfold mvE
 rw [mvF_mod a b a' b' ha hb, mvF_mod a b a' b' ha hb]
theorem mpT_add (a b c d : Int) (n : Nat) (t : T) : mpT (mvE a b) n (mpT (mvE c d) n t) = mpT (mvE (a + c) (b + d)) n t := by
 rw [mpT_comp _ _ (mvE_k c d) (mvE_l c d) (mvE_wL c d)]
 congr 1
 funext x
 exact mvE_add a b c d x
/-! Errors -/
theorem sum_eq_of_le (f g : T → Nat) (l : List T) (h : ∀ x ∈ l, f x ≤ g x) : (l.map f).sum ≤ (l.map g).sum ∧ ((l.map g).sum = (l.map f).sum → ∀ x ∈ l, g x = f x) := by
 induction l with
 | nil => exact ⟨Nat.le_refl _, fun _ x hx => absurd hx (by simp)⟩
 | cons a l ih =>
   obtain ⟨h1, h2⟩ := ih (fun x hx => h x (List.mem_cons_of_mem _ hx))
   have h0 := h a List.mem_cons_self
   simp only [List.map_cons, List.sum_cons]
   refine ⟨by omega, fun he x hx => ?_⟩
   rcases List.mem_cons.1 hx with rfl | hx
   · omega
   · exact h2 (by omega) x hx
theorem erT_k3 (n : Nat) (t : T) (hp : prB t.k = false) : erT (n + 1) t = if t.k = 3 then 1 else 0 := by
 rw [erT, hp]; simp
theorem er_fill (a b : Int) (n : Nat) : ∀ t, erT n t ≤ erT n (mpT (fiE a b) n t) ∧ (erT n (mpT (fiE a b) n t) = erT n t → mpT (fiE a b) n t = mpT (mvE a b) n t) := by
 induction n with
 | zero => intro t; exact ⟨Nat.le_refl _, fun _ => rfl⟩
 | succ n ih =>
   intro t
   by_cases hp : prB t.k = true
   · have hk : t.k = 6 ∨ t.k = 7 ∨ t.k = 8 := by simpa [prB] using hp
     have e1 : mpT (fiE a b) (n + 1) t = t.wL (t.l.map (mpT (fiE a b) n)) := mpT_node _ (fiE_node a b) n t hk
     have e2 : mpT (mvE a b) (n + 1) t = t.wL (t.l.map (mpT (mvE a b) n)) := mpT_node _ (mvE_node a b) n t hk
     have e3 : erT (n + 1) (t.wL (t.l.map (mpT (fiE a b) n))) = (t.l.map (fun x => erT n (mpT (fiE a b) n x))).sum := by
       rw [erT]
       have h1 : (t.wL (t.l.map (mpT (fiE a b) n))).k = t.k := rfl
       have h2 : (t.wL (t.l.map (mpT (fiE a b) n))).l = t.l.map (mpT (fiE a b) n) := rfl
       rw [h1, h2, hp, if_neg (by omega), List.map_map]
       simp only [if_true, Nat.zero_add]
       rfl
     have e4 : erT (n + 1) t = (t.l.map (erT n)).sum := by
       rw [erT, hp, if_neg (by omega)]; simp
     obtain ⟨s1, s2⟩ := sum_eq_of_le (erT n) (fun x => erT n (mpT (fiE a b) n x)) t.l (fun x _ => (ih x).1)
     rw [e1, e2, e3, e4]
     refine ⟨s1, fun h => ?_⟩
     congr 1
     exact List.map_congr_left (fun x hx => (ih x).2 (s2 h x hx))
   · have hp : prB t.k = false := by simpa using hp
     have e1 : ∀ g : T → T, mpT g (n + 1) t = g t := fun g => mpT_leaf g n t hp
     rw [e1, e1]
     unfold fiE
     by_cases hc : t.k = 4 ∧ rcB (mvF a b t.r).1 (mvF a b t.r).2.1 (mvF a b t.r).1 (mvF a b t.r).2.1 = false ∨ t.k = 5 ∧ rcB (mvF a b t.r).1 (mvF a b t.r).2.1 (mvF a b t.q).1 (mvF a b t.q).2.1 = false
     · rw [if_pos hc, erT_k3 n t hp, if_neg (by omega)]
       refine ⟨Nat.zero_le _, fun h => ?_⟩
       rw [erT_k3 n _ (by decide)] at h
       exact absurd h (by decide)
     · rw [if_neg hc]
       refine ⟨?_, fun _ => rfl⟩
       rw [erT_k3 n t hp, erT_k3 n _ (by rw [mvE_k]; exact hp), mvE_k]
       exact Nat.le_refl _
/-! Well made -/
theorem wa_k5 {n : Nat} {t : T} (h : wellT n t = true) : ¬ t.k = 5 := by
 intro k5
 cases n with
 | zero => cases h
 | succ n => rw [wellT, k5] at h; simp at h
theorem wa_arg {n : Nat} {t : T} (h : wellT n t = true) : argT n t = true := by
 unfold argT; rw [if_neg (wa_k5 h)]; exact h
theorem wa_err (n : Nat) : wellT (n + 1) (tErr 1) = true := rfl
theorem well_fill (a b : Int) (n : Nat) : ∀ t, argT n t = true → argT n (mpT (fiE a b) n t) = true ∧ (wellT n t = true → wellT n (mpT (fiE a b) n t) = true) := by
 induction n with
 | zero => intro t h; exact ⟨h, id⟩
 | succ n ih =>
   intro t h
   by_cases hp : prB t.k = true
   · have hk : t.k = 6 ∨ t.k = 7 ∨ t.k = 8 := by simpa [prB] using hp
     have e1 : mpT (fiE a b) (n + 1) t = t.wL (t.l.map (mpT (fiE a b) n)) := mpT_node _ (fiE_node a b) n t hk
     have hw : wellT (n + 1) t = true := by unfold argT at h; rwa [if_neg (by omega)] at h
     have hw2 : wellT (n + 1) (t.wL (t.l.map (mpT (fiE a b) n))) = true := by
       have h1 : (t.wL (t.l.map (mpT (fiE a b) n))).k = t.k := rfl
       have h2 : (t.wL (t.l.map (mpT (fiE a b) n))).l = t.l.map (mpT (fiE a b) n) := rfl
       have h3 : (t.wL (t.l.map (mpT (fiE a b) n))).s = t.s := rfl
       rw [wellT] at hw ⊢
       rw [h1, h2, h3]
       rw [if_neg (by omega), if_neg (by omega), if_neg (by omega), if_neg (by omega), if_neg (by omega)] at hw ⊢
       rcases hk with k | k | k
       · rw [if_pos k] at hw ⊢
         simp only [Bool.and_eq_true, List.length_map, List.all_eq_true, List.mem_map] at hw ⊢
         refine ⟨hw.1, ?_⟩
         rintro _ ⟨x, hx, rfl⟩
         exact (ih x (wa_arg (hw.2 x hx))).2 (hw.2 x hx)
       · rw [if_neg (by omega), if_pos k] at hw ⊢
         simp only [Bool.and_eq_true, List.length_map, List.all_eq_true, List.mem_map] at hw ⊢
         refine ⟨hw.1, ?_⟩
         rintro _ ⟨x, hx, rfl⟩
         exact (ih x (wa_arg (hw.2 x hx))).2 (hw.2 x hx)
       · rw [if_neg (by omega), if_neg (by omega), if_pos k] at hw ⊢
         simp only [Bool.and_eq_true, List.length_map, List.all_eq_true, List.mem_map] at hw ⊢
         refine ⟨hw.1, ?_⟩
         rintro _ ⟨x, hx, rfl⟩
         exact (ih x (hw.2 x hx)).1
     rw [e1]
     refine ⟨?_, fun _ => hw2⟩
     unfold argT
     rw [if_neg (by show ¬ t.k = 5; omega)]
     exact hw2
   · have hp : prB t.k = false := by simpa using hp
     have e1 : mpT (fiE a b) (n + 1) t = fiE a b t := mpT_leaf _ n t hp
     have hE : wellT (n + 1) (tErr 1) = true := wa_err n
     have hEa : argT (n + 1) (tErr 1) = true := wa_arg hE
     rw [e1]
     unfold fiE
     by_cases hc : t.k = 4 ∧ rcB (mvF a b t.r).1 (mvF a b t.r).2.1 (mvF a b t.r).1 (mvF a b t.r).2.1 = false ∨ t.k = 5 ∧ rcB (mvF a b t.r).1 (mvF a b t.r).2.1 (mvF a b t.q).1 (mvF a b t.q).2.1 = false
     · rw [if_pos hc]; exact ⟨hEa, fun _ => hE⟩
     · rw [if_neg hc]
       by_cases k4 : t.k = 4
       · have hin : inB (mvF a b t.r).1 (mvF a b t.r).2.1 = true := by
           have : ¬ rcB (mvF a b t.r).1 (mvF a b t.r).2.1 (mvF a b t.r).1 (mvF a b t.r).2.1 = false := fun h => hc (.inl ⟨k4, h⟩)
           simpa [rcB] using this
         have hw : wellT (n + 1) (mvE a b t) = true := by
           unfold mvE; rw [if_pos k4, wellT]
           have h1 : (t.wR (mvF a b t.r)).k = 4 := k4
           have h2 : (t.wR (mvF a b t.r)).r = mvF a b t.r := rfl
           rw [h1, h2]; simpa using hin
         refine ⟨?_, fun _ => hw⟩
         unfold argT; rw [if_neg (by rw [mvE_k]; omega)]; exact hw
       · by_cases k5 : t.k = 5
         · have hin : inB (mvF a b t.r).1 (mvF a b t.r).2.1 = true ∧ inB (mvF a b t.q).1 (mvF a b t.q).2.1 = true := by
             have : ¬ rcB (mvF a b t.r).1 (mvF a b t.r).2.1 (mvF a b t.q).1 (mvF a b t.q).2.1 = false := fun h => hc (.inr ⟨k5, h⟩)
             simpa [rcB] using this
           refine ⟨?_, fun h => ?_⟩
           · unfold argT; rw [if_pos (by rw [mvE_k]; exact k5)]
             unfold mvE; rw [if_neg k4, if_pos k5]
             show (inB (mvF a b t.r).1 (mvF a b t.r).2.1 && inB (mvF a b t.q).1 (mvF a b t.q).2.1) = true
             rw [hin.1, hin.2]; rfl
           · exact absurd k5 (wa_k5 h)
         · have : mvE a b t = t := by unfold mvE; rw [if_neg k4, if_neg k5]
           rw [this]; exact ⟨h, id⟩

open Go.RowKit
set_option maxHeartbeats 6000000

def MpQ (w : World) (t : T) (e : Ending) (w' : World) : Prop := ∃ p l c, e = .returned (aggX t (.slice p l c)) ∧ IsL w' (w.heap.size ≤ ·) (.slice p l c) t.l ∧ Ext w w'
def MpC (n : Nat) (t : T) : Prop := ∀ (g : T → T) (v : Value) (W : World) (P : Nat → Prop) (pp : Option Addr) (ln cl : Nat), FnC W v g → IsL W P (.slice pp ln cl) t.l → Calls Try.prog 40 #[.agg #[.int .i64 t.k, .int .i64 t.n, .string (bs t.s), .int .i64 t.e, .int .i64 t.r.1, .int .i64 t.r.2.1, .bool t.r.2.2.1, .bool t.r.2.2.2, .int .i64 t.q.1, .int .i64 t.q.2.1, .bool t.q.2.2.1, .bool t.q.2.2.2, .slice pp ln cl], v] W (MpQ W (mpT g n t))
theorem isL_nil {w : World} {P : Nat → Prop} {n c : Nat} {l : List T} (h : IsL w P (.slice none n c) l) : n = 0 ∧ l = [] := by
 cases h with
 | nil => exact ⟨rfl, rfl⟩
set_option maxRecDepth 100000 in
theorem mapped_nil1 (n : Nat) (t : T) (hl : t.l.length ≤ 100000) (ih : ∀ x ∈ t.l, MpC n x) (hb : prB t.k = true) (g : T → T) (v : Value) (W : World) (P : Nat → Prop) (_u : Unit) (ln cl : Nat) (hv : FnC W v g) (hL : IsL W P (.slice none ln cl) t.l) :
   Calls Try.prog 40 #[.agg #[.int .i64 t.k, .int .i64 t.n, .string (bs t.s), .int .i64 t.e, .int .i64 t.r.1, .int .i64 t.r.2.1, .bool t.r.2.2.1, .bool t.r.2.2.2, .int .i64 t.q.1, .int .i64 t.q.2.1, .bool t.q.2.2.1, .bool t.q.2.2.2, .slice none ln cl], v] W (MpQ W (mpT g (n + 1) t)) := by
 have hln : ln = t.l.length := by
   obtain ⟨p, c, h1, _⟩ := hL.form
   cases h1; rfl
 have HV : Hid (FnC W v g) := hv
 obtain ⟨K, cs, rfl, hent, hK⟩ := hv
 have HI : Hid (IsL W P (.slice none ln cl) t.l) := hL
 have HLN : Hid (ln = t.l.length) := hln
 have HIH : Hid (∀ x ∈ t.l, MpC n x) := ih
 have HFN : Hid (∀ (W' : World) (t : T) (pp : Option Addr) (ln cl : Nat), Ext W W' → Calls Try.prog K (#[.agg #[.int .i64 t.k, .int .i64 t.n, .string (bs t.s), .int .i64 t.e, .int .i64 t.r.1, .int .i64 t.r.2.1, .bool t.r.2.2.1, .bool t.r.2.2.2, .int .i64 t.q.1, .int .i64 t.q.2.1, .bool t.q.2.2.1, .bool t.q.2.2.2, .slice pp ln cl]] ++ cs) W' fun e w' => ∃ p l c, e = .returned (aggX (g t) (.slice p l c)) ∧ Ext W' w' ∧ ((p = pp ∧ l = ln ∧ c = cl ∧ (g t).l = t.l) ∨ (l = 0 ∧ (g t).l = []))) := hK
 have HX : Hid (mpT g (n + 1) t = g (t.wL (t.l.map (mpT g n)))) := by show _ = _; rw [mpT, hb]; rfl
 have hl2 : ln ≤ 100000 := by omega
 have cH := fun V => hasParts_any t (.slice none ln cl) V
 rw [hb] at cH
 clear hL hln ih hl hK hb
 obtain ⟨hn0, hn1⟩ := isL_nil HI.out
 have HN1 : Hid (t.l = []) := hn1
 have HWL : Hid (t.wL (t.l.map (mpT g n)) = t) := by
   show _ = _
   have h := wL_self t
   rw [hn1] at h
   rw [hn1, List.map_nil]
   exact h
 subst hn0
 clear hn1
 go_enter Try.func40, Try.ntmps40
 go_wp2_with fail
 refine (cH _).mono ?_
 rintro e w1 ⟨rfl, E1⟩
 have HB1 : Hid (BlkX w1 W.heap.size t (.slice none 0 cl) ∧ BlkX w1 (W.heap.size + 1) tz (.slice none 0 0) ∧ Ext W w1) := ⟨(blk13_top rfl ((Ext.refl _).alloc _)).ext E1, (BlkX.top (by simp) (Ext.refl _)).ext E1, (((Ext.refl _).alloc _).alloc _).trans E1⟩
 have hw1 : W.heap.size + 1 < w1.heap.size := HB1.out.2.1.1
 have HB0 := HB1.out.1
 obtain ⟨qa, ⟨la0, la1, la2, la3, la4, la5, la6, la7, la8, la9, la10, la11, la12⟩, ga0, ga1, ga2, ga3, ga4, ga5, ga6, ga7, ga8, ga9, ga10, ga11, ga12⟩ := HB0
 clear E1 cH
 go_wp2_with fail
 refine (HFN.out _ (t) none 0 cl HB1.out.2.2).mono ?_
 rintro e w8 ⟨p, l, c, rfl, E8, h8⟩
 have HB8 : Hid (BlkX w8 (W.heap.size + 1) tz (.slice none 0 0) ∧ Ext W w8) := ⟨(HB1.out.2.1).ext E8, Ext.trans HB1.out.2.2 E8⟩
 have HL8 : Hid (IsL w8 (W.heap.size + 1 + 1 ≤ ·) (.slice p l c) (g (t)).l) := by
   rcases h8 with ⟨q1, q2, q3, q4⟩ | ⟨q1, q2⟩
   · rw [q1, q2, q3, q4]; exact ((by rw [HN1.out]; exact .nil : IsL w1 (W.heap.size + 1 + 1 ≤ ·) (.slice none 0 cl) t.l)).ext E8
   · rw [q1, q2]; exact .nil
 have HB2 := HB8.out.1
 obtain ⟨qc, ⟨lc0, lc1, lc2, lc3, lc4, lc5, lc6, lc7, lc8, lc9, lc10, lc11, lc12⟩, gc0, gc1, gc2, gc3, gc4, gc5, gc6, gc7, gc8, gc9, gc10, gc11, gc12⟩ := HB2
 clear E8 h8
 obtain ⟨y, hy⟩ : ∃ y, g (t) = y := ⟨_, rfl⟩
 have HY : Hid (mpT g (n + 1) t = y) := by show _ = _; rw [HX.out, HWL.out, ← hy]
 rw [hy] at HL8 ⊢
 clear hy
 unfold aggX
 go_wp2_with fail
 show bodyPost Try.prog _ _ _ _ (putX w8 (W.heap.size + 1) y (.slice p l c))
 rw [HY.out]
 exact endR (HB8.out.1.put y (.slice p l c)) rfl ⟨p, l, c, rfl, (putX_L HL8.out (fun k hk => by have hk2 : W.heap.size + 1 + 1 ≤ k := hk; omega)).mono (fun k hk _ => by have hk2 : W.heap.size + 1 + 1 ≤ k := hk; omega), putX_E HB8.out.2 (by omega) _ _⟩ (fun h0 h1 h2 h3 h4 h5 h6 h7 h8 h9 h10 h11 h12 => by simp [results, Try.results40, go_sem, h0, h1, h2, h3, h4, h5, h6, h7, h8, h9, h10, h11, h12, aggX])
set_option maxRecDepth 100000 in
theorem mapped_nil0 (n : Nat) (t : T) (hl : t.l.length ≤ 100000) (ih : ∀ x ∈ t.l, MpC n x) (hb : prB t.k = false) (g : T → T) (v : Value) (W : World) (P : Nat → Prop) (_u : Unit) (ln cl : Nat) (hv : FnC W v g) (hL : IsL W P (.slice none ln cl) t.l) :
   Calls Try.prog 40 #[.agg #[.int .i64 t.k, .int .i64 t.n, .string (bs t.s), .int .i64 t.e, .int .i64 t.r.1, .int .i64 t.r.2.1, .bool t.r.2.2.1, .bool t.r.2.2.2, .int .i64 t.q.1, .int .i64 t.q.2.1, .bool t.q.2.2.1, .bool t.q.2.2.2, .slice none ln cl], v] W (MpQ W (mpT g (n + 1) t)) := by
 have hln : ln = t.l.length := by
   obtain ⟨p, c, h1, _⟩ := hL.form
   cases h1; rfl
 have HV : Hid (FnC W v g) := hv
 obtain ⟨K, cs, rfl, hent, hK⟩ := hv
 have HI : Hid (IsL W P (.slice none ln cl) t.l) := hL
 have HLN : Hid (ln = t.l.length) := hln
 have HIH : Hid (∀ x ∈ t.l, MpC n x) := ih
 have HFN : Hid (∀ (W' : World) (t : T) (pp : Option Addr) (ln cl : Nat), Ext W W' → Calls Try.prog K (#[.agg #[.int .i64 t.k, .int .i64 t.n, .string (bs t.s), .int .i64 t.e, .int .i64 t.r.1, .int .i64 t.r.2.1, .bool t.r.2.2.1, .bool t.r.2.2.2, .int .i64 t.q.1, .int .i64 t.q.2.1, .bool t.q.2.2.1, .bool t.q.2.2.2, .slice pp ln cl]] ++ cs) W' fun e w' => ∃ p l c, e = .returned (aggX (g t) (.slice p l c)) ∧ Ext W' w' ∧ ((p = pp ∧ l = ln ∧ c = cl ∧ (g t).l = t.l) ∨ (l = 0 ∧ (g t).l = []))) := hK
 have HX : Hid (mpT g (n + 1) t = g (t.wL (t.l.map (id)))) := by show _ = _; rw [mpT, hb]; rfl
 have hl2 : ln ≤ 100000 := by omega
 have cH := fun V => hasParts_any t (.slice none ln cl) V
 rw [hb] at cH
 clear hL hln ih hl hK hb
 obtain ⟨hn0, hn1⟩ := isL_nil HI.out
 have HN1 : Hid (t.l = []) := hn1
 have HWL : Hid (t.wL (t.l.map (id)) = t) := by
   show _ = _
   have h := wL_self t
   rw [hn1] at h
   rw [hn1, List.map_nil]
   exact h
 subst hn0
 clear hn1
 go_enter Try.func40, Try.ntmps40
 go_wp2_with fail
 refine (cH _).mono ?_
 rintro e w1 ⟨rfl, E1⟩
 have HB1 : Hid (BlkX w1 W.heap.size t (.slice none 0 cl) ∧ BlkX w1 (W.heap.size + 1) tz (.slice none 0 0) ∧ Ext W w1) := ⟨(blk13_top rfl ((Ext.refl _).alloc _)).ext E1, (BlkX.top (by simp) (Ext.refl _)).ext E1, (((Ext.refl _).alloc _).alloc _).trans E1⟩
 have hw1 : W.heap.size + 1 < w1.heap.size := HB1.out.2.1.1
 have HB0 := HB1.out.1
 obtain ⟨qa, ⟨la0, la1, la2, la3, la4, la5, la6, la7, la8, la9, la10, la11, la12⟩, ga0, ga1, ga2, ga3, ga4, ga5, ga6, ga7, ga8, ga9, ga10, ga11, ga12⟩ := HB0
 clear E1 cH
 go_wp2_with fail
 refine (HFN.out _ (t) none 0 cl HB1.out.2.2).mono ?_
 rintro e w8 ⟨p, l, c, rfl, E8, h8⟩
 have HB8 : Hid (BlkX w8 (W.heap.size + 1) tz (.slice none 0 0) ∧ Ext W w8) := ⟨(HB1.out.2.1).ext E8, Ext.trans HB1.out.2.2 E8⟩
 have HL8 : Hid (IsL w8 (W.heap.size + 1 + 1 ≤ ·) (.slice p l c) (g (t)).l) := by
   rcases h8 with ⟨q1, q2, q3, q4⟩ | ⟨q1, q2⟩
   · rw [q1, q2, q3, q4]; exact ((by rw [HN1.out]; exact .nil : IsL w1 (W.heap.size + 1 + 1 ≤ ·) (.slice none 0 cl) t.l)).ext E8
   · rw [q1, q2]; exact .nil
 have HB2 := HB8.out.1
 obtain ⟨qc, ⟨lc0, lc1, lc2, lc3, lc4, lc5, lc6, lc7, lc8, lc9, lc10, lc11, lc12⟩, gc0, gc1, gc2, gc3, gc4, gc5, gc6, gc7, gc8, gc9, gc10, gc11, gc12⟩ := HB2
 clear E8 h8
 obtain ⟨y, hy⟩ : ∃ y, g (t) = y := ⟨_, rfl⟩
 have HY : Hid (mpT g (n + 1) t = y) := by show _ = _; rw [HX.out, HWL.out, ← hy]
 rw [hy] at HL8 ⊢
 clear hy
 unfold aggX
 go_wp2_with fail
 show bodyPost Try.prog _ _ _ _ (putX w8 (W.heap.size + 1) y (.slice p l c))
 rw [HY.out]
 exact endR (HB8.out.1.put y (.slice p l c)) rfl ⟨p, l, c, rfl, (putX_L HL8.out (fun k hk => by have hk2 : W.heap.size + 1 + 1 ≤ k := hk; omega)).mono (fun k hk _ => by have hk2 : W.heap.size + 1 + 1 ≤ k := hk; omega), putX_E HB8.out.2 (by omega) _ _⟩ (fun h0 h1 h2 h3 h4 h5 h6 h7 h8 h9 h10 h11 h12 => by simp [results, Try.results40, go_sem, h0, h1, h2, h3, h4, h5, h6, h7, h8, h9, h10, h11, h12, aggX])
set_option maxRecDepth 100000 in
theorem mapped_some1 (n : Nat) (t : T) (hl : t.l.length ≤ 100000) (ih : ∀ x ∈ t.l, MpC n x) (hb : prB t.k = true) (g : T → T) (v : Value) (W : World) (P : Nat → Prop) (a : Addr) (ln cl : Nat) (hv : FnC W v g) (hL : IsL W P (.slice (some a) ln cl) t.l) :
   Calls Try.prog 40 #[.agg #[.int .i64 t.k, .int .i64 t.n, .string (bs t.s), .int .i64 t.e, .int .i64 t.r.1, .int .i64 t.r.2.1, .bool t.r.2.2.1, .bool t.r.2.2.2, .int .i64 t.q.1, .int .i64 t.q.2.1, .bool t.q.2.2.1, .bool t.q.2.2.2, .slice (some a) ln cl], v] W (MpQ W (mpT g (n + 1) t)) := by
 have hln : ln = t.l.length := by
   obtain ⟨p, c, h1, _⟩ := hL.form
   cases h1; rfl
 have HV : Hid (FnC W v g) := hv
 obtain ⟨K, cs, rfl, hent, hK⟩ := hv
 have HI : Hid (IsL W P (.slice (some a) ln cl) t.l) := hL
 have HLN : Hid (ln = t.l.length) := hln
 have HIH : Hid (∀ x ∈ t.l, MpC n x) := ih
 have HFN : Hid (∀ (W' : World) (t : T) (pp : Option Addr) (ln cl : Nat), Ext W W' → Calls Try.prog K (#[.agg #[.int .i64 t.k, .int .i64 t.n, .string (bs t.s), .int .i64 t.e, .int .i64 t.r.1, .int .i64 t.r.2.1, .bool t.r.2.2.1, .bool t.r.2.2.2, .int .i64 t.q.1, .int .i64 t.q.2.1, .bool t.q.2.2.1, .bool t.q.2.2.2, .slice pp ln cl]] ++ cs) W' fun e w' => ∃ p l c, e = .returned (aggX (g t) (.slice p l c)) ∧ Ext W' w' ∧ ((p = pp ∧ l = ln ∧ c = cl ∧ (g t).l = t.l) ∨ (l = 0 ∧ (g t).l = []))) := hK
 have HX : Hid (mpT g (n + 1) t = g (t.wL (t.l.map (mpT g n)))) := by show _ = _; rw [mpT, hb]; rfl
 have hl2 : ln ≤ 100000 := by omega
 have cH := fun V => hasParts_any t (.slice (some a) ln cl) V
 rw [hb] at cH
 clear hL hln ih hl hK hb
 obtain ⟨C, hC, hmk⟩ : ∃ C : World → Array Value, (∀ V, (C V).size = ln * 13) ∧ ∀ V, (Instr.makeSlice 24 (.int .i64 (ln : Int)) (.int .i64 (ln : Int))).run Try.prog V = .ok (.slice (some ⟨V.heap.size, 0, none⟩) ln ln) (V.alloc (.cells (C V) 26)) := ⟨fun V => Classical.choose (run_mk ln hl2 V), fun V => (Classical.choose_spec (run_mk ln hl2 V)).1, fun V => (Classical.choose_spec (run_mk ln hl2 V)).2⟩
 have HCZ : Hid (∀ V, (C V).size = ln * 13) := hC
 clear hC
 go_enter Try.func40, Try.ntmps40
 go_wp2_with fail
 refine (cH _).mono ?_
 rintro e w1 ⟨rfl, E1⟩
 have HB1 : Hid (BlkX w1 W.heap.size t (.slice (some a) ln cl) ∧ BlkX w1 (W.heap.size + 1) tz (.slice none 0 0) ∧ Ext W w1) := ⟨(blk13_top rfl ((Ext.refl _).alloc _)).ext E1, (BlkX.top (by simp) (Ext.refl _)).ext E1, (((Ext.refl _).alloc _).alloc _).trans E1⟩
 have hw1 : W.heap.size + 1 < w1.heap.size := HB1.out.2.1.1
 have HB0 := HB1.out.1
 obtain ⟨qa, ⟨la0, la1, la2, la3, la4, la5, la6, la7, la8, la9, la10, la11, la12⟩, ga0, ga1, ga2, ga3, ga4, ga5, ga6, ga7, ga8, ga9, ga10, ga11, ga12⟩ := HB0
 clear E1 cH
 have HR1 : Hid (Room (w1.alloc (.cells (C w1) 26)) w1.heap.size (ln * 13)) := Room.new (HCZ.out w1) rfl (Ext.refl _)
 have HE1 : Hid (Ext w1 (w1.alloc (.cells (C w1) 26))) := (Ext.refl _).alloc _
 go_wp2_with fail
 go_loopw [23] (fun iv wr => ∃ (j : Nat) (ps : List (T × Value)), j ≤ ln ∧ iv = .int .i64 (j : Int) ∧ ps.length = j ∧ ps.map Prod.fst = (t.l.take j).map (mpT g n) ∧ Room wr w1.heap.size (ln * 13) ∧ Laid wr w1.heap.size (W.heap.size + 1 + 1) ps ∧ BlkX wr W.heap.size t (.slice (some a) ln cl) ∧ BlkX wr (W.heap.size + 1) tz (.slice none 0 0) ∧ Ext W wr ∧ Ext w1 wr) (fun iv _ => ln - (intOf iv).toNat)
 case atStart => exact ⟨0, [], Nat.zero_le _, rfl, rfl, by simp, HR1.out, Laid.nil _ _ _, HB1.out.1.ext HE1.out, HB1.out.2.1.ext HE1.out, HB1.out.2.2.trans HE1.out, HE1.out⟩
 case round =>
   obtain ⟨j, ps, hj, rfl, hpl, hps, hR, hLd, hB, hB2, hE, hE1⟩ := hrel
   have HO : Hid (ps.length = j ∧ ps.map Prod.fst = (t.l.take j).map (mpT g n) ∧ Room wr w1.heap.size (ln * 13) ∧ Laid wr w1.heap.size (W.heap.size + 1 + 1) ps ∧ Ext W wr ∧ Ext w1 wr) := ⟨hpl, hps, hR, hLd, hE, hE1⟩
   have HB : Hid (BlkX wr W.heap.size t (.slice (some a) ln cl) ∧ BlkX wr (W.heap.size + 1) tz (.slice none 0 0)) := ⟨hB, hB2⟩
   have hwr : w1.heap.size < wr.heap.size := hR.1
   clear hE hE1 hps hpl hR hLd hB hB2 la0 la1 la2 la3 la4 la5 la6 la7 la8 la9 la10 la11 la12 qa ga0 ga1 ga2 ga3 ga4 ga5 ga6 ga7 ga8 ga9 ga10 ga11 ga12
   by_cases hlt : j < ln
   · have hltI : (j : Int) < (ln : Int) := by omega
     have hI := HI.out.ext HO.out.2.2.2.2.1
     obtain ⟨gb, off, x, lv, hpp, hx1, hA1, hgb, hA2, hLx, hce⟩ := hI.at (i := j) (by rw [← HLN.out]; exact hlt)
     clear hA1 hA2
     cases hpp
     obtain ⟨pp, cl', hlv, hcl⟩ := hLx.form
     obtain ⟨ln', hln'⟩ : ∃ ln', x.l.length = ln' := ⟨_, rfl⟩
     rw [hln'] at hlv
     subst hlv
     have HX1 : Hid (t.l[j]? = some x) := hx1
     have HC : Hid (∀ V, Ext wr V → Calls Try.prog 40 #[.agg #[.int .i64 x.k, .int .i64 x.n, .string (bs x.s), .int .i64 x.e, .int .i64 x.r.1, .int .i64 x.r.2.1, .bool x.r.2.2.1, .bool x.r.2.2.2, .int .i64 x.q.1, .int .i64 x.q.2.1, .bool x.q.2.2.1, .bool x.q.2.2.2, .slice pp ln' cl'], .func (.func K) #[] cs] V (MpQ V (mpT g n x))) := fun V e => HIH.out x (List.mem_of_getElem? hx1) _ _ V P pp ln' cl' (HV.out.ext (HO.out.2.2.2.2.1.trans e)) (hLx.ext e)
     have e0 : wr.cell? ⟨gb, off + j * 13, none⟩ = some (.int .i64 x.k) := hce 0 _ rfl
     have e1 : wr.cell? ⟨gb, off + j * 13 + 1, none⟩ = some (.int .i64 x.n) := hce 1 _ rfl
     have e2 : wr.cell? ⟨gb, off + j * 13 + 2, none⟩ = some (.string (bs x.s)) := hce 2 _ rfl
     have e3 : wr.cell? ⟨gb, off + j * 13 + 3, none⟩ = some (.int .i64 x.e) := hce 3 _ rfl
     have e4 : wr.cell? ⟨gb, off + j * 13 + 4, none⟩ = some (.int .i64 x.r.1) := hce 4 _ rfl
     have e5 : wr.cell? ⟨gb, off + j * 13 + 5, none⟩ = some (.int .i64 x.r.2.1) := hce 5 _ rfl
     have e6 : wr.cell? ⟨gb, off + j * 13 + 6, none⟩ = some (.bool x.r.2.2.1) := hce 6 _ rfl
     have e7 : wr.cell? ⟨gb, off + j * 13 + 7, none⟩ = some (.bool x.r.2.2.2) := hce 7 _ rfl
     have e8 : wr.cell? ⟨gb, off + j * 13 + 8, none⟩ = some (.int .i64 x.q.1) := hce 8 _ rfl
     have e9 : wr.cell? ⟨gb, off + j * 13 + 9, none⟩ = some (.int .i64 x.q.2.1) := hce 9 _ rfl
     have e10 : wr.cell? ⟨gb, off + j * 13 + 10, none⟩ = some (.bool x.q.2.2.1) := hce 10 _ rfl
     have e11 : wr.cell? ⟨gb, off + j * 13 + 11, none⟩ = some (.bool x.q.2.2.2) := hce 11 _ rfl
     have e12 : wr.cell? ⟨gb, off + j * 13 + 12, none⟩ = some (.slice pp ln' cl') := hce 12 _ rfl
     clear hI hx1 hLx hce hcl hln'
     go_wp2_with fail
     refine (HC.out _ ((Ext.refl _).alloc _)).mono ?_
     rintro e w3 ⟨p3, l3, c3, rfl, hL3, E3⟩
     obtain ⟨y, hy⟩ : ∃ y, mpT g n x = y := ⟨_, rfl⟩
     have HY : Hid (mpT g n x = y) := hy
     rw [hy] at hL3 ⊢
     have hE3 : Ext wr w3 := ((Ext.refl _).alloc _).trans E3
     have H3 : Hid (Room w3 w1.heap.size (ln * 13) ∧ Laid w3 w1.heap.size (W.heap.size + 1 + 1) ps ∧ Ext W w3 ∧ Ext w1 w3 ∧ BlkX w3 W.heap.size t (.slice (some ⟨gb, off, none⟩) ln cl) ∧ BlkX w3 (W.heap.size + 1) tz (.slice none 0 0)) := ⟨HO.out.2.2.1.ext hE3, HO.out.2.2.2.1.ext HO.out.2.2.1.1 hE3, HO.out.2.2.2.2.1.trans hE3, HO.out.2.2.2.2.2.trans hE3, HB.out.1.ext hE3, HB.out.2.ext hE3⟩
     have HL3 : Hid (IsL w3 (fun k => W.heap.size + 1 + 1 ≤ k ∧ k ≠ w1.heap.size) (.slice p3 l3 c3) y.l) := hL3.mono (fun k hk _ => by have : (wr.alloc (.cells #[.int .i64 x.k, .int .i64 x.n, .string (bs x.s), .int .i64 x.e, .int .i64 x.r.1, .int .i64 x.r.2.1, .bool x.r.2.2.1, .bool x.r.2.2.2, .int .i64 x.q.1, .int .i64 x.q.2.1, .bool x.q.2.2.1, .bool x.q.2.2.2, .slice pp ln' cl'] 26)).heap.size ≤ k := hk; simp at this; exact ⟨by omega, by omega⟩)
     have hjn : ps.length * 13 + 13 ≤ ln * 13 := by have := HO.out.1; omega
     have hjI : j * 13 + 13 ≤ ln * 13 := by omega
     obtain ⟨u0, hu0⟩ := Option.isSome_iff_exists.1 (H3.out.1.2.1 (j * 13) (by omega))
     have hf0 := H3.out.1.2.2 (j * 13)
     obtain ⟨u1, hu1⟩ := Option.isSome_iff_exists.1 (H3.out.1.2.1 (j * 13 + 1) (by omega))
     have hf1 := H3.out.1.2.2 (j * 13 + 1)
     obtain ⟨u2, hu2⟩ := Option.isSome_iff_exists.1 (H3.out.1.2.1 (j * 13 + 2) (by omega))
     have hf2 := H3.out.1.2.2 (j * 13 + 2)
     obtain ⟨u3, hu3⟩ := Option.isSome_iff_exists.1 (H3.out.1.2.1 (j * 13 + 3) (by omega))
     have hf3 := H3.out.1.2.2 (j * 13 + 3)
     obtain ⟨u4, hu4⟩ := Option.isSome_iff_exists.1 (H3.out.1.2.1 (j * 13 + 4) (by omega))
     have hf4 := H3.out.1.2.2 (j * 13 + 4)
     obtain ⟨u5, hu5⟩ := Option.isSome_iff_exists.1 (H3.out.1.2.1 (j * 13 + 5) (by omega))
     have hf5 := H3.out.1.2.2 (j * 13 + 5)
     obtain ⟨u6, hu6⟩ := Option.isSome_iff_exists.1 (H3.out.1.2.1 (j * 13 + 6) (by omega))
     have hf6 := H3.out.1.2.2 (j * 13 + 6)
     obtain ⟨u7, hu7⟩ := Option.isSome_iff_exists.1 (H3.out.1.2.1 (j * 13 + 7) (by omega))
     have hf7 := H3.out.1.2.2 (j * 13 + 7)
     obtain ⟨u8, hu8⟩ := Option.isSome_iff_exists.1 (H3.out.1.2.1 (j * 13 + 8) (by omega))
     have hf8 := H3.out.1.2.2 (j * 13 + 8)
     obtain ⟨u9, hu9⟩ := Option.isSome_iff_exists.1 (H3.out.1.2.1 (j * 13 + 9) (by omega))
     have hf9 := H3.out.1.2.2 (j * 13 + 9)
     obtain ⟨u10, hu10⟩ := Option.isSome_iff_exists.1 (H3.out.1.2.1 (j * 13 + 10) (by omega))
     have hf10 := H3.out.1.2.2 (j * 13 + 10)
     obtain ⟨u11, hu11⟩ := Option.isSome_iff_exists.1 (H3.out.1.2.1 (j * 13 + 11) (by omega))
     have hf11 := H3.out.1.2.2 (j * 13 + 11)
     obtain ⟨u12, hu12⟩ := Option.isSome_iff_exists.1 (H3.out.1.2.1 (j * 13 + 12) (by omega))
     have hf12 := H3.out.1.2.2 (j * 13 + 12)
     have hw3 : w1.heap.size < w3.heap.size := H3.out.1.1
     clear hL3 E3 hE3 hy e0 e1 e2 e3 e4 e5 e6 e7 e8 e9 e10 e11 e12
     unfold aggX
     go_wp2_with fail
     go_roundw
     case rel =>
       have hj13 : j * 13 = ps.length * 13 := by rw [HO.out.1]
       refine ⟨j + 1, ps ++ [(y, .slice p3 l3 c3)], by omega, by go_num, by rw [List.length_append, HO.out.1]; rfl, ?_, ?_⟩
       · rw [List.map_append, HO.out.2.1, List.take_add_one, HX1.out]; simp [← HY.out] 
       show Room (w3.setCells w1.heap.size (j * 13) (cellsT y (.slice p3 l3 c3))) _ _ ∧ Laid (w3.setCells w1.heap.size (j * 13) (cellsT y (.slice p3 l3 c3))) _ _ _ ∧ BlkX (w3.setCells w1.heap.size (j * 13) (cellsT y (.slice p3 l3 c3))) _ _ _ ∧ BlkX (w3.setCells w1.heap.size (j * 13) (cellsT y (.slice p3 l3 c3))) _ _ _ ∧ Ext W (w3.setCells w1.heap.size (j * 13) (cellsT y (.slice p3 l3 c3))) ∧ Ext w1 (w3.setCells w1.heap.size (j * 13) (cellsT y (.slice p3 l3 c3)))
       rw [hj13]
       exact ⟨H3.out.1.put _ _, H3.out.2.1.snoc H3.out.1 hjn HL3.out, H3.out.2.2.2.2.1.setCells (by omega) _ _, H3.out.2.2.2.2.2.setCells (by omega) _ _, H3.out.2.2.1.setCells (by omega) _ _, H3.out.2.2.2.1.setCells (Nat.le_refl _) _ _⟩
     case measure => show ln - ((j : Int) + 1).toNat < ln - ((j : Int)).toNat; omega
   · have hltI : ¬ (j : Int) < (ln : Int) := by omega
     have hjl : j = ln := by omega
     have HJL : Hid (j = ln) := hjl
     have HT : Hid (ps.map Prod.fst = t.l.map (mpT g n) ∧ ps.length = ln) := ⟨by rw [HO.out.2.1, hjl, HLN.out, List.take_length], HO.out.1.trans hjl⟩
     clear hlt hjl
     have HB0 := HB.out.1
     obtain ⟨qa, ⟨la0, la1, la2, la3, la4, la5, la6, la7, la8, la9, la10, la11, la12⟩, ga0, ga1, ga2, ga3, ga4, ga5, ga6, ga7, ga8, ga9, ga10, ga11, ga12⟩ := HB0
     go_wp2_with fail
     have hL9 : IsL wr (W.heap.size + 1 + 1 ≤ ·) (.slice (some ⟨w1.heap.size, 0, none⟩) ln ln) (t.l.map (mpT g n)) := by
       have := HO.out.2.2.2.1.isL (c := ln) HO.out.2.2.1.1 (by omega) (by rw [HT.out.2]; exact Nat.le_refl _)
       rw [HT.out.1, HT.out.2] at this
       exact this
     have hE9 : Ext W (wr.setCell ⟨W.heap.size, 12, none⟩ (.slice (some ⟨w1.heap.size, 0, none⟩) ln ln)) := HO.out.2.2.2.2.1.setCell (p := ⟨W.heap.size, 12, none⟩) (Nat.le_refl _) _
     have hB9 : BlkX (wr.setCell ⟨W.heap.size, 12, none⟩ (.slice (some ⟨w1.heap.size, 0, none⟩) ln ln)) (W.heap.size + 1) tz (.slice none 0 0) := Blk13.far1 HB.out.2 (by omega) 12 _
     have hL10 : IsL (wr.setCell ⟨W.heap.size, 12, none⟩ (.slice (some ⟨w1.heap.size, 0, none⟩) ln ln)) (W.heap.size + 1 + 1 ≤ ·) (.slice (some ⟨w1.heap.size, 0, none⟩) ln ln) (t.wL (t.l.map (mpT g n))).l := hL9.keep (by simp [World.setCell]) (fun k hk _ => Below.heap_setCell _ _ _ _ (by have hk2 : W.heap.size + 1 + 1 ≤ k := hk; simp; omega)) (fun _ h _ => h)
     have H9 : Hid (Ext W (wr.setCell ⟨W.heap.size, 12, none⟩ (.slice (some ⟨w1.heap.size, 0, none⟩) ln ln)) ∧ BlkX (wr.setCell ⟨W.heap.size, 12, none⟩ (.slice (some ⟨w1.heap.size, 0, none⟩) ln ln)) (W.heap.size + 1) tz (.slice none 0 0) ∧ IsL (wr.setCell ⟨W.heap.size, 12, none⟩ (.slice (some ⟨w1.heap.size, 0, none⟩) ln ln)) (W.heap.size + 1 + 1 ≤ ·) (.slice (some ⟨w1.heap.size, 0, none⟩) ln ln) (t.wL (t.l.map (mpT g n))).l) := ⟨hE9, hB9, hL10⟩
     clear hL9 hE9 hB9 hL10 qa la0 la1 la2 la3 la4 la5 la6 la7 la8 la9 la10 la11 la12 ga0 ga1 ga2 ga3 ga4 ga5 ga6 ga7 ga8 ga9 ga10 ga11 ga12
     refine (HFN.out _ (t.wL (t.l.map (mpT g n))) (some ⟨w1.heap.size, 0, none⟩) ln ln H9.out.1).mono ?_
     rintro e w8 ⟨p, l, c, rfl, E8, h8⟩
     have HB8 : Hid (BlkX w8 (W.heap.size + 1) tz (.slice none 0 0) ∧ Ext W w8) := ⟨(H9.out.2.1).ext E8, Ext.trans H9.out.1 E8⟩
     have HL8 : Hid (IsL w8 (W.heap.size + 1 + 1 ≤ ·) (.slice p l c) (g (t.wL (t.l.map (mpT g n)))).l) := by
       rcases h8 with ⟨q1, q2, q3, q4⟩ | ⟨q1, q2⟩
       · rw [q1, q2, q3, q4]; exact (H9.out.2.2).ext E8
       · rw [q1, q2]; exact .nil
     have HB2 := HB8.out.1
     obtain ⟨qc, ⟨lc0, lc1, lc2, lc3, lc4, lc5, lc6, lc7, lc8, lc9, lc10, lc11, lc12⟩, gc0, gc1, gc2, gc3, gc4, gc5, gc6, gc7, gc8, gc9, gc10, gc11, gc12⟩ := HB2
     clear E8 h8
     obtain ⟨y, hy⟩ : ∃ y, g (t.wL (t.l.map (mpT g n))) = y := ⟨_, rfl⟩
     have HY : Hid (mpT g (n + 1) t = y) := by show _ = _; rw [HX.out, ← hy]
     rw [hy] at HL8 ⊢
     clear hy
     unfold aggX
     go_wp2_with fail
     show bodyPost Try.prog _ _ _ _ (putX w8 (W.heap.size + 1) y (.slice p l c))
     rw [HY.out]
     exact endR (HB8.out.1.put y (.slice p l c)) rfl ⟨p, l, c, rfl, (putX_L HL8.out (fun k hk => by have hk2 : W.heap.size + 1 + 1 ≤ k := hk; omega)).mono (fun k hk _ => by have hk2 : W.heap.size + 1 + 1 ≤ k := hk; omega), putX_E HB8.out.2 (by omega) _ _⟩ (fun h0 h1 h2 h3 h4 h5 h6 h7 h8 h9 h10 h11 h12 => by simp [results, Try.results40, go_sem, h0, h1, h2, h3, h4, h5, h6, h7, h8, h9, h10, h11, h12, aggX])
set_option maxRecDepth 100000 in
theorem mapped_some0 (n : Nat) (t : T) (hl : t.l.length ≤ 100000) (ih : ∀ x ∈ t.l, MpC n x) (hb : prB t.k = false) (g : T → T) (v : Value) (W : World) (P : Nat → Prop) (a : Addr) (ln cl : Nat) (hv : FnC W v g) (hL : IsL W P (.slice (some a) ln cl) t.l) :
   Calls Try.prog 40 #[.agg #[.int .i64 t.k, .int .i64 t.n, .string (bs t.s), .int .i64 t.e, .int .i64 t.r.1, .int .i64 t.r.2.1, .bool t.r.2.2.1, .bool t.r.2.2.2, .int .i64 t.q.1, .int .i64 t.q.2.1, .bool t.q.2.2.1, .bool t.q.2.2.2, .slice (some a) ln cl], v] W (MpQ W (mpT g (n + 1) t)) := by
 have hln : ln = t.l.length := by
   obtain ⟨p, c, h1, _⟩ := hL.form
   cases h1; rfl
 have HV : Hid (FnC W v g) := hv
 obtain ⟨K, cs, rfl, hent, hK⟩ := hv
 have HI : Hid (IsL W P (.slice (some a) ln cl) t.l) := hL
 have HLN : Hid (ln = t.l.length) := hln
 have HIH : Hid (∀ x ∈ t.l, MpC n x) := ih
 have HFN : Hid (∀ (W' : World) (t : T) (pp : Option Addr) (ln cl : Nat), Ext W W' → Calls Try.prog K (#[.agg #[.int .i64 t.k, .int .i64 t.n, .string (bs t.s), .int .i64 t.e, .int .i64 t.r.1, .int .i64 t.r.2.1, .bool t.r.2.2.1, .bool t.r.2.2.2, .int .i64 t.q.1, .int .i64 t.q.2.1, .bool t.q.2.2.1, .bool t.q.2.2.2, .slice pp ln cl]] ++ cs) W' fun e w' => ∃ p l c, e = .returned (aggX (g t) (.slice p l c)) ∧ Ext W' w' ∧ ((p = pp ∧ l = ln ∧ c = cl ∧ (g t).l = t.l) ∨ (l = 0 ∧ (g t).l = []))) := hK
 have HX : Hid (mpT g (n + 1) t = g (t.wL (t.l.map (id)))) := by show _ = _; rw [mpT, hb]; rfl
 have hl2 : ln ≤ 100000 := by omega
 have cH := fun V => hasParts_any t (.slice (some a) ln cl) V
 rw [hb] at cH
 clear hL hln ih hl hK hb
 obtain ⟨C, hC, hmk⟩ : ∃ C : World → Array Value, (∀ V, (C V).size = ln * 13) ∧ ∀ V, (Instr.makeSlice 24 (.int .i64 (ln : Int)) (.int .i64 (ln : Int))).run Try.prog V = .ok (.slice (some ⟨V.heap.size, 0, none⟩) ln ln) (V.alloc (.cells (C V) 26)) := ⟨fun V => Classical.choose (run_mk ln hl2 V), fun V => (Classical.choose_spec (run_mk ln hl2 V)).1, fun V => (Classical.choose_spec (run_mk ln hl2 V)).2⟩
 have HCZ : Hid (∀ V, (C V).size = ln * 13) := hC
 clear hC
 go_enter Try.func40, Try.ntmps40
 go_wp2_with fail
 refine (cH _).mono ?_
 rintro e w1 ⟨rfl, E1⟩
 have HB1 : Hid (BlkX w1 W.heap.size t (.slice (some a) ln cl) ∧ BlkX w1 (W.heap.size + 1) tz (.slice none 0 0) ∧ Ext W w1) := ⟨(blk13_top rfl ((Ext.refl _).alloc _)).ext E1, (BlkX.top (by simp) (Ext.refl _)).ext E1, (((Ext.refl _).alloc _).alloc _).trans E1⟩
 have hw1 : W.heap.size + 1 < w1.heap.size := HB1.out.2.1.1
 have HB0 := HB1.out.1
 obtain ⟨qa, ⟨la0, la1, la2, la3, la4, la5, la6, la7, la8, la9, la10, la11, la12⟩, ga0, ga1, ga2, ga3, ga4, ga5, ga6, ga7, ga8, ga9, ga10, ga11, ga12⟩ := HB0
 clear E1 cH
 have HR1 : Hid (Room (w1.alloc (.cells (C w1) 26)) w1.heap.size (ln * 13)) := Room.new (HCZ.out w1) rfl (Ext.refl _)
 have HE1 : Hid (Ext w1 (w1.alloc (.cells (C w1) 26))) := (Ext.refl _).alloc _
 go_wp2_with fail
 go_loopw [23] (fun iv wr => ∃ (j : Nat) (ps : List (T × Value)), j ≤ ln ∧ iv = .int .i64 (j : Int) ∧ ps.length = j ∧ ps.map Prod.fst = (t.l.take j).map (id) ∧ Room wr w1.heap.size (ln * 13) ∧ Laid wr w1.heap.size (W.heap.size + 1 + 1) ps ∧ BlkX wr W.heap.size t (.slice (some a) ln cl) ∧ BlkX wr (W.heap.size + 1) tz (.slice none 0 0) ∧ Ext W wr ∧ Ext w1 wr) (fun iv _ => ln - (intOf iv).toNat)
 case atStart => exact ⟨0, [], Nat.zero_le _, rfl, rfl, by simp, HR1.out, Laid.nil _ _ _, HB1.out.1.ext HE1.out, HB1.out.2.1.ext HE1.out, HB1.out.2.2.trans HE1.out, HE1.out⟩
 case round =>
   obtain ⟨j, ps, hj, rfl, hpl, hps, hR, hLd, hB, hB2, hE, hE1⟩ := hrel
   have HO : Hid (ps.length = j ∧ ps.map Prod.fst = (t.l.take j).map (id) ∧ Room wr w1.heap.size (ln * 13) ∧ Laid wr w1.heap.size (W.heap.size + 1 + 1) ps ∧ Ext W wr ∧ Ext w1 wr) := ⟨hpl, hps, hR, hLd, hE, hE1⟩
   have HB : Hid (BlkX wr W.heap.size t (.slice (some a) ln cl) ∧ BlkX wr (W.heap.size + 1) tz (.slice none 0 0)) := ⟨hB, hB2⟩
   have hwr : w1.heap.size < wr.heap.size := hR.1
   clear hE hE1 hps hpl hR hLd hB hB2 la0 la1 la2 la3 la4 la5 la6 la7 la8 la9 la10 la11 la12 qa ga0 ga1 ga2 ga3 ga4 ga5 ga6 ga7 ga8 ga9 ga10 ga11 ga12
   by_cases hlt : j < ln
   · have hltI : (j : Int) < (ln : Int) := by omega
     have hI := HI.out.ext HO.out.2.2.2.2.1
     obtain ⟨gb, off, x, lv, hpp, hx1, hA1, hgb, hA2, hLx, hce⟩ := hI.at (i := j) (by rw [← HLN.out]; exact hlt)
     clear hA1 hA2
     cases hpp
     obtain ⟨pp, cl', hlv, hcl⟩ := hLx.form
     obtain ⟨ln', hln'⟩ : ∃ ln', x.l.length = ln' := ⟨_, rfl⟩
     rw [hln'] at hlv
     subst hlv
     have HX1 : Hid (t.l[j]? = some x) := hx1
     have HC : Hid (∀ V, Ext wr V → Calls Try.prog 40 #[.agg #[.int .i64 x.k, .int .i64 x.n, .string (bs x.s), .int .i64 x.e, .int .i64 x.r.1, .int .i64 x.r.2.1, .bool x.r.2.2.1, .bool x.r.2.2.2, .int .i64 x.q.1, .int .i64 x.q.2.1, .bool x.q.2.2.1, .bool x.q.2.2.2, .slice pp ln' cl'], .func (.func 72) #[] #[]] V (MpQ V (mpT id n x))) := fun V e => HIH.out x (List.mem_of_getElem? hx1) _ _ V P pp ln' cl' (fn_same V) (hLx.ext e)
     have e0 : wr.cell? ⟨gb, off + j * 13, none⟩ = some (.int .i64 x.k) := hce 0 _ rfl
     have e1 : wr.cell? ⟨gb, off + j * 13 + 1, none⟩ = some (.int .i64 x.n) := hce 1 _ rfl
     have e2 : wr.cell? ⟨gb, off + j * 13 + 2, none⟩ = some (.string (bs x.s)) := hce 2 _ rfl
     have e3 : wr.cell? ⟨gb, off + j * 13 + 3, none⟩ = some (.int .i64 x.e) := hce 3 _ rfl
     have e4 : wr.cell? ⟨gb, off + j * 13 + 4, none⟩ = some (.int .i64 x.r.1) := hce 4 _ rfl
     have e5 : wr.cell? ⟨gb, off + j * 13 + 5, none⟩ = some (.int .i64 x.r.2.1) := hce 5 _ rfl
     have e6 : wr.cell? ⟨gb, off + j * 13 + 6, none⟩ = some (.bool x.r.2.2.1) := hce 6 _ rfl
     have e7 : wr.cell? ⟨gb, off + j * 13 + 7, none⟩ = some (.bool x.r.2.2.2) := hce 7 _ rfl
     have e8 : wr.cell? ⟨gb, off + j * 13 + 8, none⟩ = some (.int .i64 x.q.1) := hce 8 _ rfl
     have e9 : wr.cell? ⟨gb, off + j * 13 + 9, none⟩ = some (.int .i64 x.q.2.1) := hce 9 _ rfl
     have e10 : wr.cell? ⟨gb, off + j * 13 + 10, none⟩ = some (.bool x.q.2.2.1) := hce 10 _ rfl
     have e11 : wr.cell? ⟨gb, off + j * 13 + 11, none⟩ = some (.bool x.q.2.2.2) := hce 11 _ rfl
     have e12 : wr.cell? ⟨gb, off + j * 13 + 12, none⟩ = some (.slice pp ln' cl') := hce 12 _ rfl
     clear hI hx1 hLx hce hcl hln'
     go_wp2_with fail
     refine (HC.out _ ((Ext.refl _).alloc _)).mono ?_
     rintro e w3 ⟨p3, l3, c3, rfl, hL3, E3⟩
     obtain ⟨y, hy⟩ : ∃ y, mpT id n x = y := ⟨_, rfl⟩
     have HY : Hid (mpT id n x = y) := hy
     rw [hy] at hL3 ⊢
     have hE3 : Ext wr w3 := ((Ext.refl _).alloc _).trans E3
     have H3 : Hid (Room w3 w1.heap.size (ln * 13) ∧ Laid w3 w1.heap.size (W.heap.size + 1 + 1) ps ∧ Ext W w3 ∧ Ext w1 w3 ∧ BlkX w3 W.heap.size t (.slice (some ⟨gb, off, none⟩) ln cl) ∧ BlkX w3 (W.heap.size + 1) tz (.slice none 0 0)) := ⟨HO.out.2.2.1.ext hE3, HO.out.2.2.2.1.ext HO.out.2.2.1.1 hE3, HO.out.2.2.2.2.1.trans hE3, HO.out.2.2.2.2.2.trans hE3, HB.out.1.ext hE3, HB.out.2.ext hE3⟩
     have HL3 : Hid (IsL w3 (fun k => W.heap.size + 1 + 1 ≤ k ∧ k ≠ w1.heap.size) (.slice p3 l3 c3) y.l) := hL3.mono (fun k hk _ => by have : (wr.alloc (.cells #[.int .i64 x.k, .int .i64 x.n, .string (bs x.s), .int .i64 x.e, .int .i64 x.r.1, .int .i64 x.r.2.1, .bool x.r.2.2.1, .bool x.r.2.2.2, .int .i64 x.q.1, .int .i64 x.q.2.1, .bool x.q.2.2.1, .bool x.q.2.2.2, .slice pp ln' cl'] 26)).heap.size ≤ k := hk; simp at this; exact ⟨by omega, by omega⟩)
     have hjn : ps.length * 13 + 13 ≤ ln * 13 := by have := HO.out.1; omega
     have hjI : j * 13 + 13 ≤ ln * 13 := by omega
     obtain ⟨u0, hu0⟩ := Option.isSome_iff_exists.1 (H3.out.1.2.1 (j * 13) (by omega))
     have hf0 := H3.out.1.2.2 (j * 13)
     obtain ⟨u1, hu1⟩ := Option.isSome_iff_exists.1 (H3.out.1.2.1 (j * 13 + 1) (by omega))
     have hf1 := H3.out.1.2.2 (j * 13 + 1)
     obtain ⟨u2, hu2⟩ := Option.isSome_iff_exists.1 (H3.out.1.2.1 (j * 13 + 2) (by omega))
     have hf2 := H3.out.1.2.2 (j * 13 + 2)
     obtain ⟨u3, hu3⟩ := Option.isSome_iff_exists.1 (H3.out.1.2.1 (j * 13 + 3) (by omega))
     have hf3 := H3.out.1.2.2 (j * 13 + 3)
     obtain ⟨u4, hu4⟩ := Option.isSome_iff_exists.1 (H3.out.1.2.1 (j * 13 + 4) (by omega))
     have hf4 := H3.out.1.2.2 (j * 13 + 4)
     obtain ⟨u5, hu5⟩ := Option.isSome_iff_exists.1 (H3.out.1.2.1 (j * 13 + 5) (by omega))
     have hf5 := H3.out.1.2.2 (j * 13 + 5)
     obtain ⟨u6, hu6⟩ := Option.isSome_iff_exists.1 (H3.out.1.2.1 (j * 13 + 6) (by omega))
     have hf6 := H3.out.1.2.2 (j * 13 + 6)
     obtain ⟨u7, hu7⟩ := Option.isSome_iff_exists.1 (H3.out.1.2.1 (j * 13 + 7) (by omega))
     have hf7 := H3.out.1.2.2 (j * 13 + 7)
     obtain ⟨u8, hu8⟩ := Option.isSome_iff_exists.1 (H3.out.1.2.1 (j * 13 + 8) (by omega))
     have hf8 := H3.out.1.2.2 (j * 13 + 8)
     obtain ⟨u9, hu9⟩ := Option.isSome_iff_exists.1 (H3.out.1.2.1 (j * 13 + 9) (by omega))
     have hf9 := H3.out.1.2.2 (j * 13 + 9)
     obtain ⟨u10, hu10⟩ := Option.isSome_iff_exists.1 (H3.out.1.2.1 (j * 13 + 10) (by omega))
     have hf10 := H3.out.1.2.2 (j * 13 + 10)
     obtain ⟨u11, hu11⟩ := Option.isSome_iff_exists.1 (H3.out.1.2.1 (j * 13 + 11) (by omega))
     have hf11 := H3.out.1.2.2 (j * 13 + 11)
     obtain ⟨u12, hu12⟩ := Option.isSome_iff_exists.1 (H3.out.1.2.1 (j * 13 + 12) (by omega))
     have hf12 := H3.out.1.2.2 (j * 13 + 12)
     have hw3 : w1.heap.size < w3.heap.size := H3.out.1.1
     clear hL3 E3 hE3 hy e0 e1 e2 e3 e4 e5 e6 e7 e8 e9 e10 e11 e12
     unfold aggX
     go_wp2_with fail
     go_roundw
     case rel =>
       have hj13 : j * 13 = ps.length * 13 := by rw [HO.out.1]
       refine ⟨j + 1, ps ++ [(y, .slice p3 l3 c3)], by omega, by go_num, by rw [List.length_append, HO.out.1]; rfl, ?_, ?_⟩
       · rw [List.map_append, HO.out.2.1, List.take_add_one, HX1.out]; simp [← HY.out]; rw [mpT_id]
       show Room (w3.setCells w1.heap.size (j * 13) (cellsT y (.slice p3 l3 c3))) _ _ ∧ Laid (w3.setCells w1.heap.size (j * 13) (cellsT y (.slice p3 l3 c3))) _ _ _ ∧ BlkX (w3.setCells w1.heap.size (j * 13) (cellsT y (.slice p3 l3 c3))) _ _ _ ∧ BlkX (w3.setCells w1.heap.size (j * 13) (cellsT y (.slice p3 l3 c3))) _ _ _ ∧ Ext W (w3.setCells w1.heap.size (j * 13) (cellsT y (.slice p3 l3 c3))) ∧ Ext w1 (w3.setCells w1.heap.size (j * 13) (cellsT y (.slice p3 l3 c3)))
       rw [hj13]
       exact ⟨H3.out.1.put _ _, H3.out.2.1.snoc H3.out.1 hjn HL3.out, H3.out.2.2.2.2.1.setCells (by omega) _ _, H3.out.2.2.2.2.2.setCells (by omega) _ _, H3.out.2.2.1.setCells (by omega) _ _, H3.out.2.2.2.1.setCells (Nat.le_refl _) _ _⟩
     case measure => show ln - ((j : Int) + 1).toNat < ln - ((j : Int)).toNat; omega
   · have hltI : ¬ (j : Int) < (ln : Int) := by omega
     have hjl : j = ln := by omega
     have HJL : Hid (j = ln) := hjl
     have HT : Hid (ps.map Prod.fst = t.l.map (id) ∧ ps.length = ln) := ⟨by rw [HO.out.2.1, hjl, HLN.out, List.take_length], HO.out.1.trans hjl⟩
     clear hlt hjl
     have HB0 := HB.out.1
     obtain ⟨qa, ⟨la0, la1, la2, la3, la4, la5, la6, la7, la8, la9, la10, la11, la12⟩, ga0, ga1, ga2, ga3, ga4, ga5, ga6, ga7, ga8, ga9, ga10, ga11, ga12⟩ := HB0
     go_wp2_with fail
     have hL9 : IsL wr (W.heap.size + 1 + 1 ≤ ·) (.slice (some ⟨w1.heap.size, 0, none⟩) ln ln) (t.l.map (id)) := by
       have := HO.out.2.2.2.1.isL (c := ln) HO.out.2.2.1.1 (by omega) (by rw [HT.out.2]; exact Nat.le_refl _)
       rw [HT.out.1, HT.out.2] at this
       exact this
     have hE9 : Ext W (wr.setCell ⟨W.heap.size, 12, none⟩ (.slice (some ⟨w1.heap.size, 0, none⟩) ln ln)) := HO.out.2.2.2.2.1.setCell (p := ⟨W.heap.size, 12, none⟩) (Nat.le_refl _) _
     have hB9 : BlkX (wr.setCell ⟨W.heap.size, 12, none⟩ (.slice (some ⟨w1.heap.size, 0, none⟩) ln ln)) (W.heap.size + 1) tz (.slice none 0 0) := Blk13.far1 HB.out.2 (by omega) 12 _
     have hL10 : IsL (wr.setCell ⟨W.heap.size, 12, none⟩ (.slice (some ⟨w1.heap.size, 0, none⟩) ln ln)) (W.heap.size + 1 + 1 ≤ ·) (.slice (some ⟨w1.heap.size, 0, none⟩) ln ln) (t.wL (t.l.map (id))).l := hL9.keep (by simp [World.setCell]) (fun k hk _ => Below.heap_setCell _ _ _ _ (by have hk2 : W.heap.size + 1 + 1 ≤ k := hk; simp; omega)) (fun _ h _ => h)
     have H9 : Hid (Ext W (wr.setCell ⟨W.heap.size, 12, none⟩ (.slice (some ⟨w1.heap.size, 0, none⟩) ln ln)) ∧ BlkX (wr.setCell ⟨W.heap.size, 12, none⟩ (.slice (some ⟨w1.heap.size, 0, none⟩) ln ln)) (W.heap.size + 1) tz (.slice none 0 0) ∧ IsL (wr.setCell ⟨W.heap.size, 12, none⟩ (.slice (some ⟨w1.heap.size, 0, none⟩) ln ln)) (W.heap.size + 1 + 1 ≤ ·) (.slice (some ⟨w1.heap.size, 0, none⟩) ln ln) (t.wL (t.l.map (id))).l) := ⟨hE9, hB9, hL10⟩
     clear hL9 hE9 hB9 hL10 qa la0 la1 la2 la3 la4 la5 la6 la7 la8 la9 la10 la11 la12 ga0 ga1 ga2 ga3 ga4 ga5 ga6 ga7 ga8 ga9 ga10 ga11 ga12
     refine (HFN.out _ (t.wL (t.l.map (id))) (some ⟨w1.heap.size, 0, none⟩) ln ln H9.out.1).mono ?_
     rintro e w8 ⟨p, l, c, rfl, E8, h8⟩
     have HB8 : Hid (BlkX w8 (W.heap.size + 1) tz (.slice none 0 0) ∧ Ext W w8) := ⟨(H9.out.2.1).ext E8, Ext.trans H9.out.1 E8⟩
     have HL8 : Hid (IsL w8 (W.heap.size + 1 + 1 ≤ ·) (.slice p l c) (g (t.wL (t.l.map (id)))).l) := by
       rcases h8 with ⟨q1, q2, q3, q4⟩ | ⟨q1, q2⟩
       · rw [q1, q2, q3, q4]; exact (H9.out.2.2).ext E8
       · rw [q1, q2]; exact .nil
     have HB2 := HB8.out.1
     obtain ⟨qc, ⟨lc0, lc1, lc2, lc3, lc4, lc5, lc6, lc7, lc8, lc9, lc10, lc11, lc12⟩, gc0, gc1, gc2, gc3, gc4, gc5, gc6, gc7, gc8, gc9, gc10, gc11, gc12⟩ := HB2
     clear E8 h8
     obtain ⟨y, hy⟩ : ∃ y, g (t.wL (t.l.map (id))) = y := ⟨_, rfl⟩
     have HY : Hid (mpT g (n + 1) t = y) := by show _ = _; rw [HX.out, ← hy]
     rw [hy] at HL8 ⊢
     clear hy
     unfold aggX
     go_wp2_with fail
     show bodyPost Try.prog _ _ _ _ (putX w8 (W.heap.size + 1) y (.slice p l c))
     rw [HY.out]
     exact endR (HB8.out.1.put y (.slice p l c)) rfl ⟨p, l, c, rfl, (putX_L HL8.out (fun k hk => by have hk2 : W.heap.size + 1 + 1 ≤ k := hk; omega)).mono (fun k hk _ => by have hk2 : W.heap.size + 1 + 1 ≤ k := hk; omega), putX_E HB8.out.2 (by omega) _ _⟩ (fun h0 h1 h2 h3 h4 h5 h6 h7 h8 h9 h10 h11 h12 => by simp [results, Try.results40, go_sem, h0, h1, h2, h3, h4, h5, h6, h7, h8, h9, h10, h11, h12, aggX])
theorem mapped_any (n : Nat) : ∀ t : T, Hr n t → MpC n t := by
 induction n with
 | zero => intro t h; cases h
 | succ n ih =>
   intro t hr g v W P pp ln cl hv hL
   have hi : ∀ x ∈ t.l, MpC n x := fun x hx => ih x (hr.2 x hx)
   cases hb : prB t.k with
   | true =>
     cases pp with
     | none => exact mapped_nil1 n t hr.1 hi hb g v W P () ln cl hv hL
     | some a => exact mapped_some1 n t hr.1 hi hb g v W P a ln cl hv hL
   | false =>
     cases pp with
     | none => exact mapped_nil0 n t hr.1 hi hb g v W P () ln cl hv hL
     | some a => exact mapped_some0 n t hr.1 hi hb g v W P a ln cl hv hL
end Go.Proofs.Ytcggiljlilbdfaa

/-
 Whether a list of rectangles has a place, as the law asks it; three small numbers as an argument.
 What the laws of layer 10 ask of formulas that are filled: plain mathematics, no program in sight.
-/
import Derived.Test.YtcggiljlilbdfaaU44
import Derived.Test.YtcggiljlilbdfaaU47
import Derived.Laws.IdiomArrays
import Derived.Lib.SmallJoins
import Derived.Test.YtcggiljlilbdfaaU22
namespace Go.Proofs.Ytcggiljlilbdfaa
open Go.ChangeShapes Go.WideShapes Go.RowKit
set_option maxHeartbeats 6000000

theorem cells_a3 : Try.prog.cellsOf 44 = 3 := by kernel_rfl
theorem cells_u16 : Try.prog.cellsOf 43 = 1 := by kernel_rfl
theorem arr3 {cs : Array Value} (h : cs.size = 3) : ∃ c0 c1 c2, cs = #[c0, c1, c2] := by
 obtain ⟨l⟩ := cs
 match l, h with
 | [c0, c1, c2], _ => exact ⟨c0, c1, c2, rfl⟩
set_option maxRecDepth 100000 in
theorem open_arr3 {H : Type} {enc : TypeId × Value → H} {W : World} {r : Reach} {b0 base : Nat} {sp : Nat → Bool} {hd : Bool} {v : Value} {d : DataW H} {p : List MemPlace} (hv : Value.okWide Try.prog W r b0 44 v) (h : DataW.Trod enc Try.prog W base sp hd 44 v d p) :
   ∃ x y z : Int, v = .agg #[.int .u16 x, .int .u16 y, .int .u16 z] ∧ (Lit.int .u16 x).wf = true ∧ (Lit.int .u16 y).wf = true ∧ (Lit.int .u16 z).wf = true := by
 have hu := Try.underlying44
 simp only [Value.okWide, hu] at hv
 obtain ⟨cs, rfl, hsz, _⟩ := hv
 rw [cells_a3] at hsz
 obtain ⟨c0, c1, c2, rfl⟩ := arr3 hsz
 obtain ⟨fuel, hf⟩ := h
 obtain ⟨y0, y1, y2, n, _, h0, h1, h2⟩ := trod_array3 hu cells_u16 hf
 obtain ⟨x, e0, _, w0⟩ := DataW.trod_int Try.underlying43 h0
 obtain ⟨y, e1, _, w1⟩ := DataW.trod_int Try.underlying43 h1
 obtain ⟨z, e2, _, w2⟩ := DataW.trod_int Try.underlying43 h2
 simp only [List.cons.injEq, and_true] at e0 e1 e2
 subst e0 e1 e2
 exact ⟨x, y, z, rfl, w0, w1, w2⟩
theorem hasL_take (rs : List Rc) (j : Nat) (q : Rc) (r c : Int) (hq : rs[j]? = some q) (h : hasL (rs.take j) r c = false) : hasL (rs.take (j + 1)) r c = hasR q.1 q.2.1 q.2.2.1 q.2.2.2 r c := by
 unfold hasL at h ⊢
 rw [List.take_add_one, hq, List.any_append, h]; simp
theorem bothL_take (rs : List Rc) (j : Nat) (q : Rc) (r c : Int) (hq : rs[j]? = some q) (h : bothL (rs.take j) r c = false) : bothL (rs.take (j + 1)) r c = (hasR q.1 q.2.1 q.2.2.1 q.2.2.2 (r - 1) c && hasR q.1 q.2.1 q.2.2.1 q.2.2.2 r c) := by
 unfold bothL at h ⊢
 rw [List.take_add_one, hq, List.any_append, h]; simp
theorem any_take {p : Rc → Bool} {rs : List Rc} {j : Nat} (h : (rs.take j).any p = true) : rs.any p = true := by
 rw [List.any_eq_true] at h ⊢
 obtain ⟨x, hx, hp⟩ := h
 exact ⟨x, List.mem_of_mem_take hx, hp⟩
set_option maxRecDepth 100000 in
theorem has11_any (rs : List Rc) (hl : rs.length ≤ 1000) (r c : Int) (W : World) (p : Option Addr) (cc : Nat) (h : RdR W (.slice p rs.length cc) rs) : Calls Try.prog 35 #[.slice p rs.length cc, .int .i64 r, .int .i64 c] W fun e w' => e = .returned (.bool (hasL rs r c)) ∧ Ext W w' := by
 have HR : Hid (RdR W (.slice p rs.length cc) rs) := h
 obtain ⟨rl, hrl⟩ : ∃ rl, rs.length = rl := ⟨_, rfl⟩
 have HRL : Hid (rs.length = rl) := hrl
 rw [hrl] at HR hl ⊢
 obtain ⟨X, hX⟩ : ∃ X, hasL rs r c = X := ⟨_, rfl⟩
 have HX : Hid (hasL rs r c = X) := hX
 rw [hX]
 clear h hrl hX
 go_enter Try.func35, Try.ntmps35
 go_wp2_with fail
 go_loopw [7] (fun iv wr => ∃ j : Nat, j ≤ rl ∧ iv = .int .i64 (j : Int) ∧ hasL (rs.take j) r c = false ∧ Ext W wr) (fun iv _ => rl - (intOf iv).toNat)
 case atStart => exact ⟨0, Nat.zero_le _, rfl, rfl, Ext.refl _⟩
 case round =>
   obtain ⟨j, hj, rfl, hno, hE⟩ := hrel
   have HO : Hid (hasL (rs.take j) r c = false ∧ Ext W wr) := ⟨hno, hE⟩
   clear hno hE
   by_cases hlt : j < rl
   · have hltI : (j : Int) < (rl : Int) := by omega
     obtain ⟨g, q, hp, hn, hq, hg, hc⟩ := (HR.out.ext HO.out.2).at (i := j) (by rw [HRL.out]; exact hlt)
     have HQ : Hid (rs[j]? = some q) := hq
     subst hp
     have a0 : wr.cell? ⟨g, j * 4, none⟩ = some (.int .i64 q.1) := hc 0 _ rfl
     have a1 : wr.cell? ⟨g, j * 4 + 1, none⟩ = some (.int .i64 q.2.1) := hc 1 _ rfl
     have a2 : wr.cell? ⟨g, j * 4 + 2, none⟩ = some (.int .i64 q.2.2.1) := hc 2 _ rfl
     have a3 : wr.cell? ⟨g, j * 4 + 3, none⟩ = some (.int .i64 q.2.2.2) := hc 3 _ rfl
     have cH := fun V => rhas6_any q.1 q.2.1 q.2.2.1 q.2.2.2 r c V
     have HT : Hid (hasL (rs.take (j + 1)) r c = hasR q.1 q.2.1 q.2.2.1 q.2.2.2 r c) := hasL_take rs j q r c hq HO.out.1
     obtain ⟨x, hx⟩ : ∃ x, hasR q.1 q.2.1 q.2.2.1 q.2.2.2 r c = x := ⟨_, rfl⟩
     rw [hx] at cH HT
     clear hq hc hlt hn hx
     go_wp2_with fail
     refine (cH _).mono ?_
     rintro e w1 ⟨rfl, E1⟩
     have HE1 : Hid (Ext W w1) := HO.out.2.trans E1
     clear E1 cH
     cases x
     · go_wp2_with fail
       go_roundw
       case rel => exact ⟨j + 1, by omega, by go_num, HT.out, HE1.out⟩
       case measure => show rl - ((j : Int) + 1).toNat < rl - ((j : Int)).toNat; omega
     · go_wp2_with fail
       go_ret
       exact ⟨ret_bool (by rw [← HX.out]; exact (any_take HT.out).symm), HE1.out⟩
   · have hltI : ¬ (j : Int) < (rl : Int) := by omega
     have HF : Hid (hasL rs r c = false) := by
       show _ = _
       have := HO.out.1
       rwa [List.take_of_length_le (by rw [HRL.out]; omega)] at this
     clear hlt
     go_wp2_with fail
     go_ret
     exact ⟨ret_bool (by rw [← HX.out, HF.out]), HO.out.2⟩
set_option maxRecDepth 100000 in
theorem both11_any (rs : List Rc) (hl : rs.length ≤ 1000) (r c : Int) (h1 : 1 ≤ r) (h2 : r ≤ 1000) (W : World) (p : Option Addr) (cc : Nat) (h : RdR W (.slice p rs.length cc) rs) : Calls Try.prog 36 #[.slice p rs.length cc, .int .i64 r, .int .i64 c] W fun e w' => e = .returned (.bool (bothL rs r c)) ∧ Ext W w' := by
 have HR : Hid (RdR W (.slice p rs.length cc) rs) := h
 obtain ⟨rl, hrl⟩ : ∃ rl, rs.length = rl := ⟨_, rfl⟩
 have HRL : Hid (rs.length = rl) := hrl
 rw [hrl] at HR hl ⊢
 obtain ⟨X, hX⟩ : ∃ X, bothL rs r c = X := ⟨_, rfl⟩
 have HX : Hid (bothL rs r c = X) := hX
 rw [hX]
 clear h hrl hX
 go_enter Try.func36, Try.ntmps36
 go_wp2_with fail
 go_loopw [7] (fun iv wr => ∃ j : Nat, j ≤ rl ∧ iv = .int .i64 (j : Int) ∧ bothL (rs.take j) r c = false ∧ Ext W wr) (fun iv _ => rl - (intOf iv).toNat)
 case atStart => exact ⟨0, Nat.zero_le _, rfl, rfl, Ext.refl _⟩
 case round =>
   obtain ⟨j, hj, rfl, hno, hE⟩ := hrel
   have HO : Hid (bothL (rs.take j) r c = false ∧ Ext W wr) := ⟨hno, hE⟩
   clear hno hE
   by_cases hlt : j < rl
   · have hltI : (j : Int) < (rl : Int) := by omega
     obtain ⟨g, q, hp, hn, hq, hg, hc⟩ := (HR.out.ext HO.out.2).at (i := j) (by rw [HRL.out]; exact hlt)
     have HC : Hid (∀ V, Ext wr V → V.cell? ⟨g, j * 4, none⟩ = some (.int .i64 q.1) ∧ V.cell? ⟨g, j * 4 + 1, none⟩ = some (.int .i64 q.2.1) ∧ V.cell? ⟨g, j * 4 + 2, none⟩ = some (.int .i64 q.2.2.1) ∧ V.cell? ⟨g, j * 4 + 3, none⟩ = some (.int .i64 q.2.2.2)) := fun V e => ⟨(e.cell.1 _ _ hg).trans (hc 0 _ rfl), (e.cell.1 _ _ hg).trans (hc 1 _ rfl), (e.cell.1 _ _ hg).trans (hc 2 _ rfl), (e.cell.1 _ _ hg).trans (hc 3 _ rfl)⟩
     subst hp
     obtain ⟨a0, a1, a2, a3⟩ := HC.out wr (Ext.refl _)
     have cH := fun V => rhas6_any q.1 q.2.1 q.2.2.1 q.2.2.2 (r - 1) c V
     have cK := fun V => rhas6_any q.1 q.2.1 q.2.2.1 q.2.2.2 r c V
     have HT : Hid (bothL (rs.take (j + 1)) r c = (hasR q.1 q.2.1 q.2.2.1 q.2.2.2 (r - 1) c && hasR q.1 q.2.1 q.2.2.1 q.2.2.2 r c)) := bothL_take rs j q r c hq HO.out.1
     obtain ⟨x, hx⟩ : ∃ x, hasR q.1 q.2.1 q.2.2.1 q.2.2.2 (r - 1) c = x := ⟨_, rfl⟩
     obtain ⟨y, hy⟩ : ∃ y, hasR q.1 q.2.1 q.2.2.1 q.2.2.2 r c = y := ⟨_, rfl⟩
     rw [hx] at cH HT
     rw [hy] at cK HT
     clear hq hc hlt hn hx hy
     go_wp2_with fail
     refine (cH _).mono ?_
     rintro e w1 ⟨rfl, E1⟩
     have HE1 : Hid (Ext W w1) := HO.out.2.trans E1
     obtain ⟨b0, b1, b2, b3⟩ := HC.out w1 E1
     clear E1 cH a0 a1 a2 a3
     cases x
     · clear cK b0 b1 b2 b3
       go_wp2_with fail
       go_roundw
       case rel => exact ⟨j + 1, by omega, by go_num, HT.out, HE1.out⟩
       case measure => show rl - ((j : Int) + 1).toNat < rl - ((j : Int)).toNat; omega
     · go_wp2_with fail
       refine (cK _).mono ?_
       rintro e w2 ⟨rfl, E2⟩
       have HE2 : Hid (Ext W w2) := HE1.out.trans E2
       clear E2 cK b0 b1 b2 b3
       cases y
       · go_wp2_with fail
         go_roundw
         case rel => exact ⟨j + 1, by omega, by go_num, HT.out, HE2.out⟩
         case measure => show rl - ((j : Int) + 1).toNat < rl - ((j : Int)).toNat; omega
       · go_wp2_with fail
         go_ret
         exact ⟨ret_bool (by rw [← HX.out]; exact (any_take HT.out).symm), HE2.out⟩
   · have hltI : ¬ (j : Int) < (rl : Int) := by omega
     have HF : Hid (bothL rs r c = false) := by
       show _ = _
       have := HO.out.1
       rwa [List.take_of_length_le (by rw [HRL.out]; omega)] at this
     clear hlt
     go_wp2_with fail
     go_ret
     exact ⟨ret_bool (by rw [← HX.out, HF.out]), HO.out.2⟩

open Go.RowKit
set_option maxHeartbeats 2000000

theorem hr_mpg (n : Nat) : ∀ t : T, Hr n t → ∀ g : T → T, (∀ t, (g t).l = t.l ∨ (g t).l = []) → Hr n (mpT g n t) := by
 induction n with
 | zero => intro t h; cases h
 | succ n ih =>
   intro t h g hg
   rw [mpT]
   rcases hg (t.wL (t.l.map (if prB t.k then mpT g n else id))) with h1 | h1
   · refine ⟨?_, ?_⟩
     · rw [h1]; show (t.l.map _).length ≤ _; rw [List.length_map]; exact h.1
     · intro x hx
       rw [h1] at hx
       have hx2 : x ∈ t.l.map (if prB t.k then mpT g n else id) := hx
       obtain ⟨y, hy, rfl⟩ := List.mem_map.1 hx2
       cases prB t.k with
       | true => exact ih y (h.2 y hy) g hg
       | false => exact h.2 y hy
   · exact ⟨by rw [h1]; exact Nat.zero_le _, by rw [h1]; intro x hx; cases hx⟩
theorem sz_mpg (n : Nat) : ∀ t : T, ∀ g : T → T, (∀ t, (g t).l = t.l ∨ (g t).l = []) → szT n (mpT g n t) ≤ szT n t := by
 induction n with
 | zero => intro t g _; exact Nat.le_refl _
 | succ n ih =>
   intro t g hg
   rw [mpT, szT, szT]
   rcases hg (t.wL (t.l.map (if prB t.k then mpT g n else id))) with h1 | h1
   · rw [h1]
     show 1 + ((t.l.map (if prB t.k then mpT g n else id)).map (szT n)).sum ≤ _
     rw [List.map_map]
     have := sum_le_map (szT n ∘ (if prB t.k then mpT g n else id)) (szT n) t.l (fun x _ => by
       cases prB t.k with
       | true => exact ih x g hg
       | false => exact Nat.le_refl _)
     omega
   · rw [h1]; simp
end Go.Proofs.Ytcggiljlilbdfaa

/-
 Same says yes of two trees that are one.
 Package parse's Same and Deep, of any trees.
 Which trees are well made, as far as lives asks; lives.
 all, by whichever answer; towards Well of any tree.
-/
import Derived.Test.YtcggiljlilbdfaaR28
import Derived.Test.YtcggiljlilbdfaaR23
import Derived.Test.YtcggiljlilbdfaaR11
namespace Go.Proofs.Ytcggiljlilbdfaa
open Go.RowKit
set_option maxHeartbeats 6000000

open Go.RowKit
set_option maxHeartbeats 6000000

theorem allZ_refl (g : T → T → Bool) (l : List T) (h : ∀ x ∈ l, g x x = true) : allZ g l l = true := by
 induction l with
 | nil => rfl
 | cons a r ih => simp [allZ, h a (List.mem_cons_self ..), ih (fun x hx => h x (List.mem_cons_of_mem _ hx))]
theorem same_refl (n : Nat) (a : T) (h : Hr n a) : sameT n a a = true := by
 induction n generalizing a with
 | zero => cases h
 | succ n ih =>
   have := allZ_refl (sameT n) a.l (fun x hx => ih x (h.2 x hx))
   unfold sameT
   simp [this]

open Go.RowKit
set_option maxHeartbeats 6000000

theorem isIn_any (r0 r1 : Int) (r2 r3 : Bool) (w : World) : Calls Try.prog 77 #[.agg #[.int .i64 r0, .int .i64 r1, .bool r2, .bool r3]] w fun e w' => e = .returned (.bool (inB r0 r1)) ∧ Ext w w' := by
 have c1 := fun W => in_any r0 r1 W
 go_enter Try.func77, Try.ntmps77
 go_wp2_with fail
 refine (c1 _).mono ?_
 rintro e w1 ⟨rfl, rfl⟩
 go_wp2_with fail
 go_ret
 exact ⟨rfl, (Ext.refl _).alloc _⟩

open Go.RowKit
set_option maxHeartbeats 6000000

theorem allx_take {l : List T} {g : T → Bool} {j : Nat} {x : T} (h : l[j]? = some x) : (l.take (j + 1)).all g = ((l.take j).all g && g x) := by
 rw [List.take_add_one, h, List.all_append]; simp
set_option maxRecDepth 100000 in
theorem all_any (K : FuncId) (P : Nat → Prop) (g : T → Bool) (l : List T) (pp : Option Addr) (ln cl : Nat) (w : World) (hl : l.length ≤ 100000) (hent : ∀ args W, (callFunc K args).run Try.prog W = .ok (.enter K args) W) (hx : ∀ x ∈ l, ATr K P g x) (h : IsL w P (.slice pp ln cl) l) :
   Calls Try.prog 78 #[.slice pp ln cl, .func (.func K) #[] #[]] w fun e w' => e = .returned (.bool (l.all g)) ∧ Ext w w' := by
 have hln : ln = l.length := by
   obtain ⟨p, c, h1, _⟩ := h.form
   cases h1; rfl
 have HX : Hid (∀ x ∈ l, ATr K P g x) := hx
 have HI : Hid (IsL w P (.slice pp ln cl) l) := h
 have HLN : Hid (ln = l.length) := hln
 have hl2 : ln ≤ 100000 := by omega
 clear hx h hln hl
 go_enter Try.func78, Try.ntmps78
 go_wp2_with fail
 go_loopw [6, 9] (fun _ i wr => ∃ j : Nat, j ≤ ln ∧ i = .int .i64 (j : Int) ∧ (l.take j).all g = true ∧ Ext w wr) (fun _ i _ => ln - (intOf i).toNat)
 case atStart => exact ⟨0, Nat.zero_le _, rfl, rfl, Ext.refl _⟩
 case round =>
   obtain ⟨j, hj, rfl, hg, hE⟩ := hrel
   have HE : Hid (Ext w wr ∧ (l.take j).all g = true) := ⟨hE, hg⟩
   clear hE hg
   by_cases hlt : j < ln
   · have hltI : (j : Int) < (ln : Int) := by omega
     have hI := HI.out.ext HE.out.1
     obtain ⟨gb, off, x, lv, hpp, hx1, hA1, hgb, hA2, hLx, hce⟩ := hI.at (i := j) (by rw [← HLN.out]; exact hlt)
     clear hA1 hA2
     subst hpp
     obtain ⟨pp, cl', hlv, hcl⟩ := hLx.form
     obtain ⟨ln', hln'⟩ : ∃ ln', x.l.length = ln' := ⟨_, rfl⟩
     rw [hln'] at hlv
     subst hlv
     have HX1 : Hid (l[j]? = some x) := hx1
     have HC : Hid (Calls Try.prog K #[.agg #[.int .i64 x.k, .int .i64 x.n, .string (bs x.s), .int .i64 x.e, .int .i64 x.r.1, .int .i64 x.r.2.1, .bool x.r.2.2.1, .bool x.r.2.2.2, .int .i64 x.q.1, .int .i64 x.q.2.1, .bool x.q.2.2.1, .bool x.q.2.2.2, .slice pp ln' cl']] (wr.alloc (.cells #[.int .i64 x.k, .int .i64 x.n, .string (bs x.s), .int .i64 x.e, .int .i64 x.r.1, .int .i64 x.r.2.1, .bool x.r.2.2.1, .bool x.r.2.2.2, .int .i64 x.q.1, .int .i64 x.q.2.1, .bool x.q.2.2.1, .bool x.q.2.2.2, .slice pp ln' cl'] 26)) fun e w' => e = .returned (.bool (g x)) ∧ Ext (wr.alloc (.cells #[.int .i64 x.k, .int .i64 x.n, .string (bs x.s), .int .i64 x.e, .int .i64 x.r.1, .int .i64 x.r.2.1, .bool x.r.2.2.1, .bool x.r.2.2.2, .int .i64 x.q.1, .int .i64 x.q.2.1, .bool x.q.2.2.1, .bool x.q.2.2.2, .slice pp ln' cl'] 26)) w') := HX.out x (List.mem_of_getElem? hx1) _ pp ln' cl' (hLx.ext ((Ext.refl _).alloc _))
     have e0 : wr.cell? ⟨gb, off + j * 13, none⟩ = some (.int .i64 x.k) := hce 0 _ rfl
     have e1 : wr.cell? ⟨gb, off + j * 13 + 1, none⟩ = some (.int .i64 x.n) := hce 1 _ rfl
     have e2 : wr.cell? ⟨gb, off + j * 13 + 2, none⟩ = some (.string (bs x.s)) := hce 2 _ rfl
     have e3 : wr.cell? ⟨gb, off + j * 13 + 3, none⟩ = some (.int .i64 x.e) := hce 3 _ rfl
     have e4 : wr.cell? ⟨gb, off + j * 13 + 4, none⟩ = some (.int .i64 x.r.1) := hce 4 _ rfl
     have e5 : wr.cell? ⟨gb, off + j * 13 + 5, none⟩ = some (.int .i64 x.r.2.1) := hce 5 _ rfl
     have e6 : wr.cell? ⟨gb, off + j * 13 + 6, none⟩ = some (.bool x.r.2.2.1) := hce 6 _ rfl
     have e7 : wr.cell? ⟨gb, off + j * 13 + 7, none⟩ = some (.bool x.r.2.2.2) := hce 7 _ rfl
     have e8 : wr.cell? ⟨gb, off + j * 13 + 8, none⟩ = some (.int .i64 x.q.1) := hce 8 _ rfl
     have e9 : wr.cell? ⟨gb, off + j * 13 + 9, none⟩ = some (.int .i64 x.q.2.1) := hce 9 _ rfl
     have e10 : wr.cell? ⟨gb, off + j * 13 + 10, none⟩ = some (.bool x.q.2.2.1) := hce 10 _ rfl
     have e11 : wr.cell? ⟨gb, off + j * 13 + 11, none⟩ = some (.bool x.q.2.2.2) := hce 11 _ rfl
     have e12 : wr.cell? ⟨gb, off + j * 13 + 12, none⟩ = some (.slice pp ln' cl') := hce 12 _ rfl
     clear hI hx1 hLx hce hcl hln'
     go_wp2_with fail
     refine HC.out.mono ?_
     rintro e w1 ⟨rfl, E1⟩
     have HE1 : Hid (Ext w w1) := (HE.out.1.alloc _).trans E1
     clear E1 e0 e1 e2 e3 e4 e5 e6 e7 e8 e9 e10 e11 e12
     cases hgx : g x
     · have HR : Hid (l.all g = false) := by
         show _ = _
         rw [List.all_eq_false]
         exact ⟨x, List.mem_of_getElem? HX1.out, by rw [hgx]; simp⟩
       clear hgx
       go_wp2_with fail
       go_ret
       exact ⟨ret_bool HR.out.symm, HE1.out⟩
     · have HR : Hid ((l.take (j + 1)).all g = true) := by show _ = _; rw [allx_take HX1.out, HE.out.2, hgx]; rfl
       clear hgx
       go_wp2_with fail
       go_roundw
       case rel => exact ⟨j + 1, by omega, by go_num, HR.out, HE1.out⟩
       case measure => show ln - ((j : Int) + 1).toNat < ln - ((j : Int)).toNat; omega
   · have hltI : ¬ (j : Int) < (ln : Int) := by omega
     have HR : Hid (l.all g = true) := by
       show _ = _
       have := HE.out.2
       rw [List.take_of_length_le (by have := HLN.out; omega)] at this
       exact this
     go_wp2_with fail
     go_ret
     exact ⟨ret_bool HR.out.symm, HE.out.1⟩
/-! ### Well -/
set_option maxRecDepth 100000 in
theorem isArg_any (P : Nat → Prop) (n : Nat) (t : T) (hw : ATr 46 P (wellT n) t) : ATr 81 P (argT n) t := by
 intro W pp ln cl h
 by_cases k5 : t.k = 5
 · have e5 : (t.k == 5) = true := by rw [k5]; rfl
   have HX : Hid (argT n t = (inB t.r.1 t.r.2.1 && inB t.q.1 t.q.2.1)) := by show _ = _; unfold argT; rw [if_pos k5]
   have c1 := fun W => isIn_any t.r.1 t.r.2.1 t.r.2.2.1 t.r.2.2.2 W
   have c2 := fun W => isIn_any t.q.1 t.q.2.1 t.q.2.2.1 t.q.2.2.2 W
   clear k5 hw h
   cases h1 : inB t.r.1 t.r.2.1
   · rw [h1] at c1 HX
     clear h1
     go_enter Try.func81, Try.ntmps81
     go_wp2_with fail
     refine (c1 _).mono ?_
     rintro e w1 ⟨rfl, E1⟩
     have HE : Hid (Ext W w1) := ((Ext.refl _).alloc _).trans E1
     clear E1
     go_wp2_with fail
     go_ret
     exact ⟨ret_bool (by rw [HX.out]; rfl), HE.out⟩
   · rw [h1] at c1 HX
     clear h1
     go_enter Try.func81, Try.ntmps81
     go_wp2_with fail
     refine (c1 _).mono ?_
     rintro e w1 ⟨rfl, E1⟩
     have HE : Hid (Ext W w1) := ((Ext.refl _).alloc _).trans E1
     have hB := blk13_top rfl E1
     obtain ⟨q0, ⟨l0, l1, l2, l3, l4, l5, l6, l7, l8, l9, l10, l11, l12⟩, gg⟩ := hB
     clear E1 gg
     go_wp2_with fail
     refine (c2 _).mono ?_
     rintro e w2 ⟨rfl, E2⟩
     have HE2 : Hid (Ext W w2) := HE.out.trans E2
     clear E2
     go_wp2_with fail
     go_ret
     exact ⟨ret_bool (by rw [HX.out]; rfl), HE2.out⟩
 · have e5 : (t.k == 5) = false := by simpa using k5
   have HX : Hid (argT n t = wellT n t) := by show _ = _; unfold argT; rw [if_neg k5]
   have HW : Hid (∀ W', Ext W W' → Calls Try.prog 46 #[.agg #[.int .i64 t.k, .int .i64 t.n, .string (bs t.s), .int .i64 t.e, .int .i64 t.r.1, .int .i64 t.r.2.1, .bool t.r.2.2.1, .bool t.r.2.2.2, .int .i64 t.q.1, .int .i64 t.q.2.1, .bool t.q.2.2.1, .bool t.q.2.2.2, .slice pp ln cl]] W' fun e w' => e = .returned (.bool (wellT n t)) ∧ Ext W' w') := fun W' e => hw W' pp ln cl (h.ext e)
   clear k5 hw h
   go_enter Try.func81, Try.ntmps81
   go_wp2_with fail
   refine (HW.out _ ((Ext.refl _).alloc _)).mono ?_
   rintro e w1 ⟨rfl, E1⟩
   have HE : Hid (Ext W w1) := ((Ext.refl _).alloc _).trans E1
   clear E1
   go_wp2_with fail
   go_ret
   exact ⟨ret_bool HX.out.symm, HE.out⟩
end Go.Proofs.Ytcggiljlilbdfaa

/-
 all, by whichever answer; towards Well of any tree.
 Well of any tree.
 Package print's Formula, of any tree not too deep; Tidy.
 Small trees of numbers and signs: that they are what a tree is to be. Plain mathematics: no program in sight.
-/
import Derived.Test.YtcggiljlilbdfaaGreatDoorQ29
import Derived.Test.YtcggiljlilbdfaaGreatDoorQ11
import Derived.Test.YtcggiljlilbdfaaGreatDoorQ23
import Derived.Test.YtcggiljlilbdfaaGreatDoorQ12
namespace Go.Proofs.YtcggiljlilbdfaaGreatDoor
open Go.RowKit
set_option maxHeartbeats 6000000

theorem allx_take {l : List T} {g : T → Bool} {j : Nat} {x : T} (h : l[j]? = some x) : (l.take (j + 1)).all g = ((l.take j).all g && g x) := by
 rw [List.take_add_one, h, List.all_append]; simp
set_option maxRecDepth 100000 in
theorem all_any (K : FuncId) (P : Nat → Prop) (g : T → Bool) (l : List T) (pp : Option Addr) (ln cl : Nat) (w : World) (hl : l.length ≤ 100000) (hent : ∀ args W, (callFunc K args).run Tryz.prog W = .ok (.enter K args) W) (hx : ∀ x ∈ l, ATr K P g x) (h : IsL w P (.slice pp ln cl) l) :
   Calls Tryz.prog 30 #[.slice pp ln cl, .func (.func K) #[] #[]] w fun e w' => e = .returned (.bool (l.all g)) ∧ Ext w w' := by
 have hln : ln = l.length := by
   obtain ⟨p, c, h1, _⟩ := h.form
   cases h1; rfl
 have HX : Hid (∀ x ∈ l, ATr K P g x) := hx
 have HI : Hid (IsL w P (.slice pp ln cl) l) := h
 have HLN : Hid (ln = l.length) := hln
 have hl2 : ln ≤ 100000 := by omega
 clear hx h hln hl
 go_enter Tryz.func30, Tryz.ntmps30
 go_wp2_with fail
 go_loopw [6, 9] (fun _ i wr => ∃ j : Nat, j ≤ ln ∧ i = .int .i64 (j : Int) ∧ (l.take j).all g = true ∧ Ext w wr) (fun _ i _ => ln - (intOf i).toNat)
 case atStart => exact ⟨0, Nat.zero_le _, rfl, rfl, Ext.refl _⟩
 case round =>
   obtain ⟨j, hj, rfl, hg, hE⟩ := hrel
   have HE : Hid (Ext w wr ∧ (l.take j).all g = true) := ⟨hE, hg⟩
   clear hE hg
   by_cases hlt : j < ln
   · have hltI : (j : Int) < (ln : Int) := by omega
     have hI := HI.out.ext HE.out.1
     obtain ⟨gb, off, x, lv, hpp, hx1, hA1, hgb, hA2, hLx, hce⟩ := hI.at (i := j) (by rw [← HLN.out]; exact hlt)
     clear hA1 hA2
     subst hpp
     obtain ⟨pp, cl', hlv, hcl⟩ := hLx.form
     obtain ⟨ln', hln'⟩ : ∃ ln', x.l.length = ln' := ⟨_, rfl⟩
     rw [hln'] at hlv
     subst hlv
     have HX1 : Hid (l[j]? = some x) := hx1
     have HC : Hid (Calls Tryz.prog K #[.agg #[.int .i64 x.k, .int .i64 x.n, .string (bs x.s), .int .i64 x.e, .int .i64 x.r.1, .int .i64 x.r.2.1, .bool x.r.2.2.1, .bool x.r.2.2.2, .int .i64 x.q.1, .int .i64 x.q.2.1, .bool x.q.2.2.1, .bool x.q.2.2.2, .slice pp ln' cl']] (wr.alloc (.cells #[.int .i64 x.k, .int .i64 x.n, .string (bs x.s), .int .i64 x.e, .int .i64 x.r.1, .int .i64 x.r.2.1, .bool x.r.2.2.1, .bool x.r.2.2.2, .int .i64 x.q.1, .int .i64 x.q.2.1, .bool x.q.2.2.1, .bool x.q.2.2.2, .slice pp ln' cl'] 29)) fun e w' => e = .returned (.bool (g x)) ∧ Ext (wr.alloc (.cells #[.int .i64 x.k, .int .i64 x.n, .string (bs x.s), .int .i64 x.e, .int .i64 x.r.1, .int .i64 x.r.2.1, .bool x.r.2.2.1, .bool x.r.2.2.2, .int .i64 x.q.1, .int .i64 x.q.2.1, .bool x.q.2.2.1, .bool x.q.2.2.2, .slice pp ln' cl'] 29)) w') := HX.out x (List.mem_of_getElem? hx1) _ pp ln' cl' (hLx.ext ((Ext.refl _).alloc _))
     have e0 : wr.cell? ⟨gb, off + j * 13, none⟩ = some (.int .i64 x.k) := hce 0 _ rfl
     have e1 : wr.cell? ⟨gb, off + j * 13 + 1, none⟩ = some (.int .i64 x.n) := hce 1 _ rfl
     have e2 : wr.cell? ⟨gb, off + j * 13 + 2, none⟩ = some (.string (bs x.s)) := hce 2 _ rfl
     have e3 : wr.cell? ⟨gb, off + j * 13 + 3, none⟩ = some (.int .i64 x.e) := hce 3 _ rfl
     have e4 : wr.cell? ⟨gb, off + j * 13 + 4, none⟩ = some (.int .i64 x.r.1) := hce 4 _ rfl
     have e5 : wr.cell? ⟨gb, off + j * 13 + 5, none⟩ = some (.int .i64 x.r.2.1) := hce 5 _ rfl
     have e6 : wr.cell? ⟨gb, off + j * 13 + 6, none⟩ = some (.bool x.r.2.2.1) := hce 6 _ rfl
     have e7 : wr.cell? ⟨gb, off + j * 13 + 7, none⟩ = some (.bool x.r.2.2.2) := hce 7 _ rfl
     have e8 : wr.cell? ⟨gb, off + j * 13 + 8, none⟩ = some (.int .i64 x.q.1) := hce 8 _ rfl
     have e9 : wr.cell? ⟨gb, off + j * 13 + 9, none⟩ = some (.int .i64 x.q.2.1) := hce 9 _ rfl
     have e10 : wr.cell? ⟨gb, off + j * 13 + 10, none⟩ = some (.bool x.q.2.2.1) := hce 10 _ rfl
     have e11 : wr.cell? ⟨gb, off + j * 13 + 11, none⟩ = some (.bool x.q.2.2.2) := hce 11 _ rfl
     have e12 : wr.cell? ⟨gb, off + j * 13 + 12, none⟩ = some (.slice pp ln' cl') := hce 12 _ rfl
     clear hI hx1 hLx hce hcl hln'
     go_wp2_with fail
     refine HC.out.mono ?_
     rintro e w1 ⟨rfl, E1⟩
     have HE1 : Hid (Ext w w1) := (HE.out.1.alloc _).trans E1
     clear E1 e0 e1 e2 e3 e4 e5 e6 e7 e8 e9 e10 e11 e12
     cases hgx : g x
     · have HR : Hid (l.all g = false) := by
         show _ = _
         rw [List.all_eq_false]
         exact ⟨x, List.mem_of_getElem? HX1.out, by rw [hgx]; simp⟩
       clear hgx
       go_wp2_with fail
       go_ret
       exact ⟨ret_bool HR.out.symm, HE1.out⟩
     · have HR : Hid ((l.take (j + 1)).all g = true) := by show _ = _; rw [allx_take HX1.out, HE.out.2, hgx]; rfl
       clear hgx
       go_wp2_with fail
       go_roundw
       case rel => exact ⟨j + 1, by omega, by go_num, HR.out, HE1.out⟩
       case measure => show ln - ((j : Int) + 1).toNat < ln - ((j : Int)).toNat; omega
   · have hltI : ¬ (j : Int) < (ln : Int) := by omega
     have HR : Hid (l.all g = true) := by
       show _ = _
       have := HE.out.2
       rw [List.take_of_length_le (by have := HLN.out; omega)] at this
       exact this
     go_wp2_with fail
     go_ret
     exact ⟨ret_bool HR.out.symm, HE.out.1⟩
/-! ### Well -/
set_option maxRecDepth 100000 in
theorem isArg_any (P : Nat → Prop) (n : Nat) (t : T) (hw : ATr 17 P (wellT n) t) : ATr 33 P (argT n) t := by
 intro W pp ln cl h
 by_cases k5 : t.k = 5
 · have e5 : (t.k == 5) = true := by rw [k5]; rfl
   have HX : Hid (argT n t = (inB t.r.1 t.r.2.1 && inB t.q.1 t.q.2.1)) := by show _ = _; unfold argT; rw [if_pos k5]
   have c1 := fun W => isIn_any t.r.1 t.r.2.1 t.r.2.2.1 t.r.2.2.2 W
   have c2 := fun W => isIn_any t.q.1 t.q.2.1 t.q.2.2.1 t.q.2.2.2 W
   clear k5 hw h
   cases h1 : inB t.r.1 t.r.2.1
   · rw [h1] at c1 HX
     clear h1
     go_enter Tryz.func33, Tryz.ntmps33
     go_wp2_with fail
     refine (c1 _).mono ?_
     rintro e w1 ⟨rfl, E1⟩
     have HE : Hid (Ext W w1) := ((Ext.refl _).alloc _).trans E1
     clear E1
     go_wp2_with fail
     go_ret
     exact ⟨ret_bool (by rw [HX.out]; rfl), HE.out⟩
   · rw [h1] at c1 HX
     clear h1
     go_enter Tryz.func33, Tryz.ntmps33
     go_wp2_with fail
     refine (c1 _).mono ?_
     rintro e w1 ⟨rfl, E1⟩
     have HE : Hid (Ext W w1) := ((Ext.refl _).alloc _).trans E1
     have hB := blk13_top rfl E1
     obtain ⟨q0, ⟨l0, l1, l2, l3, l4, l5, l6, l7, l8, l9, l10, l11, l12⟩, gg⟩ := hB
     clear E1 gg
     go_wp2_with fail
     refine (c2 _).mono ?_
     rintro e w2 ⟨rfl, E2⟩
     have HE2 : Hid (Ext W w2) := HE.out.trans E2
     clear E2
     go_wp2_with fail
     go_ret
     exact ⟨ret_bool (by rw [HX.out]; rfl), HE2.out⟩
 · have e5 : (t.k == 5) = false := by simpa using k5
   have HX : Hid (argT n t = wellT n t) := by show _ = _; unfold argT; rw [if_neg k5]
   have HW : Hid (∀ W', Ext W W' → Calls Tryz.prog 17 #[.agg #[.int .i64 t.k, .int .i64 t.n, .string (bs t.s), .int .i64 t.e, .int .i64 t.r.1, .int .i64 t.r.2.1, .bool t.r.2.2.1, .bool t.r.2.2.2, .int .i64 t.q.1, .int .i64 t.q.2.1, .bool t.q.2.2.1, .bool t.q.2.2.2, .slice pp ln cl]] W' fun e w' => e = .returned (.bool (wellT n t)) ∧ Ext W' w') := fun W' e => hw W' pp ln cl (h.ext e)
   clear k5 hw h
   go_enter Tryz.func33, Tryz.ntmps33
   go_wp2_with fail
   refine (HW.out _ ((Ext.refl _).alloc _)).mono ?_
   rintro e w1 ⟨rfl, E1⟩
   have HE : Hid (Ext W w1) := ((Ext.refl _).alloc _).trans E1
   clear E1
   go_wp2_with fail
   go_ret
   exact ⟨ret_bool HX.out.symm, HE.out⟩

open Go.RowKit
set_option maxHeartbeats 6000000

set_option maxRecDepth 100000 in
theorem well_leaf (P : Nat → Prop) (n : Nat) (t : T) (hk6 : t.k ≠ 6) (hk7 : t.k ≠ 7) (hk8 : t.k ≠ 8) : ATr 17 P (wellT (n + 1)) t := by
 intro W pp ln cl _
 by_cases hk : t.k = 0
 · have e0 : (t.k == 0) = true := by rw [hk]; rfl
   have HX : Hid (wellT (n + 1) t = decide (0 ≤ t.n)) := by show _ = _; unfold wellT; simp [hk]
   clear hk hk6 hk7 hk8
   go_enter Tryz.func17, Tryz.ntmps17
   go_wp2_with fail
   go_ret
   exact ⟨ret_bool HX.out.symm, (Ext.refl _).alloc _⟩
 have k0 := hk
 clear hk
 by_cases hk : t.k = 1
 · have e0 : (t.k == 0) = false := by rw [hk]; rfl
   have e1 : (t.k == 1) = true := by rw [hk]; rfl
   have HX : Hid (wellT (n + 1) t = decide (t.s.length ≤ 300)) := by show _ = _; unfold wellT; simp [hk]
   have HB : Hid ((bs t.s).size = t.s.length) := bs_size _
   generalize bs t.s = q at *
   clear hk hk6 hk7 hk8 k0
   go_enter Tryz.func17, Tryz.ntmps17
   go_wp2_with fail
   go_ret
   refine ⟨ret_bool ?_, (Ext.refl _).alloc _⟩
   rw [HX.out, ← HB.out]
   simp
   omega
 have k1 := hk
 clear hk
 by_cases hk : t.k = 2
 · have e0 : (t.k == 0) = false := by rw [hk]; rfl
   have e1 : (t.k == 1) = false := by rw [hk]; rfl
   have e2 : (t.k == 2) = true := by rw [hk]; rfl
   have HX : Hid (wellT (n + 1) t = (t.n == 0 || t.n == 1)) := by show _ = _; unfold wellT; simp [hk]
   clear hk hk6 hk7 hk8 k0 k1
   cases hn : (t.n == 0)
   · rw [hn] at HX
     go_enter Tryz.func17, Tryz.ntmps17
     go_wp2_with fail
     go_ret
     exact ⟨ret_bool HX.out.symm, (Ext.refl _).alloc _⟩
   · rw [hn] at HX
     go_enter Tryz.func17, Tryz.ntmps17
     go_wp2_with fail
     go_ret
     exact ⟨ret_bool HX.out.symm, (Ext.refl _).alloc _⟩
 have k2 := hk
 clear hk
 by_cases hk : t.k = 3
 · have e0 : (t.k == 0) = false := by rw [hk]; rfl
   have e1 : (t.k == 1) = false := by rw [hk]; rfl
   have e2 : (t.k == 2) = false := by rw [hk]; rfl
   have e3 : (t.k == 3) = true := by rw [hk]; rfl
   have HX : Hid (wellT (n + 1) t = (decide (1 ≤ t.e) && decide (t.e ≤ 5))) := by show _ = _; unfold wellT; simp [hk]
   clear hk hk6 hk7 hk8 k0 k1 k2
   by_cases h1 : 1 ≤ t.e
   · have d1 : decide (1 ≤ t.e) = true := by simpa using h1
     rw [d1] at HX
     go_enter Tryz.func17, Tryz.ntmps17
     go_wp2_with fail
     go_ret
     exact ⟨ret_bool HX.out.symm, (Ext.refl _).alloc _⟩
   · have d1 : decide (1 ≤ t.e) = false := by simpa using h1
     rw [d1] at HX
     go_enter Tryz.func17, Tryz.ntmps17
     go_wp2_with fail
     go_ret
     exact ⟨ret_bool HX.out.symm, (Ext.refl _).alloc _⟩
 have k3 := hk
 clear hk
 by_cases hk : t.k = 4
 · have e0 : (t.k == 0) = false := by rw [hk]; rfl
   have e1 : (t.k == 1) = false := by rw [hk]; rfl
   have e2 : (t.k == 2) = false := by rw [hk]; rfl
   have e3 : (t.k == 3) = false := by rw [hk]; rfl
   have e4 : (t.k == 4) = true := by rw [hk]; rfl
   have HX : Hid (wellT (n + 1) t = inB t.r.1 t.r.2.1) := by show _ = _; unfold wellT; simp [hk]
   have c1 := fun W => isIn_any t.r.1 t.r.2.1 t.r.2.2.1 t.r.2.2.2 W
   clear hk hk6 hk7 hk8 k0 k1 k2 k3
   go_enter Tryz.func17, Tryz.ntmps17
   go_wp2_with fail
   refine (c1 _).mono ?_
   rintro e w1 ⟨rfl, E1⟩
   have HE : Hid (Ext W w1) := ((Ext.refl _).alloc _).trans E1
   clear E1
   go_wp2_with fail
   go_ret
   exact ⟨ret_bool HX.out.symm, HE.out⟩
 have k4 := hk
 clear hk
 have HX : Hid (wellT (n + 1) t = false) := by show _ = _; unfold wellT; simp [k0, k1, k2, k3, k4, hk6, hk7, hk8]
 have e0 : (t.k == 0) = false := by simpa using k0
 have e1 : (t.k == 1) = false := by simpa using k1
 have e2 : (t.k == 2) = false := by simpa using k2
 have e3 : (t.k == 3) = false := by simpa using k3
 have e4 : (t.k == 4) = false := by simpa using k4
 have e6 : (t.k == 6) = false := by simpa using hk6
 have e7 : (t.k == 7) = false := by simpa using hk7
 have e8 : (t.k == 8) = false := by simpa using hk8
 clear hk6 hk7 hk8 k0 k1 k2 k3 k4
 go_enter Tryz.func17, Tryz.ntmps17
 go_wp2_with fail
 go_ret
 exact ⟨ret_bool HX.out.symm, (Ext.refl _).alloc _⟩
set_option maxRecDepth 100000 in
theorem well_neg (P : Nat → Prop) (n : Nat) (t : T) (hk : t.k = 6) (hl : t.l.length ≤ 100000) (hx : ∀ x ∈ t.l, ATr 17 P (wellT n) x) : ATr 17 P (wellT (n + 1)) t := by
 intro W pp ln cl h
 have hln : t.l.length = ln := by
   obtain ⟨p, c, h1, _⟩ := h.form
   cases h1; rfl
 have e0 : (t.k == 0) = false := by rw [hk]; rfl
 have e1 : (t.k == 1) = false := by rw [hk]; rfl
 have e2 : (t.k == 2) = false := by rw [hk]; rfl
 have e3 : (t.k == 3) = false := by rw [hk]; rfl
 have e4 : (t.k == 4) = false := by rw [hk]; rfl
 have e6 : (t.k == 6) = true := by rw [hk]; rfl
 have HX : Hid (wellT (n + 1) t = (ln == 1 && t.l.all (wellT n))) := by show _ = _; unfold wellT; simp [hk, hln]
 have HC : Hid (∀ W', Ext W W' → Calls Tryz.prog 30 #[.slice pp ln cl, .func (.func 17) #[] #[]] W' fun e w' => e = .returned (.bool (t.l.all (wellT n))) ∧ Ext W' w') := fun W' e => all_any 17 P (wellT n) t.l pp ln cl W' hl (enters_of Tryz.func17 (by kernel_rfl) rfl) hx (h.ext e)
 clear hk hl hx h hln
 by_cases h1 : ln = 1
 · have d1 : ((ln : Int) == 1) = true := by rw [h1]; rfl
   have HY : Hid ((ln == 1) = true) := by show _ = _; rw [h1]; rfl
   clear h1
   go_enter Tryz.func17, Tryz.ntmps17
   go_wp2_with fail
   refine (HC.out _ ((Ext.refl _).alloc _)).mono ?_
   rintro e w1 ⟨rfl, E1⟩
   have HE : Hid (Ext W w1) := ((Ext.refl _).alloc _).trans E1
   clear E1
   go_wp2_with fail
   go_ret
   exact ⟨ret_bool (by rw [HX.out, HY.out]; rfl), HE.out⟩
 · have d1 : ((ln : Int) == 1) = false := by simp; omega
   have HY : Hid ((ln == 1) = false) := by show _ = _; simpa using h1
   clear h1
   go_enter Tryz.func17, Tryz.ntmps17
   go_wp2_with fail
   go_ret
   exact ⟨ret_bool (by rw [HX.out, HY.out]; rfl), (Ext.refl _).alloc _⟩
set_option maxRecDepth 100000 in
theorem well_bin (P : Nat → Prop) (n : Nat) (t : T) (hk : t.k = 7) (hl : t.l.length ≤ 100000) (hx : ∀ x ∈ t.l, ATr 17 P (wellT n) x) : ATr 17 P (wellT (n + 1)) t := by
 intro W pp ln cl h
 have hln : t.l.length = ln := by
   obtain ⟨p, c, h1, _⟩ := h.form
   cases h1; rfl
 have e0 : (t.k == 0) = false := by rw [hk]; rfl
 have e1 : (t.k == 1) = false := by rw [hk]; rfl
 have e2 : (t.k == 2) = false := by rw [hk]; rfl
 have e3 : (t.k == 3) = false := by rw [hk]; rfl
 have e4 : (t.k == 4) = false := by rw [hk]; rfl
 have e6 : (t.k == 6) = false := by rw [hk]; rfl
 have e7 : (t.k == 7) = true := by rw [hk]; rfl
 have HX : Hid (wellT (n + 1) t = (bnd t.s != 0 && ln == 2 && t.l.all (wellT n))) := by show _ = _; unfold wellT; simp [hk, hln]
 have HC : Hid (∀ W', Ext W W' → Calls Tryz.prog 30 #[.slice pp ln cl, .func (.func 17) #[] #[]] W' fun e w' => e = .returned (.bool (t.l.all (wellT n))) ∧ Ext W' w') := fun W' e => all_any 17 P (wellT n) t.l pp ln cl W' hl (enters_of Tryz.func17 (by kernel_rfl) rfl) hx (h.ext e)
 have cB := fun W => binds_any (bs t.s) W
 have es : (bs t.s).data.toList = t.s := rfl
 rw [es] at cB
 obtain ⟨bb, hbb⟩ : ∃ bb, bnd t.s = bb := ⟨_, rfl⟩
 rw [hbb] at cB HX
 generalize bs t.s = q at *
 clear hk hl hx h hln es hbb
 by_cases h0 : bb = 0
 · have b1 : ((bb : Int) != 0) = false := by rw [h0]; rfl
   have HY : Hid ((bb != 0) = false) := by show _ = _; rw [h0]; rfl
   clear h0
   go_enter Tryz.func17, Tryz.ntmps17
   go_wp2_with fail
   refine (cB _).mono ?_
   rintro e w1 ⟨rfl, rfl⟩
   go_wp2_with fail
   go_ret
   exact ⟨ret_bool (by rw [HX.out, HY.out]; rfl), (Ext.refl _).alloc _⟩
 have b1 : ((bb : Int) != 0) = true := by simp; omega
 have HY0 : Hid ((bb != 0) = true) := by show _ = _; simpa using h0
 clear h0
 by_cases h1 : ln = 2
 · have d1 : ((ln : Int) == 2) = true := by rw [h1]; rfl
   have HY : Hid ((ln == 2) = true) := by show _ = _; rw [h1]; rfl
   clear h1
   go_enter Tryz.func17, Tryz.ntmps17
   go_wp2_with fail
   refine (cB _).mono ?_
   rintro e w1 ⟨rfl, rfl⟩
   go_wp2_with fail
   refine (HC.out _ ((Ext.refl _).alloc _)).mono ?_
   rintro e w1 ⟨rfl, E1⟩
   have HE : Hid (Ext W w1) := ((Ext.refl _).alloc _).trans E1
   clear E1
   go_wp2_with fail
   go_ret
   exact ⟨ret_bool (by rw [HX.out, HY.out, HY0.out]; rfl), HE.out⟩
 · have d1 : ((ln : Int) == 2) = false := by simp; omega
   have HY : Hid ((ln == 2) = false) := by show _ = _; simpa using h1
   clear h1
   go_enter Tryz.func17, Tryz.ntmps17
   go_wp2_with fail
   refine (cB _).mono ?_
   rintro e w1 ⟨rfl, rfl⟩
   go_wp2_with fail
   go_ret
   exact ⟨ret_bool (by rw [HX.out, HY.out, HY0.out]; rfl), (Ext.refl _).alloc _⟩
set_option maxRecDepth 100000 in
theorem well_call (P : Nat → Prop) (n : Nat) (t : T) (hk : t.k = 8) (hl : t.l.length ≤ 100000) (hx : ∀ x ∈ t.l, ATr 33 P (argT n) x) : ATr 17 P (wellT (n + 1)) t := by
 intro W pp ln cl h
 have hln : t.l.length = ln := by
   obtain ⟨p, c, h1, _⟩ := h.form
   cases h1; rfl
 have e0 : (t.k == 0) = false := by rw [hk]; rfl
 have e1 : (t.k == 1) = false := by rw [hk]; rfl
 have e2 : (t.k == 2) = false := by rw [hk]; rfl
 have e3 : (t.k == 3) = false := by rw [hk]; rfl
 have e4 : (t.k == 4) = false := by rw [hk]; rfl
 have e6 : (t.k == 6) = false := by rw [hk]; rfl
 have e7 : (t.k == 7) = false := by rw [hk]; rfl
 have e8 : (t.k == 8) = true := by rw [hk]; rfl
 have HX : Hid (wellT (n + 1) t = ((kno t.s).isSome && decide (knA t.s ≤ ln) && decide ((ln : Int) ≤ knB t.s) && t.l.all (argT n))) := by show _ = _; unfold wellT; simp only [hk, hln]; rfl
 have HC : Hid (∀ W', Ext W W' → Calls Tryz.prog 30 #[.slice pp ln cl, .func (.func 33) #[] #[]] W' fun e w' => e = .returned (.bool (t.l.all (argT n))) ∧ Ext W' w') := fun W' e => all_any 33 P (argT n) t.l pp ln cl W' hl (enters_of Tryz.func33 (by kernel_rfl) rfl) hx (h.ext e)
 have cK := fun W => known_any (bs t.s) W
 have es : (bs t.s).data.toList = t.s := rfl
 rw [es] at cK
 obtain ⟨ka, hka⟩ : ∃ ka, knA t.s = ka := ⟨_, rfl⟩
 obtain ⟨kb, hkb⟩ : ∃ kb, knB t.s = kb := ⟨_, rfl⟩
 rw [hka, hkb] at cK HX
 generalize bs t.s = q at *
 clear hk hl hx h hln es hka hkb
 cases hs : (kno t.s).isSome
 · rw [hs] at cK HX
   clear hs
   go_enter Tryz.func17, Tryz.ntmps17
   go_wp2_with fail
   refine (cK _).mono ?_
   rintro e w1 ⟨rfl, rfl⟩
   go_wp2_with fail
   go_ret
   exact ⟨ret_bool (by rw [HX.out]; rfl), (Ext.refl _).alloc _⟩
 rw [hs] at cK HX
 clear hs
 by_cases h1 : ka ≤ (ln : Int)
 · have d1 : decide (ka ≤ (ln : Int)) = true := by simpa using h1
   rw [d1] at HX
   by_cases h2 : (ln : Int) ≤ kb
   · have d2 : decide ((ln : Int) ≤ kb) = true := by simpa using h2
     rw [d2] at HX
     go_enter Tryz.func17, Tryz.ntmps17
     go_wp2_with fail
     refine (cK _).mono ?_
     rintro e w1 ⟨rfl, rfl⟩
     go_wp2_with fail
     refine (HC.out _ ((Ext.refl _).alloc _)).mono ?_
     rintro e w1 ⟨rfl, E1⟩
     have HE : Hid (Ext W w1) := ((Ext.refl _).alloc _).trans E1
     clear E1
     go_wp2_with fail
     go_ret
     exact ⟨ret_bool (by rw [HX.out]; rfl), HE.out⟩
   · have d2 : decide ((ln : Int) ≤ kb) = false := by simpa using h2
     rw [d2] at HX
     go_enter Tryz.func17, Tryz.ntmps17
     go_wp2_with fail
     refine (cK _).mono ?_
     rintro e w1 ⟨rfl, rfl⟩
     go_wp2_with fail
     go_ret
     exact ⟨ret_bool (by rw [HX.out]; rfl), (Ext.refl _).alloc _⟩
 · have d1 : decide (ka ≤ (ln : Int)) = false := by simpa using h1
   rw [d1] at HX
   go_enter Tryz.func17, Tryz.ntmps17
   go_wp2_with fail
   refine (cK _).mono ?_
   rintro e w1 ⟨rfl, rfl⟩
   go_wp2_with fail
   go_ret
   exact ⟨ret_bool (by rw [HX.out]; rfl), (Ext.refl _).alloc _⟩
/-- Well of any tree that is not deeper than n. -/
theorem well_any (P : Nat → Prop) (n : Nat) : ∀ t, Hr n t → ATr 17 P (wellT n) t := by
 induction n with
 | zero => intro t h; exact h.elim
 | succ n ih =>
   intro t h
   by_cases h6 : t.k = 6
   · exact well_neg P n t h6 h.1 (fun x hx => ih x (h.2 x hx))
   by_cases h7 : t.k = 7
   · exact well_bin P n t h7 h.1 (fun x hx => ih x (h.2 x hx))
   by_cases h8 : t.k = 8
   · exact well_call P n t h8 h.1 (fun x hx => isArg_any P n x (ih x (h.2 x hx)))
   exact well_leaf P n t h6 h7 h8

open Go.RowKit
set_option maxHeartbeats 6000000

set_option maxRecDepth 100000 in
theorem pform_any (n : Nat) (t : T) (hH : Hr n t) (hW : Wf t) (hz : szT n t ≤ 100000) (P : Nat → Prop) (pp : Option Addr) (ln cl : Nat) (w : World) (hT : Tab9 w) (hL : IsL w P (.slice pp ln cl) t.l) :
   Calls Tryz.prog 9 #[.agg #[.int .i64 t.k, .int .i64 t.n, .string (bs t.s), .int .i64 t.e, .int .i64 t.r.1, .int .i64 t.r.2.1, .bool t.r.2.2.1, .bool t.r.2.2.2, .int .i64 t.q.1, .int .i64 t.q.2.1, .bool t.q.2.2.1, .bool t.q.2.2.2, .slice pp ln cl]] w fun e w' => e = .returned (.tuple #[.string (bs (if wellT n t then shT n t else [])), .int .i64 (if wellT n t then 0 else 1)]) ∧ Ext w w' := by
 have HT : Hid (Tab9 w) := hT
 have HI : Hid (IsL w P (.slice pp ln cl) t.l) := hL
 have HZ : Hid (701 * szT n t ≤ 90000000) := by show _ ≤ _; omega
 have c1 := fun W h => well_any P n t hH W pp ln cl h
 cases hw : wellT n t
 · rw [hw] at c1
   clear hw hT hL hz hH hW
   go_enter Tryz.func9, Tryz.ntmps9
   go_wp2_with fail
   refine (c1 _ (HI.out.ext ((Ext.refl _).alloc _))).mono ?_
   rintro e w1 ⟨rfl, E1⟩
   have HE : Hid (Ext w w1) := ((Ext.refl _).alloc _).trans E1
   clear E1
   go_wp2_with fail
   go_ret2
   exact ⟨rfl, HE.out⟩
 · have HP : Hid (PTr n t) := tree_any n t hH hW (.inl hw)
   have HS0 : Hid (shT n t ≠ []) := sh_ne n t hw
   rw [hw] at c1
   clear hw hT hL hz hH hW
   go_enter Tryz.func9, Tryz.ntmps9
   go_wp2_with fail
   refine (c1 _ (HI.out.ext ((Ext.refl _).alloc _))).mono ?_
   rintro e w1 ⟨rfl, E1⟩
   have HE : Hid (Ext w w1) := ((Ext.refl _).alloc _).trans E1
   obtain ⟨qz, ⟨k0, k1, k2, k3, k4, k5, k6, k7, k8, k9, k10, k11, k12⟩, gz⟩ := blk13_top (b := w.heap.size) rfl E1
   have HL1 : Hid (IsL w1 (fun _ => True) (.slice pp ln cl) t.l) := (HI.out.ext HE.out).mono (fun _ _ _ => trivial)
   have HB : Hid (Bu w1 w1.heap.size [] (w1.alloc (.cells #[.pointer none, .slice none 0 0] 59))) := ⟨(Ext.refl _).alloc _, Lib.fresh_isBuilder 59 5 w1⟩
   clear E1 gz c1
   go_wp2_with fail
   refine (HP.out w1 _ w1.heap.size [] pp ln cl (HT.out.ext HE.out) HB.out HL1.out (by have := HZ.out; simp; omega)).mono ?_
   rintro e w2 ⟨rfl, B2, K2⟩
   have HB2 : Hid (Bu w1 w1.heap.size (shT n t) w2) := by show Bu _ _ _ _; simpa using B2
   clear B2 K2 k0 k1 k2 k3 k4 k5 k6 k7 k8 k9 k10 k11 k12
   go_wp2_with fail
   refine (pstring_any w1 w1.heap.size _ _ HB2.out HS0.out).mono ?_
   rintro e w3 ⟨rfl, E3⟩
   have HE3 : Hid (Ext w w3) := HE.out.trans E3
   clear E3
   go_wp2_with fail
   go_ret2
   exact ⟨rfl, HE3.out⟩

open Go.RowKit
set_option maxHeartbeats 2000000

theorem i64_s (a : Int) (h : -1000000 ≤ a ∧ a ≤ 1000000) : I64 a := ⟨by omega, by omega⟩
theorem wf0 (t : T) (h : t.l = []) (h1 : I64 t.k) (h2 : I64 t.n) (h3 : t.s.length ≤ maxLen) (h4 : I64 t.e) (h5 : I64 t.r.1) (h6 : I64 t.r.2.1) (h7 : I64 t.q.1) (h8 : I64 t.q.2.1) : Wf t := .mk t h1 h2 h3 h4 h5 h6 h7 h8 (by rw [h]; intro x hx; cases hx)
theorem wf_num (n : Int) (h : I64 n) : Wf (tNum n) := wf0 _ rfl (i64_s 0 (by decide)) h (Nat.zero_le _) (i64_s 0 (by decide)) (i64_s 0 (by decide)) (i64_s 0 (by decide)) (i64_s 0 (by decide)) (i64_s 0 (by decide))
theorem wf_bin (s : List UInt8) (x y : T) (hs : s.length ≤ maxLen) (hx : Wf x) (hy : Wf y) : Wf (tBin s x y) := .mk _ (i64_s 7 (by decide)) (i64_s 0 (by decide)) hs (i64_s 0 (by decide)) (i64_s 0 (by decide)) (i64_s 0 (by decide)) (i64_s 0 (by decide)) (i64_s 0 (by decide)) (by
 intro z hz
 rcases List.mem_cons.1 hz with rfl | hz
 · exact hx
 · rcases List.mem_cons.1 hz with rfl | hz
   · exact hy
   · cases hz)
theorem wf_ref (r : Rf) (h1 : I64 r.1) (h2 : I64 r.2.1) : Wf (tRef r) := wf0 _ rfl (i64_s 4 (by decide)) (i64_s 0 (by decide)) (Nat.zero_le _) (i64_s 0 (by decide)) h1 h2 (i64_s 0 (by decide)) (i64_s 0 (by decide))
theorem hr_leaf (n : Nat) (t : T) (h : t.l = []) : Hr (n + 1) t := ⟨by rw [h]; decide, by rw [h]; intro x hx; cases hx⟩
theorem hr_bin (n : Nat) (s : List UInt8) (x y : T) (hx : Hr n x) (hy : Hr n y) : Hr (n + 1) (tBin s x y) := ⟨by show 2 ≤ 100000; decide, by
 intro z hz
 rcases List.mem_cons.1 hz with rfl | hz
 · exact hx
 · rcases List.mem_cons.1 hz with rfl | hz
   · exact hy
   · cases hz⟩
end Go.Proofs.YtcggiljlilbdfaaGreatDoor

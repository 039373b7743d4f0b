/-
 all, by whichever answer; towards Well of any tree.
 Well of any tree.
 Package move: a tree when rows come and go; Insert, Delete.
-/
import Derived.Test.YtcggiljlilbdfaaU28
import Derived.Test.YtcggiljlilbdfaaU11
import Derived.Test.YtcggiljlilbdfaaU23
namespace Go.Proofs.Ytcggiljlilbdfaa
open Go.RowKit
set_option maxHeartbeats 6000000

theorem allx_take {l : List T} {g : T → Bool} {j : Nat} {x : T} (h : l[j]? = some x) : (l.take (j + 1)).all g = ((l.take j).all g && g x) := by
 rw [List.take_add_one, h, List.all_append]; simp
set_option maxRecDepth 100000 in
theorem all_any (K : FuncId) (P : Nat → Prop) (g : T → Bool) (l : List T) (pp : Option Addr) (ln cl : Nat) (w : World) (hl : l.length ≤ 100000) (hent : ∀ args W, (callFunc K args).run Try.prog W = .ok (.enter K args) W) (hx : ∀ x ∈ l, ATr K P g x) (h : IsL w P (.slice pp ln cl) l) :
   Calls Try.prog 78 #[.slice pp ln cl, .func (.func K) #[] #[]] w fun e w' => e = .returned (.bool (l.all g)) ∧ Ext w w' := by
 have hln : ln = l.length := by
   obtain ⟨p, c, h1, _⟩ := h.form
   cases h1; rfl
 have HX : Hid (∀ x ∈ l, ATr K P g x) := hx
 have HI : Hid (IsL w P (.slice pp ln cl) l) := h
 have HLN : Hid (ln = l.length) := hln
 have hl2 : ln ≤ 100000 := by omega
 clear hx h hln hl
 go_enter Try.func78, Try.ntmps78
 go_wp2_with fail
 go_loopw [6, 9] (fun _ i wr => ∃ j : Nat, j ≤ ln ∧ i = .int .i64 (j : Int) ∧ (l.take j).all g = true ∧ Ext w wr) (fun _ i _ => ln - (intOf i).toNat)
 case atStart => exact ⟨0, Nat.zero_le _, rfl, rfl, Ext.refl _⟩
 case round =>
   obtain ⟨j, hj, rfl, hg, hE⟩ := hrel
   have HE : Hid (Ext w wr ∧ (l.take j).all g = true) := ⟨hE, hg⟩
   clear hE hg
   by_cases hlt : j < ln
   · have hltI : (j : Int) < (ln : Int) := by omega
     have hI := HI.out.ext HE.out.1
     obtain ⟨gb, off, x, lv, hpp, hx1, hA1, hgb, hA2, hLx, hce⟩ := hI.at (i := j) (by rw [← HLN.out]; exact hlt)
     clear hA1 hA2
     subst hpp
     obtain ⟨pp, cl', hlv, hcl⟩ := hLx.form
     obtain ⟨ln', hln'⟩ : ∃ ln', x.l.length = ln' := ⟨_, rfl⟩
     rw [hln'] at hlv
     subst hlv
     have HX1 : Hid (l[j]? = some x) := hx1
     have HC : Hid (Calls Try.prog K #[.agg #[.int .i64 x.k, .int .i64 x.n, .string (bs x.s), .int .i64 x.e, .int .i64 x.r.1, .int .i64 x.r.2.1, .bool x.r.2.2.1, .bool x.r.2.2.2, .int .i64 x.q.1, .int .i64 x.q.2.1, .bool x.q.2.2.1, .bool x.q.2.2.2, .slice pp ln' cl']] (wr.alloc (.cells #[.int .i64 x.k, .int .i64 x.n, .string (bs x.s), .int .i64 x.e, .int .i64 x.r.1, .int .i64 x.r.2.1, .bool x.r.2.2.1, .bool x.r.2.2.2, .int .i64 x.q.1, .int .i64 x.q.2.1, .bool x.q.2.2.1, .bool x.q.2.2.2, .slice pp ln' cl'] 26)) fun e w' => e = .returned (.bool (g x)) ∧ Ext (wr.alloc (.cells #[.int .i64 x.k, .int .i64 x.n, .string (bs x.s), .int .i64 x.e, .int .i64 x.r.1, .int .i64 x.r.2.1, .bool x.r.2.2.1, .bool x.r.2.2.2, .int .i64 x.q.1, .int .i64 x.q.2.1, .bool x.q.2.2.1, .bool x.q.2.2.2, .slice pp ln' cl'] 26)) w') := HX.out x (List.mem_of_getElem? hx1) _ pp ln' cl' (hLx.ext ((Ext.refl _).alloc _))
     have e0 : wr.cell? ⟨gb, off + j * 13, none⟩ = some (.int .i64 x.k) := hce 0 _ rfl
     have e1 : wr.cell? ⟨gb, off + j * 13 + 1, none⟩ = some (.int .i64 x.n) := hce 1 _ rfl
     have e2 : wr.cell? ⟨gb, off + j * 13 + 2, none⟩ = some (.string (bs x.s)) := hce 2 _ rfl
     have e3 : wr.cell? ⟨gb, off + j * 13 + 3, none⟩ = some (.int .i64 x.e) := hce 3 _ rfl
     have e4 : wr.cell? ⟨gb, off + j * 13 + 4, none⟩ = some (.int .i64 x.r.1) := hce 4 _ rfl
     have e5 : wr.cell? ⟨gb, off + j * 13 + 5, none⟩ = some (.int .i64 x.r.2.1) := hce 5 _ rfl
     have e6 : wr.cell? ⟨gb, off + j * 13 + 6, none⟩ = some (.bool x.r.2.2.1) := hce 6 _ rfl
     have e7 : wr.cell? ⟨gb, off + j * 13 + 7, none⟩ = some (.bool x.r.2.2.2) := hce 7 _ rfl
     have e8 : wr.cell? ⟨gb, off + j * 13 + 8, none⟩ = some (.int .i64 x.q.1) := hce 8 _ rfl
     have e9 : wr.cell? ⟨gb, off + j * 13 + 9, none⟩ = some (.int .i64 x.q.2.1) := hce 9 _ rfl
     have e10 : wr.cell? ⟨gb, off + j * 13 + 10, none⟩ = some (.bool x.q.2.2.1) := hce 10 _ rfl
     have e11 : wr.cell? ⟨gb, off + j * 13 + 11, none⟩ = some (.bool x.q.2.2.2) := hce 11 _ rfl
     have e12 : wr.cell? ⟨gb, off + j * 13 + 12, none⟩ = some (.slice pp ln' cl') := hce 12 _ rfl
     clear hI hx1 hLx hce hcl hln'
     go_wp2_with fail
     refine HC.out.mono ?_
     rintro e w1 ⟨rfl, E1⟩
     have HE1 : Hid (Ext w w1) := (HE.out.1.alloc _).trans E1
     clear E1 e0 e1 e2 e3 e4 e5 e6 e7 e8 e9 e10 e11 e12
     cases hgx : g x
     · have HR : Hid (l.all g = false) := by
         show _ = _
         rw [List.all_eq_false]
         exact ⟨x, List.mem_of_getElem? HX1.out, by rw [hgx]; simp⟩
       clear hgx
       go_wp2_with fail
       go_ret
       exact ⟨ret_bool HR.out.symm, HE1.out⟩
     · have HR : Hid ((l.take (j + 1)).all g = true) := by show _ = _; rw [allx_take HX1.out, HE.out.2, hgx]; rfl
       clear hgx
       go_wp2_with fail
       go_roundw
       case rel => exact ⟨j + 1, by omega, by go_num, HR.out, HE1.out⟩
       case measure => show ln - ((j : Int) + 1).toNat < ln - ((j : Int)).toNat; omega
   · have hltI : ¬ (j : Int) < (ln : Int) := by omega
     have HR : Hid (l.all g = true) := by
       show _ = _
       have := HE.out.2
       rw [List.take_of_length_le (by have := HLN.out; omega)] at this
       exact this
     go_wp2_with fail
     go_ret
     exact ⟨ret_bool HR.out.symm, HE.out.1⟩
/-! ### Well -/
set_option maxRecDepth 100000 in
theorem isArg_any (P : Nat → Prop) (n : Nat) (t : T) (hw : ATr 46 P (wellT n) t) : ATr 81 P (argT n) t := by
 intro W pp ln cl h
 by_cases k5 : t.k = 5
 · have e5 : (t.k == 5) = true := by rw [k5]; rfl
   have HX : Hid (argT n t = (inB t.r.1 t.r.2.1 && inB t.q.1 t.q.2.1)) := by show _ = _; unfold argT; rw [if_pos k5]
   have c1 := fun W => isIn_any t.r.1 t.r.2.1 t.r.2.2.1 t.r.2.2.2 W
   have c2 := fun W => isIn_any t.q.1 t.q.2.1 t.q.2.2.1 t.q.2.2.2 W
   clear k5 hw h
   cases h1 : inB t.r.1 t.r.2.1
   · rw [h1] at c1 HX
     clear h1
     go_enter Try.func81, Try.ntmps81
     go_wp2_with fail
     refine (c1 _).mono ?_
     rintro e w1 ⟨rfl, E1⟩
     have HE : Hid (Ext W w1) := ((Ext.refl _).alloc _).trans E1
     clear E1
     go_wp2_with fail
     go_ret
     exact ⟨ret_bool (by rw [HX.out]; rfl), HE.out⟩
   · rw [h1] at c1 HX
     clear h1
     go_enter Try.func81, Try.ntmps81
     go_wp2_with fail
     refine (c1 _).mono ?_
     rintro e w1 ⟨rfl, E1⟩
     have HE : Hid (Ext W w1) := ((Ext.refl _).alloc _).trans E1
     have hB := blk13_top rfl E1
     obtain ⟨q0, ⟨l0, l1, l2, l3, l4, l5, l6, l7, l8, l9, l10, l11, l12⟩, gg⟩ := hB
     clear E1 gg
     go_wp2_with fail
     refine (c2 _).mono ?_
     rintro e w2 ⟨rfl, E2⟩
     have HE2 : Hid (Ext W w2) := HE.out.trans E2
     clear E2
     go_wp2_with fail
     go_ret
     exact ⟨ret_bool (by rw [HX.out]; rfl), HE2.out⟩
 · have e5 : (t.k == 5) = false := by simpa using k5
   have HX : Hid (argT n t = wellT n t) := by show _ = _; unfold argT; rw [if_neg k5]
   have HW : Hid (∀ W', Ext W W' → Calls Try.prog 46 #[.agg #[.int .i64 t.k, .int .i64 t.n, .string (bs t.s), .int .i64 t.e, .int .i64 t.r.1, .int .i64 t.r.2.1, .bool t.r.2.2.1, .bool t.r.2.2.2, .int .i64 t.q.1, .int .i64 t.q.2.1, .bool t.q.2.2.1, .bool t.q.2.2.2, .slice pp ln cl]] W' fun e w' => e = .returned (.bool (wellT n t)) ∧ Ext W' w') := fun W' e => hw W' pp ln cl (h.ext e)
   clear k5 hw h
   go_enter Try.func81, Try.ntmps81
   go_wp2_with fail
   refine (HW.out _ ((Ext.refl _).alloc _)).mono ?_
   rintro e w1 ⟨rfl, E1⟩
   have HE : Hid (Ext W w1) := ((Ext.refl _).alloc _).trans E1
   clear E1
   go_wp2_with fail
   go_ret
   exact ⟨ret_bool HX.out.symm, HE.out⟩

open Go.RowKit
set_option maxHeartbeats 6000000

set_option maxRecDepth 100000 in
theorem well_leaf (P : Nat → Prop) (n : Nat) (t : T) (hk6 : t.k ≠ 6) (hk7 : t.k ≠ 7) (hk8 : t.k ≠ 8) : ATr 46 P (wellT (n + 1)) t := by
 intro W pp ln cl _
 by_cases hk : t.k = 0
 · have e0 : (t.k == 0) = true := by rw [hk]; rfl
   have HX : Hid (wellT (n + 1) t = decide (0 ≤ t.n)) := by show _ = _; unfold wellT; simp [hk]
   clear hk hk6 hk7 hk8
   go_enter Try.func46, Try.ntmps46
   go_wp2_with fail
   go_ret
   exact ⟨ret_bool HX.out.symm, (Ext.refl _).alloc _⟩
 have k0 := hk
 clear hk
 by_cases hk : t.k = 1
 · have e0 : (t.k == 0) = false := by rw [hk]; rfl
   have e1 : (t.k == 1) = true := by rw [hk]; rfl
   have HX : Hid (wellT (n + 1) t = decide (t.s.length ≤ 300)) := by show _ = _; unfold wellT; simp [hk]
   have HB : Hid ((bs t.s).size = t.s.length) := bs_size _
   generalize bs t.s = q at *
   clear hk hk6 hk7 hk8 k0
   go_enter Try.func46, Try.ntmps46
   go_wp2_with fail
   go_ret
   refine ⟨ret_bool ?_, (Ext.refl _).alloc _⟩
   rw [HX.out, ← HB.out]
   simp
   omega
 have k1 := hk
 clear hk
 by_cases hk : t.k = 2
 · have e0 : (t.k == 0) = false := by rw [hk]; rfl
   have e1 : (t.k == 1) = false := by rw [hk]; rfl
   have e2 : (t.k == 2) = true := by rw [hk]; rfl
   have HX : Hid (wellT (n + 1) t = (t.n == 0 || t.n == 1)) := by show _ = _; unfold wellT; simp [hk]
   clear hk hk6 hk7 hk8 k0 k1
   cases hn : (t.n == 0)
   · rw [hn] at HX
     go_enter Try.func46, Try.ntmps46
     go_wp2_with fail
     go_ret
     exact ⟨ret_bool HX.out.symm, (Ext.refl _).alloc _⟩
   · rw [hn] at HX
     go_enter Try.func46, Try.ntmps46
     go_wp2_with fail
     go_ret
     exact ⟨ret_bool HX.out.symm, (Ext.refl _).alloc _⟩
 have k2 := hk
 clear hk
 by_cases hk : t.k = 3
 · have e0 : (t.k == 0) = false := by rw [hk]; rfl
   have e1 : (t.k == 1) = false := by rw [hk]; rfl
   have e2 : (t.k == 2) = false := by rw [hk]; rfl
   have e3 : (t.k == 3) = true := by rw [hk]; rfl
   have HX : Hid (wellT (n + 1) t = (decide (1 ≤ t.e) && decide (t.e ≤ 5))) := by show _ = _; unfold wellT; simp [hk]
   clear hk hk6 hk7 hk8 k0 k1 k2
   by_cases h1 : 1 ≤ t.e
   · have d1 : decide (1 ≤ t.e) = true := by simpa using h1
     rw [d1] at HX
     go_enter Try.func46, Try.ntmps46
     go_wp2_with fail
     go_ret
     exact ⟨ret_bool HX.out.symm, (Ext.refl _).alloc _⟩
   · have d1 : decide (1 ≤ t.e) = false := by simpa using h1
     rw [d1] at HX
     go_enter Try.func46, Try.ntmps46
     go_wp2_with fail
     go_ret
     exact ⟨ret_bool HX.out.symm, (Ext.refl _).alloc _⟩
 have k3 := hk
 clear hk
 by_cases hk : t.k = 4
 · have e0 : (t.k == 0) = false := by rw [hk]; rfl
   have e1 : (t.k == 1) = false := by rw [hk]; rfl
   have e2 : (t.k == 2) = false := by rw [hk]; rfl
   have e3 : (t.k == 3) = false := by rw [hk]; rfl
   have e4 : (t.k == 4) = true := by rw [hk]; rfl
   have HX : Hid (wellT (n + 1) t = inB t.r.1 t.r.2.1) := by show _ = _; unfold wellT; simp [hk]
   have c1 := fun W => isIn_any t.r.1 t.r.2.1 t.r.2.2.1 t.r.2.2.2 W
   clear hk hk6 hk7 hk8 k0 k1 k2 k3
   go_enter Try.func46, Try.ntmps46
   go_wp2_with fail
   refine (c1 _).mono ?_
   rintro e w1 ⟨rfl, E1⟩
   have HE : Hid (Ext W w1) := ((Ext.refl _).alloc _).trans E1
   clear E1
   go_wp2_with fail
   go_ret
   exact ⟨ret_bool HX.out.symm, HE.out⟩
 have k4 := hk
 clear hk
 have HX : Hid (wellT (n + 1) t = false) := by show _ = _; unfold wellT; simp [k0, k1, k2, k3, k4, hk6, hk7, hk8]
 have e0 : (t.k == 0) = false := by simpa using k0
 have e1 : (t.k == 1) = false := by simpa using k1
 have e2 : (t.k == 2) = false := by simpa using k2
 have e3 : (t.k == 3) = false := by simpa using k3
 have e4 : (t.k == 4) = false := by simpa using k4
 have e6 : (t.k == 6) = false := by simpa using hk6
 have e7 : (t.k == 7) = false := by simpa using hk7
 have e8 : (t.k == 8) = false := by simpa using hk8
 clear hk6 hk7 hk8 k0 k1 k2 k3 k4
 go_enter Try.func46, Try.ntmps46
 go_wp2_with fail
 go_ret
 exact ⟨ret_bool HX.out.symm, (Ext.refl _).alloc _⟩
set_option maxRecDepth 100000 in
theorem well_neg (P : Nat → Prop) (n : Nat) (t : T) (hk : t.k = 6) (hl : t.l.length ≤ 100000) (hx : ∀ x ∈ t.l, ATr 46 P (wellT n) x) : ATr 46 P (wellT (n + 1)) t := by
 intro W pp ln cl h
 have hln : t.l.length = ln := by
   obtain ⟨p, c, h1, _⟩ := h.form
   cases h1; rfl
 have e0 : (t.k == 0) = false := by rw [hk]; rfl
 have e1 : (t.k == 1) = false := by rw [hk]; rfl
 have e2 : (t.k == 2) = false := by rw [hk]; rfl
 have e3 : (t.k == 3) = false := by rw [hk]; rfl
 have e4 : (t.k == 4) = false := by rw [hk]; rfl
 have e6 : (t.k == 6) = true := by rw [hk]; rfl
 have HX : Hid (wellT (n + 1) t = (ln == 1 && t.l.all (wellT n))) := by show _ = _; unfold wellT; simp [hk, hln]
 have HC : Hid (∀ W', Ext W W' → Calls Try.prog 78 #[.slice pp ln cl, .func (.func 46) #[] #[]] W' fun e w' => e = .returned (.bool (t.l.all (wellT n))) ∧ Ext W' w') := fun W' e => all_any 46 P (wellT n) t.l pp ln cl W' hl (enters_of Try.func46 (by kernel_rfl) rfl) hx (h.ext e)
 clear hk hl hx h hln
 by_cases h1 : ln = 1
 · have d1 : ((ln : Int) == 1) = true := by rw [h1]; rfl
   have HY : Hid ((ln == 1) = true) := by show _ = _; rw [h1]; rfl
   clear h1
   go_enter Try.func46, Try.ntmps46
   go_wp2_with fail
   refine (HC.out _ ((Ext.refl _).alloc _)).mono ?_
   rintro e w1 ⟨rfl, E1⟩
   have HE : Hid (Ext W w1) := ((Ext.refl _).alloc _).trans E1
   clear E1
   go_wp2_with fail
   go_ret
   exact ⟨ret_bool (by rw [HX.out, HY.out]; rfl), HE.out⟩
 · have d1 : ((ln : Int) == 1) = false := by simp; omega
   have HY : Hid ((ln == 1) = false) := by show _ = _; simpa using h1
   clear h1
   go_enter Try.func46, Try.ntmps46
   go_wp2_with fail
   go_ret
   exact ⟨ret_bool (by rw [HX.out, HY.out]; rfl), (Ext.refl _).alloc _⟩
set_option maxRecDepth 100000 in
theorem well_bin (P : Nat → Prop) (n : Nat) (t : T) (hk : t.k = 7) (hl : t.l.length ≤ 100000) (hx : ∀ x ∈ t.l, ATr 46 P (wellT n) x) : ATr 46 P (wellT (n + 1)) t := by
 intro W pp ln cl h
 have hln : t.l.length = ln := by
   obtain ⟨p, c, h1, _⟩ := h.form
   cases h1; rfl
 have e0 : (t.k == 0) = false := by rw [hk]; rfl
 have e1 : (t.k == 1) = false := by rw [hk]; rfl
 have e2 : (t.k == 2) = false := by rw [hk]; rfl
 have e3 : (t.k == 3) = false := by rw [hk]; rfl
 have e4 : (t.k == 4) = false := by rw [hk]; rfl
 have e6 : (t.k == 6) = false := by rw [hk]; rfl
 have e7 : (t.k == 7) = true := by rw [hk]; rfl
 have HX : Hid (wellT (n + 1) t = (bnd t.s != 0 && ln == 2 && t.l.all (wellT n))) := by show _ = _; unfold wellT; simp [hk, hln]
 have HC : Hid (∀ W', Ext W W' → Calls Try.prog 78 #[.slice pp ln cl, .func (.func 46) #[] #[]] W' fun e w' => e = .returned (.bool (t.l.all (wellT n))) ∧ Ext W' w') := fun W' e => all_any 46 P (wellT n) t.l pp ln cl W' hl (enters_of Try.func46 (by kernel_rfl) rfl) hx (h.ext e)
 have cB := fun W => binds_any (bs t.s) W
 have es : (bs t.s).data.toList = t.s := rfl
 rw [es] at cB
 obtain ⟨bb, hbb⟩ : ∃ bb, bnd t.s = bb := ⟨_, rfl⟩
 rw [hbb] at cB HX
 generalize bs t.s = q at *
 clear hk hl hx h hln es hbb
 by_cases h0 : bb = 0
 · have b1 : ((bb : Int) != 0) = false := by rw [h0]; rfl
   have HY : Hid ((bb != 0) = false) := by show _ = _; rw [h0]; rfl
   clear h0
   go_enter Try.func46, Try.ntmps46
   go_wp2_with fail
   refine (cB _).mono ?_
   rintro e w1 ⟨rfl, rfl⟩
   go_wp2_with fail
   go_ret
   exact ⟨ret_bool (by rw [HX.out, HY.out]; rfl), (Ext.refl _).alloc _⟩
 have b1 : ((bb : Int) != 0) = true := by simp; omega
 have HY0 : Hid ((bb != 0) = true) := by show _ = _; simpa using h0
 clear h0
 by_cases h1 : ln = 2
 · have d1 : ((ln : Int) == 2) = true := by rw [h1]; rfl
   have HY : Hid ((ln == 2) = true) := by show _ = _; rw [h1]; rfl
   clear h1
   go_enter Try.func46, Try.ntmps46
   go_wp2_with fail
   refine (cB _).mono ?_
   rintro e w1 ⟨rfl, rfl⟩
   go_wp2_with fail
   refine (HC.out _ ((Ext.refl _).alloc _)).mono ?_
   rintro e w1 ⟨rfl, E1⟩
   have HE : Hid (Ext W w1) := ((Ext.refl _).alloc _).trans E1
   clear E1
   go_wp2_with fail
   go_ret
   exact ⟨ret_bool (by rw [HX.out, HY.out, HY0.out]; rfl), HE.out⟩
 · have d1 : ((ln : Int) == 2) = false := by simp; omega
   have HY : Hid ((ln == 2) = false) := by show _ = _; simpa using h1
   clear h1
   go_enter Try.func46, Try.ntmps46
   go_wp2_with fail
   refine (cB _).mono ?_
   rintro e w1 ⟨rfl, rfl⟩
   go_wp2_with fail
   go_ret
   exact ⟨ret_bool (by rw [HX.out, HY.out, HY0.out]; rfl), (Ext.refl _).alloc _⟩
set_option maxRecDepth 100000 in
theorem well_call (P : Nat → Prop) (n : Nat) (t : T) (hk : t.k = 8) (hl : t.l.length ≤ 100000) (hx : ∀ x ∈ t.l, ATr 81 P (argT n) x) : ATr 46 P (wellT (n + 1)) t := by
 intro W pp ln cl h
 have hln : t.l.length = ln := by
   obtain ⟨p, c, h1, _⟩ := h.form
   cases h1; rfl
 have e0 : (t.k == 0) = false := by rw [hk]; rfl
 have e1 : (t.k == 1) = false := by rw [hk]; rfl
 have e2 : (t.k == 2) = false := by rw [hk]; rfl
 have e3 : (t.k == 3) = false := by rw [hk]; rfl
 have e4 : (t.k == 4) = false := by rw [hk]; rfl
 have e6 : (t.k == 6) = false := by rw [hk]; rfl
 have e7 : (t.k == 7) = false := by rw [hk]; rfl
 have e8 : (t.k == 8) = true := by rw [hk]; rfl
 have HX : Hid (wellT (n + 1) t = ((kno t.s).isSome && decide (knA t.s ≤ ln) && decide ((ln : Int) ≤ knB t.s) && t.l.all (argT n))) := by show _ = _; unfold wellT; simp only [hk, hln]; rfl
 have HC : Hid (∀ W', Ext W W' → Calls Try.prog 78 #[.slice pp ln cl, .func (.func 81) #[] #[]] W' fun e w' => e = .returned (.bool (t.l.all (argT n))) ∧ Ext W' w') := fun W' e => all_any 81 P (argT n) t.l pp ln cl W' hl (enters_of Try.func81 (by kernel_rfl) rfl) hx (h.ext e)
 have cK := fun W => known_any (bs t.s) W
 have es : (bs t.s).data.toList = t.s := rfl
 rw [es] at cK
 obtain ⟨ka, hka⟩ : ∃ ka, knA t.s = ka := ⟨_, rfl⟩
 obtain ⟨kb, hkb⟩ : ∃ kb, knB t.s = kb := ⟨_, rfl⟩
 rw [hka, hkb] at cK HX
 generalize bs t.s = q at *
 clear hk hl hx h hln es hka hkb
 cases hs : (kno t.s).isSome
 · rw [hs] at cK HX
   clear hs
   go_enter Try.func46, Try.ntmps46
   go_wp2_with fail
   refine (cK _).mono ?_
   rintro e w1 ⟨rfl, rfl⟩
   go_wp2_with fail
   go_ret
   exact ⟨ret_bool (by rw [HX.out]; rfl), (Ext.refl _).alloc _⟩
 rw [hs] at cK HX
 clear hs
 by_cases h1 : ka ≤ (ln : Int)
 · have d1 : decide (ka ≤ (ln : Int)) = true := by simpa using h1
   rw [d1] at HX
   by_cases h2 : (ln : Int) ≤ kb
   · have d2 : decide ((ln : Int) ≤ kb) = true := by simpa using h2
     rw [d2] at HX
     go_enter Try.func46, Try.ntmps46
     go_wp2_with fail
     refine (cK _).mono ?_
     rintro e w1 ⟨rfl, rfl⟩
     go_wp2_with fail
     refine (HC.out _ ((Ext.refl _).alloc _)).mono ?_
     rintro e w1 ⟨rfl, E1⟩
     have HE : Hid (Ext W w1) := ((Ext.refl _).alloc _).trans E1
     clear E1
     go_wp2_with fail
     go_ret
     exact ⟨ret_bool (by rw [HX.out]; rfl), HE.out⟩
   · have d2 : decide ((ln : Int) ≤ kb) = false := by simpa using h2
     rw [d2] at HX
     go_enter Try.func46, Try.ntmps46
     go_wp2_with fail
     refine (cK _).mono ?_
     rintro e w1 ⟨rfl, rfl⟩
     go_wp2_with fail
     go_ret
     exact ⟨ret_bool (by rw [HX.out]; rfl), (Ext.refl _).alloc _⟩
 · have d1 : decide (ka ≤ (ln : Int)) = false := by simpa using h1
   rw [d1] at HX
   go_enter Try.func46, Try.ntmps46
   go_wp2_with fail
   refine (cK _).mono ?_
   rintro e w1 ⟨rfl, rfl⟩
   go_wp2_with fail
   go_ret
   exact ⟨ret_bool (by rw [HX.out]; rfl), (Ext.refl _).alloc _⟩
/-- Well of any tree that is not deeper than n. -/
theorem well_any (P : Nat → Prop) (n : Nat) : ∀ t, Hr n t → ATr 46 P (wellT n) t := by
 induction n with
 | zero => intro t h; exact h.elim
 | succ n ih =>
   intro t h
   by_cases h6 : t.k = 6
   · exact well_neg P n t h6 h.1 (fun x hx => ih x (h.2 x hx))
   by_cases h7 : t.k = 7
   · exact well_bin P n t h7 h.1 (fun x hx => ih x (h.2 x hx))
   by_cases h8 : t.k = 8
   · exact well_call P n t h8 h.1 (fun x hx => isArg_any P n x (ih x (h.2 x hx)))
   exact well_leaf P n t h6 h7 h8

open Go.RowKit
set_option maxHeartbeats 6000000

def MtC (o : Int → Int) (b : Int → Int → Int × Int × Bool) (n : Nat) (t : T) : Prop := ∀ (v1 v2 : Value) (W : World) (P : Nat → Prop) (pp : Option Addr) (ln cl : Nat), RwC W v1 v2 o b → IsL W P (.slice pp ln cl) t.l → argT n t = true → Calls Try.prog 86 #[.agg #[v1, v2], .agg #[.int .i64 t.k, .int .i64 t.n, .string (bs t.s), .int .i64 t.e, .int .i64 t.r.1, .int .i64 t.r.2.1, .bool t.r.2.2.1, .bool t.r.2.2.2, .int .i64 t.q.1, .int .i64 t.q.2.1, .bool t.q.2.2.1, .bool t.q.2.2.2, .slice pp ln cl]] W (MpQ W (mpT (chE o b) n t))
theorem func_cell {v1 v2 : Value} {w : World} {o : Int → Int} {b : Int → Int → Int × Int × Bool} (h : RwC w v1 v2 o b) : ∃ K1 c1 K2 c2, v1 = .func (.func K1) #[] c1 ∧ v2 = .func (.func K2) #[] c2 := by
 obtain ⟨⟨K, cs, h1, _⟩, K', cs', h2, _⟩ := h
 exact ⟨K, cs, K', cs', h1, h2⟩
theorem node_args {n : Nat} {t : T} (h : argT (n + 1) t = true) (hp : t.k = 6 ∨ t.k = 7 ∨ t.k = 8) : ∀ x ∈ t.l, argT n x = true := by
 unfold argT at h
 rw [if_neg (by omega), wellT, if_neg (by omega), if_neg (by omega), if_neg (by omega), if_neg (by omega), if_neg (by omega)] at h
 intro x hx
 rcases hp with k | k | k
 · rw [if_pos k] at h
   simp only [Bool.and_eq_true, List.all_eq_true] at h
   exact wa_arg (h.2 x hx)
 · rw [if_neg (by omega), if_pos k] at h
   simp only [Bool.and_eq_true, List.all_eq_true] at h
   exact wa_arg (h.2 x hx)
 · rw [if_neg (by omega), if_neg (by omega), if_pos k] at h
   simp only [Bool.and_eq_true, List.all_eq_true] at h
   exact h.2 x hx
theorem ref_on {n : Nat} {t : T} (h : argT (n + 1) t = true) (hk : t.k = 4) : 1 ≤ t.r.1 ∧ t.r.1 ≤ 1000 := by
 unfold argT at h
 rw [if_neg (by omega), wellT, if_neg (by omega), if_neg (by omega), if_neg (by omega), if_neg (by omega), if_pos hk] at h
 unfold inB at h
 simp at h
 omega
theorem area_on {n : Nat} {t : T} (h : argT (n + 1) t = true) (hk : t.k = 5) : (1 ≤ t.r.1 ∧ t.r.1 ≤ 1000) ∧ 1 ≤ t.q.1 ∧ t.q.1 ≤ 1000 := by
 unfold argT at h
 rw [if_pos hk] at h
 unfold inB at h
 simp at h
 omega
set_option maxRecDepth 100000 in
theorem mtree_n (o : Int → Int) (b : Int → Int → Int × Int × Bool) (n : Nat) (t : T) (hr : Hr (n + 1) t) (ih : ∀ x ∈ t.l, Hr n x → MtC o b n x) (hp : t.k = 6 ∨ t.k = 7 ∨ t.k = 8) : MtC o b (n + 1) t := by
 intro v1 v2 W P pp ln cl hR hL hw
 have ha : ∀ x ∈ t.l, argT n x = true := node_args hw hp
 have HX : Hid (mpT (chE o b) (n + 1) t = t.wL (t.l.map (mpT (chE o b) n))) := mpT_node _ (chE_node o b) n t hp
 have HR : Hid (RwC W v1 v2 o b) := hR
 have HC := each_any t.l hr.1 (mpT (chE o b) n) (.func (.func 86) #[.agg #[v1, v2]] #[]) P (((W.alloc (.cells #[v1, v2] 72)).alloc (.cells #[.int .i64 t.k, .int .i64 t.n, .string (bs t.s), .int .i64 t.e, .int .i64 t.r.1, .int .i64 t.r.2.1, .bool t.r.2.2.1, .bool t.r.2.2.2, .int .i64 t.q.1, .int .i64 t.q.2.1, .bool t.q.2.2.1, .bool t.q.2.2.2, .slice pp ln cl] 26)).alloc (.cells #[.int .i64 0, .int .i64 0, .string ⟨#[]⟩, .int .i64 0, .int .i64 0, .int .i64 0, .bool false, .bool false, .int .i64 0, .int .i64 0, .bool false, .bool false, .slice none 0 0] 26)) pp ln cl ⟨86, #[.agg #[v1, v2]], #[], rfl, enters_of Try.func86 (by kernel_rfl) rfl, fun x hx W' pp' ln' cl' e hI => ih x hx (hr.2 x hx) v1 v2 W' P pp' ln' cl' (hR.ext (((((Ext.refl _).alloc _).alloc _).alloc _).trans e)) hI (ha x hx)⟩ (hL.ext ((((Ext.refl _).alloc _).alloc _).alloc _))
 obtain ⟨y, hy⟩ : ∃ y, t.l.map (mpT (chE o b) n) = y := ⟨_, rfl⟩
 rw [hy] at HC HX
 have k6 : (t.k == 6) = decide (t.k = 6) := by rfl
 obtain ⟨K1, c1, K2, c2, rfl, rfl⟩ := func_cell hR
 have HK : Hid (t.k = 6 ∨ t.k = 7 ∨ t.k = 8) := hp
 clear hL hr ih ha hw hy hR hp k6
 rcases HK.out with k | k | k
 · have e6 : (t.k == 6) = true := by rw [k]; rfl
   have e7 : (t.k == 7) = false := by rw [k]; rfl
   have e8 : (t.k == 8) = false := by rw [k]; rfl
   clear k
   go_enter Try.func86, Try.ntmps86
   go_wp2_with fail
   have HB : Hid (Blk2 (((W.alloc (.cells #[(.func (.func K1) #[] c1), (.func (.func K2) #[] c2)] 72)).alloc (.cells #[.int .i64 t.k, .int .i64 t.n, .string (bs t.s), .int .i64 t.e, .int .i64 t.r.1, .int .i64 t.r.2.1, .bool t.r.2.2.1, .bool t.r.2.2.2, .int .i64 t.q.1, .int .i64 t.q.2.1, .bool t.q.2.2.1, .bool t.q.2.2.2, .slice pp ln cl] 26)).alloc (.cells #[.int .i64 0, .int .i64 0, .string ⟨#[]⟩, .int .i64 0, .int .i64 0, .int .i64 0, .bool false, .bool false, .int .i64 0, .int .i64 0, .bool false, .bool false, .slice none 0 0] 26)) W.heap.size (.func (.func K1) #[] c1) (.func (.func K2) #[] c2) ∧ BlkX (((W.alloc (.cells #[(.func (.func K1) #[] c1), (.func (.func K2) #[] c2)] 72)).alloc (.cells #[.int .i64 t.k, .int .i64 t.n, .string (bs t.s), .int .i64 t.e, .int .i64 t.r.1, .int .i64 t.r.2.1, .bool t.r.2.2.1, .bool t.r.2.2.2, .int .i64 t.q.1, .int .i64 t.q.2.1, .bool t.q.2.2.1, .bool t.q.2.2.2, .slice pp ln cl] 26)).alloc (.cells #[.int .i64 0, .int .i64 0, .string ⟨#[]⟩, .int .i64 0, .int .i64 0, .int .i64 0, .bool false, .bool false, .int .i64 0, .int .i64 0, .bool false, .bool false, .slice none 0 0] 26)) (W.heap.size + 1) t (.slice pp ln cl) ∧ BlkX (((W.alloc (.cells #[(.func (.func K1) #[] c1), (.func (.func K2) #[] c2)] 72)).alloc (.cells #[.int .i64 t.k, .int .i64 t.n, .string (bs t.s), .int .i64 t.e, .int .i64 t.r.1, .int .i64 t.r.2.1, .bool t.r.2.2.1, .bool t.r.2.2.2, .int .i64 t.q.1, .int .i64 t.q.2.1, .bool t.q.2.2.1, .bool t.q.2.2.2, .slice pp ln cl] 26)).alloc (.cells #[.int .i64 0, .int .i64 0, .string ⟨#[]⟩, .int .i64 0, .int .i64 0, .int .i64 0, .bool false, .bool false, .int .i64 0, .int .i64 0, .bool false, .bool false, .slice none 0 0] 26)) (W.heap.size + 1 + 1) tz (.slice none 0 0) ∧ Ext W (((W.alloc (.cells #[(.func (.func K1) #[] c1), (.func (.func K2) #[] c2)] 72)).alloc (.cells #[.int .i64 t.k, .int .i64 t.n, .string (bs t.s), .int .i64 t.e, .int .i64 t.r.1, .int .i64 t.r.2.1, .bool t.r.2.2.1, .bool t.r.2.2.2, .int .i64 t.q.1, .int .i64 t.q.2.1, .bool t.q.2.2.1, .bool t.q.2.2.2, .slice pp ln cl] 26)).alloc (.cells #[.int .i64 0, .int .i64 0, .string ⟨#[]⟩, .int .i64 0, .int .i64 0, .int .i64 0, .bool false, .bool false, .int .i64 0, .int .i64 0, .bool false, .bool false, .slice none 0 0] 26))) := ⟨blk2_top rfl (((Ext.refl _).alloc _).alloc _), blk13_top (by simp) ((Ext.refl _).alloc _), BlkX.top (by simp) (Ext.refl _), (((Ext.refl _).alloc _).alloc _).alloc _⟩
   refine HC.mono ?_
   rintro e w1 ⟨p, l, c, rfl, L1, E1⟩
   replace HB : Hid (Blk2 w1 W.heap.size (.func (.func K1) #[] c1) (.func (.func K2) #[] c2) ∧ BlkX w1 (W.heap.size + 1) t (.slice pp ln cl) ∧ BlkX w1 (W.heap.size + 1 + 1) tz (.slice none 0 0) ∧ Ext W w1) := ⟨HB.out.1.ext E1, HB.out.2.1.ext E1, HB.out.2.2.1.ext E1, HB.out.2.2.2.trans E1⟩
   have HL1 : Hid (IsL w1 (W.heap.size + 1 + 1 + 1 ≤ ·) (.slice p l c) y) := L1.mono (fun k hk _ => by have : (((W.alloc (.cells #[(.func (.func K1) #[] c1), (.func (.func K2) #[] c2)] 72)).alloc (.cells #[.int .i64 t.k, .int .i64 t.n, .string (bs t.s), .int .i64 t.e, .int .i64 t.r.1, .int .i64 t.r.2.1, .bool t.r.2.2.1, .bool t.r.2.2.2, .int .i64 t.q.1, .int .i64 t.q.2.1, .bool t.q.2.2.1, .bool t.q.2.2.2, .slice pp ln cl] 26)).alloc (.cells #[.int .i64 0, .int .i64 0, .string ⟨#[]⟩, .int .i64 0, .int .i64 0, .int .i64 0, .bool false, .bool false, .int .i64 0, .int .i64 0, .bool false, .bool false, .slice none 0 0] 26)).heap.size ≤ k := hk; simp at this; omega)
   clear E1 L1 HC
   obtain ⟨qn, ⟨n0, n1⟩, m0, m1⟩ := HB.out.1
   obtain ⟨qa, ⟨la0, la1, la2, la3, la4, la5, la6, la7, la8, la9, la10, la11, la12⟩, ga0, ga1, ga2, ga3, ga4, ga5, ga6, ga7, ga8, ga9, ga10, ga11, ga12⟩ := HB.out.2.1
   obtain ⟨qc, ⟨lc0, lc1, lc2, lc3, lc4, lc5, lc6, lc7, lc8, lc9, lc10, lc11, lc12⟩, gc0, gc1, gc2, gc3, gc4, gc5, gc6, gc7, gc8, gc9, gc10, gc11, gc12⟩ := HB.out.2.2.1
   have hz : W.heap.size + 1 + 1 < w1.heap.size := qc
   go_wp2_with fail
   have E9 : Ext W (w1.setCell ⟨W.heap.size + 1, 12, none⟩ (.slice p l c)) := HB.out.2.2.2.setCell (p := ⟨W.heap.size + 1, 12, none⟩) (by show W.heap.size ≤ W.heap.size + 1; omega) _
   have B9 : BlkX (w1.setCell ⟨W.heap.size + 1, 12, none⟩ (.slice p l c)) (W.heap.size + 1 + 1) tz (.slice none 0 0) := Blk13.far1 HB.out.2.2.1 (by omega) 12 _
   have L9 : IsL (w1.setCell ⟨W.heap.size + 1, 12, none⟩ (.slice p l c)) (W.heap.size + 1 + 1 + 1 ≤ ·) (.slice p l c) (t.wL y).l := HL1.out.keep (by simp [World.setCell]) (fun k hk _ => Below.heap_setCell _ _ _ _ (by have hk2 : W.heap.size + 1 + 1 + 1 ≤ k := hk; simp; omega)) (fun _ h _ => h)
   show bodyPost Try.prog _ _ _ _ (putX (w1.setCell ⟨W.heap.size + 1, 12, none⟩ (.slice p l c)) (W.heap.size + 1 + 1) (t.wL y) (.slice p l c))
   generalize w1.setCell ⟨W.heap.size + 1, 12, none⟩ (.slice p l c) = w9 at *
   show bodyPost Try.prog _ _ _ _ (putX w9 (W.heap.size + 1 + 1) (t.wL y) (.slice p l c))
   rw [HX.out]
   exact endR (B9.put (t.wL y) (.slice p l c)) rfl ⟨p, l, c, rfl, (putX_L L9 (fun k hk => by have hk2 : W.heap.size + 1 + 1 + 1 ≤ k := hk; omega)).mono (fun k hk _ => by have hk2 : W.heap.size + 1 + 1 + 1 ≤ k := hk; omega), putX_E E9 (by omega) _ _⟩ (fun h0 h1 h2 h3 h4 h5 h6 h7 h8 h9 h10 h11 h12 => by simp [results, Try.results86, go_sem, h0, h1, h2, h3, h4, h5, h6, h7, h8, h9, h10, h11, h12, aggX])
 · have e6 : (t.k == 6) = false := by rw [k]; rfl
   have e7 : (t.k == 7) = true := by rw [k]; rfl
   have e8 : (t.k == 8) = false := by rw [k]; rfl
   clear k
   go_enter Try.func86, Try.ntmps86
   go_wp2_with fail
   have HB : Hid (Blk2 (((W.alloc (.cells #[(.func (.func K1) #[] c1), (.func (.func K2) #[] c2)] 72)).alloc (.cells #[.int .i64 t.k, .int .i64 t.n, .string (bs t.s), .int .i64 t.e, .int .i64 t.r.1, .int .i64 t.r.2.1, .bool t.r.2.2.1, .bool t.r.2.2.2, .int .i64 t.q.1, .int .i64 t.q.2.1, .bool t.q.2.2.1, .bool t.q.2.2.2, .slice pp ln cl] 26)).alloc (.cells #[.int .i64 0, .int .i64 0, .string ⟨#[]⟩, .int .i64 0, .int .i64 0, .int .i64 0, .bool false, .bool false, .int .i64 0, .int .i64 0, .bool false, .bool false, .slice none 0 0] 26)) W.heap.size (.func (.func K1) #[] c1) (.func (.func K2) #[] c2) ∧ BlkX (((W.alloc (.cells #[(.func (.func K1) #[] c1), (.func (.func K2) #[] c2)] 72)).alloc (.cells #[.int .i64 t.k, .int .i64 t.n, .string (bs t.s), .int .i64 t.e, .int .i64 t.r.1, .int .i64 t.r.2.1, .bool t.r.2.2.1, .bool t.r.2.2.2, .int .i64 t.q.1, .int .i64 t.q.2.1, .bool t.q.2.2.1, .bool t.q.2.2.2, .slice pp ln cl] 26)).alloc (.cells #[.int .i64 0, .int .i64 0, .string ⟨#[]⟩, .int .i64 0, .int .i64 0, .int .i64 0, .bool false, .bool false, .int .i64 0, .int .i64 0, .bool false, .bool false, .slice none 0 0] 26)) (W.heap.size + 1) t (.slice pp ln cl) ∧ BlkX (((W.alloc (.cells #[(.func (.func K1) #[] c1), (.func (.func K2) #[] c2)] 72)).alloc (.cells #[.int .i64 t.k, .int .i64 t.n, .string (bs t.s), .int .i64 t.e, .int .i64 t.r.1, .int .i64 t.r.2.1, .bool t.r.2.2.1, .bool t.r.2.2.2, .int .i64 t.q.1, .int .i64 t.q.2.1, .bool t.q.2.2.1, .bool t.q.2.2.2, .slice pp ln cl] 26)).alloc (.cells #[.int .i64 0, .int .i64 0, .string ⟨#[]⟩, .int .i64 0, .int .i64 0, .int .i64 0, .bool false, .bool false, .int .i64 0, .int .i64 0, .bool false, .bool false, .slice none 0 0] 26)) (W.heap.size + 1 + 1) tz (.slice none 0 0) ∧ Ext W (((W.alloc (.cells #[(.func (.func K1) #[] c1), (.func (.func K2) #[] c2)] 72)).alloc (.cells #[.int .i64 t.k, .int .i64 t.n, .string (bs t.s), .int .i64 t.e, .int .i64 t.r.1, .int .i64 t.r.2.1, .bool t.r.2.2.1, .bool t.r.2.2.2, .int .i64 t.q.1, .int .i64 t.q.2.1, .bool t.q.2.2.1, .bool t.q.2.2.2, .slice pp ln cl] 26)).alloc (.cells #[.int .i64 0, .int .i64 0, .string ⟨#[]⟩, .int .i64 0, .int .i64 0, .int .i64 0, .bool false, .bool false, .int .i64 0, .int .i64 0, .bool false, .bool false, .slice none 0 0] 26))) := ⟨blk2_top rfl (((Ext.refl _).alloc _).alloc _), blk13_top (by simp) ((Ext.refl _).alloc _), BlkX.top (by simp) (Ext.refl _), (((Ext.refl _).alloc _).alloc _).alloc _⟩
   refine HC.mono ?_
   rintro e w1 ⟨p, l, c, rfl, L1, E1⟩
   replace HB : Hid (Blk2 w1 W.heap.size (.func (.func K1) #[] c1) (.func (.func K2) #[] c2) ∧ BlkX w1 (W.heap.size + 1) t (.slice pp ln cl) ∧ BlkX w1 (W.heap.size + 1 + 1) tz (.slice none 0 0) ∧ Ext W w1) := ⟨HB.out.1.ext E1, HB.out.2.1.ext E1, HB.out.2.2.1.ext E1, HB.out.2.2.2.trans E1⟩
   have HL1 : Hid (IsL w1 (W.heap.size + 1 + 1 + 1 ≤ ·) (.slice p l c) y) := L1.mono (fun k hk _ => by have : (((W.alloc (.cells #[(.func (.func K1) #[] c1), (.func (.func K2) #[] c2)] 72)).alloc (.cells #[.int .i64 t.k, .int .i64 t.n, .string (bs t.s), .int .i64 t.e, .int .i64 t.r.1, .int .i64 t.r.2.1, .bool t.r.2.2.1, .bool t.r.2.2.2, .int .i64 t.q.1, .int .i64 t.q.2.1, .bool t.q.2.2.1, .bool t.q.2.2.2, .slice pp ln cl] 26)).alloc (.cells #[.int .i64 0, .int .i64 0, .string ⟨#[]⟩, .int .i64 0, .int .i64 0, .int .i64 0, .bool false, .bool false, .int .i64 0, .int .i64 0, .bool false, .bool false, .slice none 0 0] 26)).heap.size ≤ k := hk; simp at this; omega)
   clear E1 L1 HC
   obtain ⟨qn, ⟨n0, n1⟩, m0, m1⟩ := HB.out.1
   obtain ⟨qa, ⟨la0, la1, la2, la3, la4, la5, la6, la7, la8, la9, la10, la11, la12⟩, ga0, ga1, ga2, ga3, ga4, ga5, ga6, ga7, ga8, ga9, ga10, ga11, ga12⟩ := HB.out.2.1
   obtain ⟨qc, ⟨lc0, lc1, lc2, lc3, lc4, lc5, lc6, lc7, lc8, lc9, lc10, lc11, lc12⟩, gc0, gc1, gc2, gc3, gc4, gc5, gc6, gc7, gc8, gc9, gc10, gc11, gc12⟩ := HB.out.2.2.1
   have hz : W.heap.size + 1 + 1 < w1.heap.size := qc
   go_wp2_with fail
   have E9 : Ext W (w1.setCell ⟨W.heap.size + 1, 12, none⟩ (.slice p l c)) := HB.out.2.2.2.setCell (p := ⟨W.heap.size + 1, 12, none⟩) (by show W.heap.size ≤ W.heap.size + 1; omega) _
   have B9 : BlkX (w1.setCell ⟨W.heap.size + 1, 12, none⟩ (.slice p l c)) (W.heap.size + 1 + 1) tz (.slice none 0 0) := Blk13.far1 HB.out.2.2.1 (by omega) 12 _
   have L9 : IsL (w1.setCell ⟨W.heap.size + 1, 12, none⟩ (.slice p l c)) (W.heap.size + 1 + 1 + 1 ≤ ·) (.slice p l c) (t.wL y).l := HL1.out.keep (by simp [World.setCell]) (fun k hk _ => Below.heap_setCell _ _ _ _ (by have hk2 : W.heap.size + 1 + 1 + 1 ≤ k := hk; simp; omega)) (fun _ h _ => h)
   show bodyPost Try.prog _ _ _ _ (putX (w1.setCell ⟨W.heap.size + 1, 12, none⟩ (.slice p l c)) (W.heap.size + 1 + 1) (t.wL y) (.slice p l c))
   generalize w1.setCell ⟨W.heap.size + 1, 12, none⟩ (.slice p l c) = w9 at *
   show bodyPost Try.prog _ _ _ _ (putX w9 (W.heap.size + 1 + 1) (t.wL y) (.slice p l c))
   rw [HX.out]
   exact endR (B9.put (t.wL y) (.slice p l c)) rfl ⟨p, l, c, rfl, (putX_L L9 (fun k hk => by have hk2 : W.heap.size + 1 + 1 + 1 ≤ k := hk; omega)).mono (fun k hk _ => by have hk2 : W.heap.size + 1 + 1 + 1 ≤ k := hk; omega), putX_E E9 (by omega) _ _⟩ (fun h0 h1 h2 h3 h4 h5 h6 h7 h8 h9 h10 h11 h12 => by simp [results, Try.results86, go_sem, h0, h1, h2, h3, h4, h5, h6, h7, h8, h9, h10, h11, h12, aggX])
 · have e6 : (t.k == 6) = false := by rw [k]; rfl
   have e7 : (t.k == 7) = false := by rw [k]; rfl
   have e8 : (t.k == 8) = true := by rw [k]; rfl
   clear k
   go_enter Try.func86, Try.ntmps86
   go_wp2_with fail
   have HB : Hid (Blk2 (((W.alloc (.cells #[(.func (.func K1) #[] c1), (.func (.func K2) #[] c2)] 72)).alloc (.cells #[.int .i64 t.k, .int .i64 t.n, .string (bs t.s), .int .i64 t.e, .int .i64 t.r.1, .int .i64 t.r.2.1, .bool t.r.2.2.1, .bool t.r.2.2.2, .int .i64 t.q.1, .int .i64 t.q.2.1, .bool t.q.2.2.1, .bool t.q.2.2.2, .slice pp ln cl] 26)).alloc (.cells #[.int .i64 0, .int .i64 0, .string ⟨#[]⟩, .int .i64 0, .int .i64 0, .int .i64 0, .bool false, .bool false, .int .i64 0, .int .i64 0, .bool false, .bool false, .slice none 0 0] 26)) W.heap.size (.func (.func K1) #[] c1) (.func (.func K2) #[] c2) ∧ BlkX (((W.alloc (.cells #[(.func (.func K1) #[] c1), (.func (.func K2) #[] c2)] 72)).alloc (.cells #[.int .i64 t.k, .int .i64 t.n, .string (bs t.s), .int .i64 t.e, .int .i64 t.r.1, .int .i64 t.r.2.1, .bool t.r.2.2.1, .bool t.r.2.2.2, .int .i64 t.q.1, .int .i64 t.q.2.1, .bool t.q.2.2.1, .bool t.q.2.2.2, .slice pp ln cl] 26)).alloc (.cells #[.int .i64 0, .int .i64 0, .string ⟨#[]⟩, .int .i64 0, .int .i64 0, .int .i64 0, .bool false, .bool false, .int .i64 0, .int .i64 0, .bool false, .bool false, .slice none 0 0] 26)) (W.heap.size + 1) t (.slice pp ln cl) ∧ BlkX (((W.alloc (.cells #[(.func (.func K1) #[] c1), (.func (.func K2) #[] c2)] 72)).alloc (.cells #[.int .i64 t.k, .int .i64 t.n, .string (bs t.s), .int .i64 t.e, .int .i64 t.r.1, .int .i64 t.r.2.1, .bool t.r.2.2.1, .bool t.r.2.2.2, .int .i64 t.q.1, .int .i64 t.q.2.1, .bool t.q.2.2.1, .bool t.q.2.2.2, .slice pp ln cl] 26)).alloc (.cells #[.int .i64 0, .int .i64 0, .string ⟨#[]⟩, .int .i64 0, .int .i64 0, .int .i64 0, .bool false, .bool false, .int .i64 0, .int .i64 0, .bool false, .bool false, .slice none 0 0] 26)) (W.heap.size + 1 + 1) tz (.slice none 0 0) ∧ Ext W (((W.alloc (.cells #[(.func (.func K1) #[] c1), (.func (.func K2) #[] c2)] 72)).alloc (.cells #[.int .i64 t.k, .int .i64 t.n, .string (bs t.s), .int .i64 t.e, .int .i64 t.r.1, .int .i64 t.r.2.1, .bool t.r.2.2.1, .bool t.r.2.2.2, .int .i64 t.q.1, .int .i64 t.q.2.1, .bool t.q.2.2.1, .bool t.q.2.2.2, .slice pp ln cl] 26)).alloc (.cells #[.int .i64 0, .int .i64 0, .string ⟨#[]⟩, .int .i64 0, .int .i64 0, .int .i64 0, .bool false, .bool false, .int .i64 0, .int .i64 0, .bool false, .bool false, .slice none 0 0] 26))) := ⟨blk2_top rfl (((Ext.refl _).alloc _).alloc _), blk13_top (by simp) ((Ext.refl _).alloc _), BlkX.top (by simp) (Ext.refl _), (((Ext.refl _).alloc _).alloc _).alloc _⟩
   refine HC.mono ?_
   rintro e w1 ⟨p, l, c, rfl, L1, E1⟩
   replace HB : Hid (Blk2 w1 W.heap.size (.func (.func K1) #[] c1) (.func (.func K2) #[] c2) ∧ BlkX w1 (W.heap.size + 1) t (.slice pp ln cl) ∧ BlkX w1 (W.heap.size + 1 + 1) tz (.slice none 0 0) ∧ Ext W w1) := ⟨HB.out.1.ext E1, HB.out.2.1.ext E1, HB.out.2.2.1.ext E1, HB.out.2.2.2.trans E1⟩
   have HL1 : Hid (IsL w1 (W.heap.size + 1 + 1 + 1 ≤ ·) (.slice p l c) y) := L1.mono (fun k hk _ => by have : (((W.alloc (.cells #[(.func (.func K1) #[] c1), (.func (.func K2) #[] c2)] 72)).alloc (.cells #[.int .i64 t.k, .int .i64 t.n, .string (bs t.s), .int .i64 t.e, .int .i64 t.r.1, .int .i64 t.r.2.1, .bool t.r.2.2.1, .bool t.r.2.2.2, .int .i64 t.q.1, .int .i64 t.q.2.1, .bool t.q.2.2.1, .bool t.q.2.2.2, .slice pp ln cl] 26)).alloc (.cells #[.int .i64 0, .int .i64 0, .string ⟨#[]⟩, .int .i64 0, .int .i64 0, .int .i64 0, .bool false, .bool false, .int .i64 0, .int .i64 0, .bool false, .bool false, .slice none 0 0] 26)).heap.size ≤ k := hk; simp at this; omega)
   clear E1 L1 HC
   obtain ⟨qn, ⟨n0, n1⟩, m0, m1⟩ := HB.out.1
   obtain ⟨qa, ⟨la0, la1, la2, la3, la4, la5, la6, la7, la8, la9, la10, la11, la12⟩, ga0, ga1, ga2, ga3, ga4, ga5, ga6, ga7, ga8, ga9, ga10, ga11, ga12⟩ := HB.out.2.1
   obtain ⟨qc, ⟨lc0, lc1, lc2, lc3, lc4, lc5, lc6, lc7, lc8, lc9, lc10, lc11, lc12⟩, gc0, gc1, gc2, gc3, gc4, gc5, gc6, gc7, gc8, gc9, gc10, gc11, gc12⟩ := HB.out.2.2.1
   have hz : W.heap.size + 1 + 1 < w1.heap.size := qc
   go_wp2_with fail
   have E9 : Ext W (w1.setCell ⟨W.heap.size + 1, 12, none⟩ (.slice p l c)) := HB.out.2.2.2.setCell (p := ⟨W.heap.size + 1, 12, none⟩) (by show W.heap.size ≤ W.heap.size + 1; omega) _
   have B9 : BlkX (w1.setCell ⟨W.heap.size + 1, 12, none⟩ (.slice p l c)) (W.heap.size + 1 + 1) tz (.slice none 0 0) := Blk13.far1 HB.out.2.2.1 (by omega) 12 _
   have L9 : IsL (w1.setCell ⟨W.heap.size + 1, 12, none⟩ (.slice p l c)) (W.heap.size + 1 + 1 + 1 ≤ ·) (.slice p l c) (t.wL y).l := HL1.out.keep (by simp [World.setCell]) (fun k hk _ => Below.heap_setCell _ _ _ _ (by have hk2 : W.heap.size + 1 + 1 + 1 ≤ k := hk; simp; omega)) (fun _ h _ => h)
   show bodyPost Try.prog _ _ _ _ (putX (w1.setCell ⟨W.heap.size + 1, 12, none⟩ (.slice p l c)) (W.heap.size + 1 + 1) (t.wL y) (.slice p l c))
   generalize w1.setCell ⟨W.heap.size + 1, 12, none⟩ (.slice p l c) = w9 at *
   show bodyPost Try.prog _ _ _ _ (putX w9 (W.heap.size + 1 + 1) (t.wL y) (.slice p l c))
   rw [HX.out]
   exact endR (B9.put (t.wL y) (.slice p l c)) rfl ⟨p, l, c, rfl, (putX_L L9 (fun k hk => by have hk2 : W.heap.size + 1 + 1 + 1 ≤ k := hk; omega)).mono (fun k hk _ => by have hk2 : W.heap.size + 1 + 1 + 1 ≤ k := hk; omega), putX_E E9 (by omega) _ _⟩ (fun h0 h1 h2 h3 h4 h5 h6 h7 h8 h9 h10 h11 h12 => by simp [results, Try.results86, go_sem, h0, h1, h2, h3, h4, h5, h6, h7, h8, h9, h10, h11, h12, aggX])
set_option maxRecDepth 100000 in
theorem mtree_4 (o : Int → Int) (b : Int → Int → Int × Int × Bool) (n : Nat) (t : T) (hr : Hr (n + 1) t) (hk : t.k = 4) : MtC o b (n + 1) t := by
 intro v1 v2 W P pp ln cl hR hL hw
 have HX : Hid (mpT (chE o b) (n + 1) t = chR o t) := by show _ = _; rw [mpT_leaf _ n t (by rw [hk]; rfl)]; unfold chE; rw [if_pos hk]
 obtain ⟨h1, h2⟩ := ref_on hw hk
 have HR : Hid (RwC W v1 v2 o b) := hR
 have HI : Hid (IsL W P (.slice pp ln cl) t.l) := hL
 have HH : Hid (Hr (n + 1) t) := hr
 obtain ⟨K1, c1, K2, c2, rfl, rfl⟩ := func_cell hR
 have e4 : (t.k == 4) = true := by rw [hk]; rfl
 have e5 : (t.k == 5) = false := by rw [hk]; rfl
 have e6 : (t.k == 6) = false := by rw [hk]; rfl
 have e7 : (t.k == 7) = false := by rw [hk]; rfl
 have e8 : (t.k == 8) = false := by rw [hk]; rfl
 obtain ⟨u, hu⟩ : ∃ u, chR o t = u := ⟨_, rfl⟩
 have HU : Hid (chR o t = u) := hu
 rw [hu] at HX
 clear hL hr hw hR hk hu
 go_enter Try.func86, Try.ntmps86
 go_wp2_with fail
 have HB : Hid (Blk2 (((W.alloc (.cells #[(.func (.func K1) #[] c1), (.func (.func K2) #[] c2)] 72)).alloc (.cells #[.int .i64 t.k, .int .i64 t.n, .string (bs t.s), .int .i64 t.e, .int .i64 t.r.1, .int .i64 t.r.2.1, .bool t.r.2.2.1, .bool t.r.2.2.2, .int .i64 t.q.1, .int .i64 t.q.2.1, .bool t.q.2.2.1, .bool t.q.2.2.2, .slice pp ln cl] 26)).alloc (.cells #[.int .i64 0, .int .i64 0, .string ⟨#[]⟩, .int .i64 0, .int .i64 0, .int .i64 0, .bool false, .bool false, .int .i64 0, .int .i64 0, .bool false, .bool false, .slice none 0 0] 26)) W.heap.size (.func (.func K1) #[] c1) (.func (.func K2) #[] c2) ∧ BlkX (((W.alloc (.cells #[(.func (.func K1) #[] c1), (.func (.func K2) #[] c2)] 72)).alloc (.cells #[.int .i64 t.k, .int .i64 t.n, .string (bs t.s), .int .i64 t.e, .int .i64 t.r.1, .int .i64 t.r.2.1, .bool t.r.2.2.1, .bool t.r.2.2.2, .int .i64 t.q.1, .int .i64 t.q.2.1, .bool t.q.2.2.1, .bool t.q.2.2.2, .slice pp ln cl] 26)).alloc (.cells #[.int .i64 0, .int .i64 0, .string ⟨#[]⟩, .int .i64 0, .int .i64 0, .int .i64 0, .bool false, .bool false, .int .i64 0, .int .i64 0, .bool false, .bool false, .slice none 0 0] 26)) (W.heap.size + 1) t (.slice pp ln cl) ∧ BlkX (((W.alloc (.cells #[(.func (.func K1) #[] c1), (.func (.func K2) #[] c2)] 72)).alloc (.cells #[.int .i64 t.k, .int .i64 t.n, .string (bs t.s), .int .i64 t.e, .int .i64 t.r.1, .int .i64 t.r.2.1, .bool t.r.2.2.1, .bool t.r.2.2.2, .int .i64 t.q.1, .int .i64 t.q.2.1, .bool t.q.2.2.1, .bool t.q.2.2.2, .slice pp ln cl] 26)).alloc (.cells #[.int .i64 0, .int .i64 0, .string ⟨#[]⟩, .int .i64 0, .int .i64 0, .int .i64 0, .bool false, .bool false, .int .i64 0, .int .i64 0, .bool false, .bool false, .slice none 0 0] 26)) (W.heap.size + 1 + 1) tz (.slice none 0 0) ∧ Ext W (((W.alloc (.cells #[(.func (.func K1) #[] c1), (.func (.func K2) #[] c2)] 72)).alloc (.cells #[.int .i64 t.k, .int .i64 t.n, .string (bs t.s), .int .i64 t.e, .int .i64 t.r.1, .int .i64 t.r.2.1, .bool t.r.2.2.1, .bool t.r.2.2.2, .int .i64 t.q.1, .int .i64 t.q.2.1, .bool t.q.2.2.1, .bool t.q.2.2.2, .slice pp ln cl] 26)).alloc (.cells #[.int .i64 0, .int .i64 0, .string ⟨#[]⟩, .int .i64 0, .int .i64 0, .int .i64 0, .bool false, .bool false, .int .i64 0, .int .i64 0, .bool false, .bool false, .slice none 0 0] 26))) := ⟨blk2_top rfl (((Ext.refl _).alloc _).alloc _), blk13_top (by simp) ((Ext.refl _).alloc _), BlkX.top (by simp) (Ext.refl _), (((Ext.refl _).alloc _).alloc _).alloc _⟩
 have HZ : Hid (W.heap.size + 1 + 1 + 1 = (((W.alloc (.cells #[(.func (.func K1) #[] c1), (.func (.func K2) #[] c2)] 72)).alloc (.cells #[.int .i64 t.k, .int .i64 t.n, .string (bs t.s), .int .i64 t.e, .int .i64 t.r.1, .int .i64 t.r.2.1, .bool t.r.2.2.1, .bool t.r.2.2.2, .int .i64 t.q.1, .int .i64 t.q.2.1, .bool t.q.2.2.1, .bool t.q.2.2.2, .slice pp ln cl] 26)).alloc (.cells #[.int .i64 0, .int .i64 0, .string ⟨#[]⟩, .int .i64 0, .int .i64 0, .int .i64 0, .bool false, .bool false, .int .i64 0, .int .i64 0, .bool false, .bool false, .slice none 0 0] 26)).heap.size) := by show _ = _; simp
 generalize (((W.alloc (.cells #[(.func (.func K1) #[] c1), (.func (.func K2) #[] c2)] 72)).alloc (.cells #[.int .i64 t.k, .int .i64 t.n, .string (bs t.s), .int .i64 t.e, .int .i64 t.r.1, .int .i64 t.r.2.1, .bool t.r.2.2.1, .bool t.r.2.2.2, .int .i64 t.q.1, .int .i64 t.q.2.1, .bool t.q.2.2.1, .bool t.q.2.2.2, .slice pp ln cl] 26)).alloc (.cells #[.int .i64 0, .int .i64 0, .string ⟨#[]⟩, .int .i64 0, .int .i64 0, .int .i64 0, .bool false, .bool false, .int .i64 0, .int .i64 0, .bool false, .bool false, .slice none 0 0] 26)) = w0 at *
 have mkS : Hid (∀ V, Ext w0 V → (V.cell? ⟨W.heap.size, 0, none⟩ = some (.func (.func K1) #[] c1) ∧ V.cell? ⟨W.heap.size, 1, none⟩ = some (.func (.func K2) #[] c2)) ∧ V.cell? ⟨W.heap.size + 1, 0, none⟩ = some (.int .i64 t.k) ∧ V.cell? ⟨W.heap.size + 1, 1, none⟩ = some (.int .i64 t.n) ∧ V.cell? ⟨W.heap.size + 1, 2, none⟩ = some (.string (bs t.s)) ∧ V.cell? ⟨W.heap.size + 1, 3, none⟩ = some (.int .i64 t.e) ∧ V.cell? ⟨W.heap.size + 1, 4, none⟩ = some (.int .i64 t.r.1) ∧ V.cell? ⟨W.heap.size + 1, 5, none⟩ = some (.int .i64 t.r.2.1) ∧ V.cell? ⟨W.heap.size + 1, 6, none⟩ = some (.bool t.r.2.2.1) ∧ V.cell? ⟨W.heap.size + 1, 7, none⟩ = some (.bool t.r.2.2.2) ∧ V.cell? ⟨W.heap.size + 1, 8, none⟩ = some (.int .i64 t.q.1) ∧ V.cell? ⟨W.heap.size + 1, 9, none⟩ = some (.int .i64 t.q.2.1) ∧ V.cell? ⟨W.heap.size + 1, 10, none⟩ = some (.bool t.q.2.2.1) ∧ V.cell? ⟨W.heap.size + 1, 11, none⟩ = some (.bool t.q.2.2.2) ∧ V.cell? ⟨W.heap.size + 1, 12, none⟩ = some (.slice pp ln cl)) := fun V e => by
   obtain ⟨qn, ⟨n0, n1⟩, gn⟩ := HB.out.1.ext e
   obtain ⟨qa, ⟨la0, la1, la2, la3, la4, la5, la6, la7, la8, la9, la10, la11, la12⟩, ga⟩ := HB.out.2.1.ext e
   exact ⟨⟨n0, n1⟩, la0, la1, la2, la3, la4, la5, la6, la7, la8, la9, la10, la11, la12⟩
 refine bar_begin (B := fun i => i == 4) (S := fun V => (V.cell? ⟨W.heap.size, 0, none⟩ = some (.func (.func K1) #[] c1) ∧ V.cell? ⟨W.heap.size, 1, none⟩ = some (.func (.func K2) #[] c2)) ∧ V.cell? ⟨W.heap.size + 1, 0, none⟩ = some (.int .i64 t.k) ∧ V.cell? ⟨W.heap.size + 1, 1, none⟩ = some (.int .i64 t.n) ∧ V.cell? ⟨W.heap.size + 1, 2, none⟩ = some (.string (bs t.s)) ∧ V.cell? ⟨W.heap.size + 1, 3, none⟩ = some (.int .i64 t.e) ∧ V.cell? ⟨W.heap.size + 1, 4, none⟩ = some (.int .i64 t.r.1) ∧ V.cell? ⟨W.heap.size + 1, 5, none⟩ = some (.int .i64 t.r.2.1) ∧ V.cell? ⟨W.heap.size + 1, 6, none⟩ = some (.bool t.r.2.2.1) ∧ V.cell? ⟨W.heap.size + 1, 7, none⟩ = some (.bool t.r.2.2.2) ∧ V.cell? ⟨W.heap.size + 1, 8, none⟩ = some (.int .i64 t.q.1) ∧ V.cell? ⟨W.heap.size + 1, 9, none⟩ = some (.int .i64 t.q.2.1) ∧ V.cell? ⟨W.heap.size + 1, 10, none⟩ = some (.bool t.q.2.2.1) ∧ V.cell? ⟨W.heap.size + 1, 11, none⟩ = some (.bool t.q.2.2.2) ∧ V.cell? ⟨W.heap.size + 1, 12, none⟩ = some (.slice pp ln cl)) (by kernel_rfl) ?_
 have hS0 := mkS.out (World.drew w0) (Ext.refl _).drew
 refine bar_take (i := 0) (v := ?v0) rfl (by kernel_rfl) (by kernel_rfl) (by kernel_rfl) (by kernel_rfl) (fun _ _ _ h => h) (Or.inl ⟨by rfl, ?hy0⟩) hS0 ?rest0
 case hy0 => (intro W hSW; (try dsimp only at hSW); go_simp; with_reducible rfl)
 simp only [Act.put, List.setIfInBounds_toArray]
 refine bar_take (i := 1) (v := ?v1) rfl (by kernel_rfl) (by kernel_rfl) (by kernel_rfl) (by kernel_rfl) (fun _ _ _ h => h) (Or.inl ⟨by rfl, ?hy1⟩) hS0 ?rest1
 case hy1 => (intro W hSW; (try dsimp only at hSW); go_simp; with_reducible rfl)
 simp only [Act.put]
 clear hS0
 refine bar_one (i := 2) (by kernel_rfl) rfl (fun KK hKK => ?_)
 go_simp
 go_wp2_with (go_at_call 105; refine Calls.mono (copied_any (n + 1) t HH.out _ P pp ln cl (HI.out.ext (HB.out.2.2.2.trans (Ext.refl _).drew))) ?_; rintro e y1 ⟨p1, l1, c1, rfl, L1, E1⟩)
 have X1 : Ext w0 y1 := Ext.trans (Ext.refl _).drew E1
 have HL1 : Hid (IsL y1 (W.heap.size + 1 + 1 + 1 ≤ ·) (.slice p1 l1 c1) t.l) := L1.mono (fun k hk _ => by have h1 : (World.drew w0).heap.size ≤ k := hk; have h2 := HZ.out; have h3 : (World.drew w0).heap.size = w0.heap.size := rfl; omega)
 refine hKK.out _ _ (fun _ => mkS.out _ X1) ?_
 clear hKK KK L1 E1
 unfold aggX
 refine bar_one (i := 3) (by kernel_rfl) rfl (fun KK hKK => ?_)
 go_simp
 go_wp2_with (go_at_call 104; refine Calls.mono (reference_any t o b _ _ _ p1 l1 c1 (HR.out.ext (HB.out.2.2.2.trans X1)) h1 h2) ?_; rintro e y2 ⟨p, l, c, rfl, E2, q2⟩)
 have X2 : Ext w0 y2 := X1.trans E2
 have HL2 : Hid (IsL y2 (W.heap.size + 1 + 1 + 1 ≤ ·) (.slice p l c) (chR o t).l) := by
   rcases q2 with ⟨q1, q2, q3, q4⟩ | ⟨q1, q2⟩
   · rw [q1, q2, q3, q4]; exact HL1.out.ext E2
   · rw [q1, q2]; exact .nil
 rw [HU.out] at HL2 ⊢
 refine hKK.out _ _ (fun _ => mkS.out _ X2) ?_
 clear hKK KK E2 q2 HL1 X1
 unfold aggX
 have HB2 : Hid (BlkX y2 (W.heap.size + 1 + 1) tz (.slice none 0 0) ∧ Ext W y2) := ⟨HB.out.2.2.1.ext X2, HB.out.2.2.2.trans X2⟩
 obtain ⟨qc, ⟨lc0, lc1, lc2, lc3, lc4, lc5, lc6, lc7, lc8, lc9, lc10, lc11, lc12⟩, gc0, gc1, gc2, gc3, gc4, gc5, gc6, gc7, gc8, gc9, gc10, gc11, gc12⟩ := HB2.out.1
 clear mkS
 refine bar_one (i := 4) (by kernel_rfl) rfl (fun KK hKK => ?_)
 go_simp
 refine hKK.out _ (putX y2 (W.heap.size + 1 + 1) u (.slice p l c)) (fun h => absurd h (by decide)) ?_
 clear hKK KK
 refine bar_done (by kernel_rfl) ?_ _
 go_wp2_with fail
 rw [HX.out]
 exact endR (HB2.out.1.put (u) (.slice p l c)) rfl ⟨p, l, c, rfl, (putX_L HL2.out (fun k hk => by have hk2 : W.heap.size + 1 + 1 + 1 ≤ k := hk; omega)).mono (fun k hk _ => by have hk2 : W.heap.size + 1 + 1 + 1 ≤ k := hk; omega), putX_E HB2.out.2 (by omega) _ _⟩ (fun h0 h1 h2 h3 h4 h5 h6 h7 h8 h9 h10 h11 h12 => by simp [results, Try.results86, go_sem, h0, h1, h2, h3, h4, h5, h6, h7, h8, h9, h10, h11, h12, aggX])
set_option maxRecDepth 100000 in
theorem mtree_5 (o : Int → Int) (b : Int → Int → Int × Int × Bool) (n : Nat) (t : T) (hr : Hr (n + 1) t) (hk : t.k = 5) : MtC o b (n + 1) t := by
 intro v1 v2 W P pp ln cl hR hL hw
 have HX : Hid (mpT (chE o b) (n + 1) t = chA b t) := by show _ = _; rw [mpT_leaf _ n t (by rw [hk]; rfl)]; unfold chE; rw [if_neg (by omega), if_pos hk]
 obtain ⟨⟨h1, h2⟩, h3, h4⟩ := area_on hw hk
 have HR : Hid (RwC W v1 v2 o b) := hR
 have HI : Hid (IsL W P (.slice pp ln cl) t.l) := hL
 have HH : Hid (Hr (n + 1) t) := hr
 obtain ⟨K1, c1, K2, c2, rfl, rfl⟩ := func_cell hR
 have e4 : (t.k == 4) = false := by rw [hk]; rfl
 have e5 : (t.k == 5) = true := by rw [hk]; rfl
 have e6 : (t.k == 6) = false := by rw [hk]; rfl
 have e7 : (t.k == 7) = false := by rw [hk]; rfl
 have e8 : (t.k == 8) = false := by rw [hk]; rfl
 obtain ⟨u, hu⟩ : ∃ u, chA b t = u := ⟨_, rfl⟩
 have HU : Hid (chA b t = u) := hu
 rw [hu] at HX
 clear hL hr hw hR hk hu
 go_enter Try.func86, Try.ntmps86
 go_wp2_with fail
 have HB : Hid (Blk2 (((W.alloc (.cells #[(.func (.func K1) #[] c1), (.func (.func K2) #[] c2)] 72)).alloc (.cells #[.int .i64 t.k, .int .i64 t.n, .string (bs t.s), .int .i64 t.e, .int .i64 t.r.1, .int .i64 t.r.2.1, .bool t.r.2.2.1, .bool t.r.2.2.2, .int .i64 t.q.1, .int .i64 t.q.2.1, .bool t.q.2.2.1, .bool t.q.2.2.2, .slice pp ln cl] 26)).alloc (.cells #[.int .i64 0, .int .i64 0, .string ⟨#[]⟩, .int .i64 0, .int .i64 0, .int .i64 0, .bool false, .bool false, .int .i64 0, .int .i64 0, .bool false, .bool false, .slice none 0 0] 26)) W.heap.size (.func (.func K1) #[] c1) (.func (.func K2) #[] c2) ∧ BlkX (((W.alloc (.cells #[(.func (.func K1) #[] c1), (.func (.func K2) #[] c2)] 72)).alloc (.cells #[.int .i64 t.k, .int .i64 t.n, .string (bs t.s), .int .i64 t.e, .int .i64 t.r.1, .int .i64 t.r.2.1, .bool t.r.2.2.1, .bool t.r.2.2.2, .int .i64 t.q.1, .int .i64 t.q.2.1, .bool t.q.2.2.1, .bool t.q.2.2.2, .slice pp ln cl] 26)).alloc (.cells #[.int .i64 0, .int .i64 0, .string ⟨#[]⟩, .int .i64 0, .int .i64 0, .int .i64 0, .bool false, .bool false, .int .i64 0, .int .i64 0, .bool false, .bool false, .slice none 0 0] 26)) (W.heap.size + 1) t (.slice pp ln cl) ∧ BlkX (((W.alloc (.cells #[(.func (.func K1) #[] c1), (.func (.func K2) #[] c2)] 72)).alloc (.cells #[.int .i64 t.k, .int .i64 t.n, .string (bs t.s), .int .i64 t.e, .int .i64 t.r.1, .int .i64 t.r.2.1, .bool t.r.2.2.1, .bool t.r.2.2.2, .int .i64 t.q.1, .int .i64 t.q.2.1, .bool t.q.2.2.1, .bool t.q.2.2.2, .slice pp ln cl] 26)).alloc (.cells #[.int .i64 0, .int .i64 0, .string ⟨#[]⟩, .int .i64 0, .int .i64 0, .int .i64 0, .bool false, .bool false, .int .i64 0, .int .i64 0, .bool false, .bool false, .slice none 0 0] 26)) (W.heap.size + 1 + 1) tz (.slice none 0 0) ∧ Ext W (((W.alloc (.cells #[(.func (.func K1) #[] c1), (.func (.func K2) #[] c2)] 72)).alloc (.cells #[.int .i64 t.k, .int .i64 t.n, .string (bs t.s), .int .i64 t.e, .int .i64 t.r.1, .int .i64 t.r.2.1, .bool t.r.2.2.1, .bool t.r.2.2.2, .int .i64 t.q.1, .int .i64 t.q.2.1, .bool t.q.2.2.1, .bool t.q.2.2.2, .slice pp ln cl] 26)).alloc (.cells #[.int .i64 0, .int .i64 0, .string ⟨#[]⟩, .int .i64 0, .int .i64 0, .int .i64 0, .bool false, .bool false, .int .i64 0, .int .i64 0, .bool false, .bool false, .slice none 0 0] 26))) := ⟨blk2_top rfl (((Ext.refl _).alloc _).alloc _), blk13_top (by simp) ((Ext.refl _).alloc _), BlkX.top (by simp) (Ext.refl _), (((Ext.refl _).alloc _).alloc _).alloc _⟩
 have HZ : Hid (W.heap.size + 1 + 1 + 1 = (((W.alloc (.cells #[(.func (.func K1) #[] c1), (.func (.func K2) #[] c2)] 72)).alloc (.cells #[.int .i64 t.k, .int .i64 t.n, .string (bs t.s), .int .i64 t.e, .int .i64 t.r.1, .int .i64 t.r.2.1, .bool t.r.2.2.1, .bool t.r.2.2.2, .int .i64 t.q.1, .int .i64 t.q.2.1, .bool t.q.2.2.1, .bool t.q.2.2.2, .slice pp ln cl] 26)).alloc (.cells #[.int .i64 0, .int .i64 0, .string ⟨#[]⟩, .int .i64 0, .int .i64 0, .int .i64 0, .bool false, .bool false, .int .i64 0, .int .i64 0, .bool false, .bool false, .slice none 0 0] 26)).heap.size) := by show _ = _; simp
 generalize (((W.alloc (.cells #[(.func (.func K1) #[] c1), (.func (.func K2) #[] c2)] 72)).alloc (.cells #[.int .i64 t.k, .int .i64 t.n, .string (bs t.s), .int .i64 t.e, .int .i64 t.r.1, .int .i64 t.r.2.1, .bool t.r.2.2.1, .bool t.r.2.2.2, .int .i64 t.q.1, .int .i64 t.q.2.1, .bool t.q.2.2.1, .bool t.q.2.2.2, .slice pp ln cl] 26)).alloc (.cells #[.int .i64 0, .int .i64 0, .string ⟨#[]⟩, .int .i64 0, .int .i64 0, .int .i64 0, .bool false, .bool false, .int .i64 0, .int .i64 0, .bool false, .bool false, .slice none 0 0] 26)) = w0 at *
 have mkS : Hid (∀ V, Ext w0 V → (V.cell? ⟨W.heap.size, 0, none⟩ = some (.func (.func K1) #[] c1) ∧ V.cell? ⟨W.heap.size, 1, none⟩ = some (.func (.func K2) #[] c2)) ∧ V.cell? ⟨W.heap.size + 1, 0, none⟩ = some (.int .i64 t.k) ∧ V.cell? ⟨W.heap.size + 1, 1, none⟩ = some (.int .i64 t.n) ∧ V.cell? ⟨W.heap.size + 1, 2, none⟩ = some (.string (bs t.s)) ∧ V.cell? ⟨W.heap.size + 1, 3, none⟩ = some (.int .i64 t.e) ∧ V.cell? ⟨W.heap.size + 1, 4, none⟩ = some (.int .i64 t.r.1) ∧ V.cell? ⟨W.heap.size + 1, 5, none⟩ = some (.int .i64 t.r.2.1) ∧ V.cell? ⟨W.heap.size + 1, 6, none⟩ = some (.bool t.r.2.2.1) ∧ V.cell? ⟨W.heap.size + 1, 7, none⟩ = some (.bool t.r.2.2.2) ∧ V.cell? ⟨W.heap.size + 1, 8, none⟩ = some (.int .i64 t.q.1) ∧ V.cell? ⟨W.heap.size + 1, 9, none⟩ = some (.int .i64 t.q.2.1) ∧ V.cell? ⟨W.heap.size + 1, 10, none⟩ = some (.bool t.q.2.2.1) ∧ V.cell? ⟨W.heap.size + 1, 11, none⟩ = some (.bool t.q.2.2.2) ∧ V.cell? ⟨W.heap.size + 1, 12, none⟩ = some (.slice pp ln cl)) := fun V e => by
   obtain ⟨qn, ⟨n0, n1⟩, gn⟩ := HB.out.1.ext e
   obtain ⟨qa, ⟨la0, la1, la2, la3, la4, la5, la6, la7, la8, la9, la10, la11, la12⟩, ga⟩ := HB.out.2.1.ext e
   exact ⟨⟨n0, n1⟩, la0, la1, la2, la3, la4, la5, la6, la7, la8, la9, la10, la11, la12⟩
 refine bar_begin (B := fun i => i == 4) (S := fun V => (V.cell? ⟨W.heap.size, 0, none⟩ = some (.func (.func K1) #[] c1) ∧ V.cell? ⟨W.heap.size, 1, none⟩ = some (.func (.func K2) #[] c2)) ∧ V.cell? ⟨W.heap.size + 1, 0, none⟩ = some (.int .i64 t.k) ∧ V.cell? ⟨W.heap.size + 1, 1, none⟩ = some (.int .i64 t.n) ∧ V.cell? ⟨W.heap.size + 1, 2, none⟩ = some (.string (bs t.s)) ∧ V.cell? ⟨W.heap.size + 1, 3, none⟩ = some (.int .i64 t.e) ∧ V.cell? ⟨W.heap.size + 1, 4, none⟩ = some (.int .i64 t.r.1) ∧ V.cell? ⟨W.heap.size + 1, 5, none⟩ = some (.int .i64 t.r.2.1) ∧ V.cell? ⟨W.heap.size + 1, 6, none⟩ = some (.bool t.r.2.2.1) ∧ V.cell? ⟨W.heap.size + 1, 7, none⟩ = some (.bool t.r.2.2.2) ∧ V.cell? ⟨W.heap.size + 1, 8, none⟩ = some (.int .i64 t.q.1) ∧ V.cell? ⟨W.heap.size + 1, 9, none⟩ = some (.int .i64 t.q.2.1) ∧ V.cell? ⟨W.heap.size + 1, 10, none⟩ = some (.bool t.q.2.2.1) ∧ V.cell? ⟨W.heap.size + 1, 11, none⟩ = some (.bool t.q.2.2.2) ∧ V.cell? ⟨W.heap.size + 1, 12, none⟩ = some (.slice pp ln cl)) (by kernel_rfl) ?_
 have hS0 := mkS.out (World.drew w0) (Ext.refl _).drew
 refine bar_take (i := 0) (v := ?v0) rfl (by kernel_rfl) (by kernel_rfl) (by kernel_rfl) (by kernel_rfl) (fun _ _ _ h => h) (Or.inl ⟨by rfl, ?hy0⟩) hS0 ?rest0
 case hy0 => (intro W hSW; (try dsimp only at hSW); go_simp; with_reducible rfl)
 simp only [Act.put, List.setIfInBounds_toArray]
 refine bar_take (i := 1) (v := ?v1) rfl (by kernel_rfl) (by kernel_rfl) (by kernel_rfl) (by kernel_rfl) (fun _ _ _ h => h) (Or.inl ⟨by rfl, ?hy1⟩) hS0 ?rest1
 case hy1 => (intro W hSW; (try dsimp only at hSW); go_simp; with_reducible rfl)
 simp only [Act.put]
 clear hS0
 refine bar_one (i := 2) (by kernel_rfl) rfl (fun KK hKK => ?_)
 go_simp
 go_wp2_with (go_at_call 105; refine Calls.mono (copied_any (n + 1) t HH.out _ P pp ln cl (HI.out.ext (HB.out.2.2.2.trans (Ext.refl _).drew))) ?_; rintro e y1 ⟨p1, l1, c1, rfl, L1, E1⟩)
 have X1 : Ext w0 y1 := Ext.trans (Ext.refl _).drew E1
 have HL1 : Hid (IsL y1 (W.heap.size + 1 + 1 + 1 ≤ ·) (.slice p1 l1 c1) t.l) := L1.mono (fun k hk _ => by have h1 : (World.drew w0).heap.size ≤ k := hk; have h2 := HZ.out; have h3 : (World.drew w0).heap.size = w0.heap.size := rfl; omega)
 refine hKK.out _ _ (fun _ => mkS.out _ X1) ?_
 clear hKK KK L1 E1
 unfold aggX
 refine bar_one (i := 3) (by kernel_rfl) rfl (fun KK hKK => ?_)
 go_simp
 go_wp2_with (go_at_call 106; refine Calls.mono (area_any t o b _ _ _ p1 l1 c1 (HR.out.ext (HB.out.2.2.2.trans X1)) h1 h2 h3 h4) ?_; rintro e y2 ⟨p, l, c, rfl, E2, q2⟩)
 have X2 : Ext w0 y2 := X1.trans E2
 have HL2 : Hid (IsL y2 (W.heap.size + 1 + 1 + 1 ≤ ·) (.slice p l c) (chA b t).l) := by
   rcases q2 with ⟨q1, q2, q3, q4⟩ | ⟨q1, q2⟩
   · rw [q1, q2, q3, q4]; exact HL1.out.ext E2
   · rw [q1, q2]; exact .nil
 rw [HU.out] at HL2 ⊢
 refine hKK.out _ _ (fun _ => mkS.out _ X2) ?_
 clear hKK KK E2 q2 HL1 X1
 unfold aggX
 have HB2 : Hid (BlkX y2 (W.heap.size + 1 + 1) tz (.slice none 0 0) ∧ Ext W y2) := ⟨HB.out.2.2.1.ext X2, HB.out.2.2.2.trans X2⟩
 obtain ⟨qc, ⟨lc0, lc1, lc2, lc3, lc4, lc5, lc6, lc7, lc8, lc9, lc10, lc11, lc12⟩, gc0, gc1, gc2, gc3, gc4, gc5, gc6, gc7, gc8, gc9, gc10, gc11, gc12⟩ := HB2.out.1
 clear mkS
 refine bar_one (i := 4) (by kernel_rfl) rfl (fun KK hKK => ?_)
 go_simp
 refine hKK.out _ (putX y2 (W.heap.size + 1 + 1) u (.slice p l c)) (fun h => absurd h (by decide)) ?_
 clear hKK KK
 refine bar_done (by kernel_rfl) ?_ _
 go_wp2_with fail
 rw [HX.out]
 exact endR (HB2.out.1.put (u) (.slice p l c)) rfl ⟨p, l, c, rfl, (putX_L HL2.out (fun k hk => by have hk2 : W.heap.size + 1 + 1 + 1 ≤ k := hk; omega)).mono (fun k hk _ => by have hk2 : W.heap.size + 1 + 1 + 1 ≤ k := hk; omega), putX_E HB2.out.2 (by omega) _ _⟩ (fun h0 h1 h2 h3 h4 h5 h6 h7 h8 h9 h10 h11 h12 => by simp [results, Try.results86, go_sem, h0, h1, h2, h3, h4, h5, h6, h7, h8, h9, h10, h11, h12, aggX])
set_option maxRecDepth 100000 in
theorem mtree_0 (o : Int → Int) (b : Int → Int → Int × Int × Bool) (n : Nat) (t : T) (hr : Hr (n + 1) t) (hk : ¬ (t.k = 6 ∨ t.k = 7 ∨ t.k = 8)) (hk4 : ¬ t.k = 4) (hk5 : ¬ t.k = 5) : MtC o b (n + 1) t := by
 intro v1 v2 W P pp ln cl hR hL hw
 have HX : Hid (mpT (chE o b) (n + 1) t = t) := by show _ = _; rw [mpT_leaf _ n t (by unfold prB; simpa using hk)]; unfold chE; rw [if_neg hk4, if_neg hk5]
 obtain ⟨K1, c1, K2, c2, rfl, rfl⟩ := func_cell hR
 have HC := copied_any (n + 1) t hr (((W.alloc (.cells #[(.func (.func K1) #[] c1), (.func (.func K2) #[] c2)] 72)).alloc (.cells #[.int .i64 t.k, .int .i64 t.n, .string (bs t.s), .int .i64 t.e, .int .i64 t.r.1, .int .i64 t.r.2.1, .bool t.r.2.2.1, .bool t.r.2.2.2, .int .i64 t.q.1, .int .i64 t.q.2.1, .bool t.q.2.2.1, .bool t.q.2.2.2, .slice pp ln cl] 26)).alloc (.cells #[.int .i64 0, .int .i64 0, .string ⟨#[]⟩, .int .i64 0, .int .i64 0, .int .i64 0, .bool false, .bool false, .int .i64 0, .int .i64 0, .bool false, .bool false, .slice none 0 0] 26)) P pp ln cl (hL.ext ((((Ext.refl _).alloc _).alloc _).alloc _))
 have e4 : (t.k == 4) = false := by simpa using hk4
 have e5 : (t.k == 5) = false := by simpa using hk5
 have e6 : (t.k == 6) = false := by simp; omega
 have e7 : (t.k == 7) = false := by simp; omega
 have e8 : (t.k == 8) = false := by simp; omega
 clear hL hr hw hR hk hk4 hk5
 go_enter Try.func86, Try.ntmps86
 go_wp2_with fail
 have HB : Hid (Blk2 (((W.alloc (.cells #[(.func (.func K1) #[] c1), (.func (.func K2) #[] c2)] 72)).alloc (.cells #[.int .i64 t.k, .int .i64 t.n, .string (bs t.s), .int .i64 t.e, .int .i64 t.r.1, .int .i64 t.r.2.1, .bool t.r.2.2.1, .bool t.r.2.2.2, .int .i64 t.q.1, .int .i64 t.q.2.1, .bool t.q.2.2.1, .bool t.q.2.2.2, .slice pp ln cl] 26)).alloc (.cells #[.int .i64 0, .int .i64 0, .string ⟨#[]⟩, .int .i64 0, .int .i64 0, .int .i64 0, .bool false, .bool false, .int .i64 0, .int .i64 0, .bool false, .bool false, .slice none 0 0] 26)) W.heap.size (.func (.func K1) #[] c1) (.func (.func K2) #[] c2) ∧ BlkX (((W.alloc (.cells #[(.func (.func K1) #[] c1), (.func (.func K2) #[] c2)] 72)).alloc (.cells #[.int .i64 t.k, .int .i64 t.n, .string (bs t.s), .int .i64 t.e, .int .i64 t.r.1, .int .i64 t.r.2.1, .bool t.r.2.2.1, .bool t.r.2.2.2, .int .i64 t.q.1, .int .i64 t.q.2.1, .bool t.q.2.2.1, .bool t.q.2.2.2, .slice pp ln cl] 26)).alloc (.cells #[.int .i64 0, .int .i64 0, .string ⟨#[]⟩, .int .i64 0, .int .i64 0, .int .i64 0, .bool false, .bool false, .int .i64 0, .int .i64 0, .bool false, .bool false, .slice none 0 0] 26)) (W.heap.size + 1) t (.slice pp ln cl) ∧ BlkX (((W.alloc (.cells #[(.func (.func K1) #[] c1), (.func (.func K2) #[] c2)] 72)).alloc (.cells #[.int .i64 t.k, .int .i64 t.n, .string (bs t.s), .int .i64 t.e, .int .i64 t.r.1, .int .i64 t.r.2.1, .bool t.r.2.2.1, .bool t.r.2.2.2, .int .i64 t.q.1, .int .i64 t.q.2.1, .bool t.q.2.2.1, .bool t.q.2.2.2, .slice pp ln cl] 26)).alloc (.cells #[.int .i64 0, .int .i64 0, .string ⟨#[]⟩, .int .i64 0, .int .i64 0, .int .i64 0, .bool false, .bool false, .int .i64 0, .int .i64 0, .bool false, .bool false, .slice none 0 0] 26)) (W.heap.size + 1 + 1) tz (.slice none 0 0) ∧ Ext W (((W.alloc (.cells #[(.func (.func K1) #[] c1), (.func (.func K2) #[] c2)] 72)).alloc (.cells #[.int .i64 t.k, .int .i64 t.n, .string (bs t.s), .int .i64 t.e, .int .i64 t.r.1, .int .i64 t.r.2.1, .bool t.r.2.2.1, .bool t.r.2.2.2, .int .i64 t.q.1, .int .i64 t.q.2.1, .bool t.q.2.2.1, .bool t.q.2.2.2, .slice pp ln cl] 26)).alloc (.cells #[.int .i64 0, .int .i64 0, .string ⟨#[]⟩, .int .i64 0, .int .i64 0, .int .i64 0, .bool false, .bool false, .int .i64 0, .int .i64 0, .bool false, .bool false, .slice none 0 0] 26))) := ⟨blk2_top rfl (((Ext.refl _).alloc _).alloc _), blk13_top (by simp) ((Ext.refl _).alloc _), BlkX.top (by simp) (Ext.refl _), (((Ext.refl _).alloc _).alloc _).alloc _⟩
 refine HC.mono ?_
 rintro e w1 ⟨p, l, c, rfl, L1, E1⟩
 replace HB : Hid (Blk2 w1 W.heap.size (.func (.func K1) #[] c1) (.func (.func K2) #[] c2) ∧ BlkX w1 (W.heap.size + 1) t (.slice pp ln cl) ∧ BlkX w1 (W.heap.size + 1 + 1) tz (.slice none 0 0) ∧ Ext W w1) := ⟨HB.out.1.ext E1, HB.out.2.1.ext E1, HB.out.2.2.1.ext E1, HB.out.2.2.2.trans E1⟩
 have HL1 : Hid (IsL w1 (W.heap.size + 1 + 1 + 1 ≤ ·) (.slice p l c) t.l) := L1.mono (fun k hk _ => by have : (((W.alloc (.cells #[(.func (.func K1) #[] c1), (.func (.func K2) #[] c2)] 72)).alloc (.cells #[.int .i64 t.k, .int .i64 t.n, .string (bs t.s), .int .i64 t.e, .int .i64 t.r.1, .int .i64 t.r.2.1, .bool t.r.2.2.1, .bool t.r.2.2.2, .int .i64 t.q.1, .int .i64 t.q.2.1, .bool t.q.2.2.1, .bool t.q.2.2.2, .slice pp ln cl] 26)).alloc (.cells #[.int .i64 0, .int .i64 0, .string ⟨#[]⟩, .int .i64 0, .int .i64 0, .int .i64 0, .bool false, .bool false, .int .i64 0, .int .i64 0, .bool false, .bool false, .slice none 0 0] 26)).heap.size ≤ k := hk; simp at this; omega)
 clear E1 L1 HC
 obtain ⟨qn, ⟨n0, n1⟩, m0, m1⟩ := HB.out.1
 obtain ⟨qa, ⟨la0, la1, la2, la3, la4, la5, la6, la7, la8, la9, la10, la11, la12⟩, ga0, ga1, ga2, ga3, ga4, ga5, ga6, ga7, ga8, ga9, ga10, ga11, ga12⟩ := HB.out.2.1
 obtain ⟨qc, ⟨lc0, lc1, lc2, lc3, lc4, lc5, lc6, lc7, lc8, lc9, lc10, lc11, lc12⟩, gc0, gc1, gc2, gc3, gc4, gc5, gc6, gc7, gc8, gc9, gc10, gc11, gc12⟩ := HB.out.2.2.1
 have hz : W.heap.size + 1 + 1 < w1.heap.size := qc
 unfold aggX
 go_wp2_with fail
 show bodyPost Try.prog _ _ _ _ (putX w1 (W.heap.size + 1 + 1) (t) (.slice p l c))
 rw [HX.out]
 exact endR (HB.out.2.2.1.put (t) (.slice p l c)) rfl ⟨p, l, c, rfl, (putX_L HL1.out (fun k hk => by have hk2 : W.heap.size + 1 + 1 + 1 ≤ k := hk; omega)).mono (fun k hk _ => by have hk2 : W.heap.size + 1 + 1 + 1 ≤ k := hk; omega), putX_E HB.out.2.2.2 (by omega) _ _⟩ (fun h0 h1 h2 h3 h4 h5 h6 h7 h8 h9 h10 h11 h12 => by simp [results, Try.results86, go_sem, h0, h1, h2, h3, h4, h5, h6, h7, h8, h9, h10, h11, h12, aggX])
theorem mtree_any (o : Int → Int) (b : Int → Int → Int × Int × Bool) (n : Nat) : ∀ t : T, Hr n t → MtC o b n t := by
 induction n with
 | zero => intro t h; cases h
 | succ n ih =>
   intro t hr
   by_cases hp : t.k = 6 ∨ t.k = 7 ∨ t.k = 8
   · exact mtree_n o b n t hr (fun x _ => ih x) hp
   by_cases h4 : t.k = 4
   · exact mtree_4 o b n t hr h4
   by_cases h5 : t.k = 5
   · exact mtree_5 o b n t hr h5
   · exact mtree_0 o b n t hr hp h4 h5
end Go.Proofs.Ytcggiljlilbdfaa

/-
 all, by whichever answer; towards Well of any tree.
 Well of any tree.
 Package rel: a formula seen from its place, and back; as it is filled.
-/
import Derived.Test.YtcggiljlilbdfaaV30
import Derived.Test.YtcggiljlilbdfaaV11
import Derived.Test.YtcggiljlilbdfaaV22
namespace Go.Proofs.Ytcggiljlilbdfaa
open Go.RowKit
set_option maxHeartbeats 6000000

theorem allx_take {l : List T} {g : T → Bool} {j : Nat} {x : T} (h : l[j]? = some x) : (l.take (j + 1)).all g = ((l.take j).all g && g x) := by
 rw [List.take_add_one, h, List.all_append]; simp
set_option maxRecDepth 100000 in
theorem all_any (K : FuncId) (P : Nat → Prop) (g : T → Bool) (l : List T) (pp : Option Addr) (ln cl : Nat) (w : World) (hl : l.length ≤ 100000) (hent : ∀ args W, (callFunc K args).run Try.prog W = .ok (.enter K args) W) (hx : ∀ x ∈ l, ATr K P g x) (h : IsL w P (.slice pp ln cl) l) :
   Calls Try.prog 78 #[.slice pp ln cl, .func (.func K) #[] #[]] w fun e w' => e = .returned (.bool (l.all g)) ∧ Ext w w' := by
 have hln : ln = l.length := by
   obtain ⟨p, c, h1, _⟩ := h.form
   cases h1; rfl
 have HX : Hid (∀ x ∈ l, ATr K P g x) := hx
 have HI : Hid (IsL w P (.slice pp ln cl) l) := h
 have HLN : Hid (ln = l.length) := hln
 have hl2 : ln ≤ 100000 := by omega
 clear hx h hln hl
 go_enter Try.func78, Try.ntmps78
 go_wp2_with fail
 go_loopw [6, 9] (fun _ i wr => ∃ j : Nat, j ≤ ln ∧ i = .int .i64 (j : Int) ∧ (l.take j).all g = true ∧ Ext w wr) (fun _ i _ => ln - (intOf i).toNat)
 case atStart => exact ⟨0, Nat.zero_le _, rfl, rfl, Ext.refl _⟩
 case round =>
   obtain ⟨j, hj, rfl, hg, hE⟩ := hrel
   have HE : Hid (Ext w wr ∧ (l.take j).all g = true) := ⟨hE, hg⟩
   clear hE hg
   by_cases hlt : j < ln
   · have hltI : (j : Int) < (ln : Int) := by omega
     have hI := HI.out.ext HE.out.1
     obtain ⟨gb, off, x, lv, hpp, hx1, hA1, hgb, hA2, hLx, hce⟩ := hI.at (i := j) (by rw [← HLN.out]; exact hlt)
     clear hA1 hA2
     subst hpp
     obtain ⟨pp, cl', hlv, hcl⟩ := hLx.form
     obtain ⟨ln', hln'⟩ : ∃ ln', x.l.length = ln' := ⟨_, rfl⟩
     rw [hln'] at hlv
     subst hlv
     have HX1 : Hid (l[j]? = some x) := hx1
     have HC : Hid (Calls Try.prog K #[.agg #[.int .i64 x.k, .int .i64 x.n, .string (bs x.s), .int .i64 x.e, .int .i64 x.r.1, .int .i64 x.r.2.1, .bool x.r.2.2.1, .bool x.r.2.2.2, .int .i64 x.q.1, .int .i64 x.q.2.1, .bool x.q.2.2.1, .bool x.q.2.2.2, .slice pp ln' cl']] (wr.alloc (.cells #[.int .i64 x.k, .int .i64 x.n, .string (bs x.s), .int .i64 x.e, .int .i64 x.r.1, .int .i64 x.r.2.1, .bool x.r.2.2.1, .bool x.r.2.2.2, .int .i64 x.q.1, .int .i64 x.q.2.1, .bool x.q.2.2.1, .bool x.q.2.2.2, .slice pp ln' cl'] 26)) fun e w' => e = .returned (.bool (g x)) ∧ Ext (wr.alloc (.cells #[.int .i64 x.k, .int .i64 x.n, .string (bs x.s), .int .i64 x.e, .int .i64 x.r.1, .int .i64 x.r.2.1, .bool x.r.2.2.1, .bool x.r.2.2.2, .int .i64 x.q.1, .int .i64 x.q.2.1, .bool x.q.2.2.1, .bool x.q.2.2.2, .slice pp ln' cl'] 26)) w') := HX.out x (List.mem_of_getElem? hx1) _ pp ln' cl' (hLx.ext ((Ext.refl _).alloc _))
     have e0 : wr.cell? ⟨gb, off + j * 13, none⟩ = some (.int .i64 x.k) := hce 0 _ rfl
     have e1 : wr.cell? ⟨gb, off + j * 13 + 1, none⟩ = some (.int .i64 x.n) := hce 1 _ rfl
     have e2 : wr.cell? ⟨gb, off + j * 13 + 2, none⟩ = some (.string (bs x.s)) := hce 2 _ rfl
     have e3 : wr.cell? ⟨gb, off + j * 13 + 3, none⟩ = some (.int .i64 x.e) := hce 3 _ rfl
     have e4 : wr.cell? ⟨gb, off + j * 13 + 4, none⟩ = some (.int .i64 x.r.1) := hce 4 _ rfl
     have e5 : wr.cell? ⟨gb, off + j * 13 + 5, none⟩ = some (.int .i64 x.r.2.1) := hce 5 _ rfl
     have e6 : wr.cell? ⟨gb, off + j * 13 + 6, none⟩ = some (.bool x.r.2.2.1) := hce 6 _ rfl
     have e7 : wr.cell? ⟨gb, off + j * 13 + 7, none⟩ = some (.bool x.r.2.2.2) := hce 7 _ rfl
     have e8 : wr.cell? ⟨gb, off + j * 13 + 8, none⟩ = some (.int .i64 x.q.1) := hce 8 _ rfl
     have e9 : wr.cell? ⟨gb, off + j * 13 + 9, none⟩ = some (.int .i64 x.q.2.1) := hce 9 _ rfl
     have e10 : wr.cell? ⟨gb, off + j * 13 + 10, none⟩ = some (.bool x.q.2.2.1) := hce 10 _ rfl
     have e11 : wr.cell? ⟨gb, off + j * 13 + 11, none⟩ = some (.bool x.q.2.2.2) := hce 11 _ rfl
     have e12 : wr.cell? ⟨gb, off + j * 13 + 12, none⟩ = some (.slice pp ln' cl') := hce 12 _ rfl
     clear hI hx1 hLx hce hcl hln'
     go_wp2_with fail
     refine HC.out.mono ?_
     rintro e w1 ⟨rfl, E1⟩
     have HE1 : Hid (Ext w w1) := (HE.out.1.alloc _).trans E1
     clear E1 e0 e1 e2 e3 e4 e5 e6 e7 e8 e9 e10 e11 e12
     cases hgx : g x
     · have HR : Hid (l.all g = false) := by
         show _ = _
         rw [List.all_eq_false]
         exact ⟨x, List.mem_of_getElem? HX1.out, by rw [hgx]; simp⟩
       clear hgx
       go_wp2_with fail
       go_ret
       exact ⟨ret_bool HR.out.symm, HE1.out⟩
     · have HR : Hid ((l.take (j + 1)).all g = true) := by show _ = _; rw [allx_take HX1.out, HE.out.2, hgx]; rfl
       clear hgx
       go_wp2_with fail
       go_roundw
       case rel => exact ⟨j + 1, by omega, by go_num, HR.out, HE1.out⟩
       case measure => show ln - ((j : Int) + 1).toNat < ln - ((j : Int)).toNat; omega
   · have hltI : ¬ (j : Int) < (ln : Int) := by omega
     have HR : Hid (l.all g = true) := by
       show _ = _
       have := HE.out.2
       rw [List.take_of_length_le (by have := HLN.out; omega)] at this
       exact this
     go_wp2_with fail
     go_ret
     exact ⟨ret_bool HR.out.symm, HE.out.1⟩
/-! ### Well -/
set_option maxRecDepth 100000 in
theorem isArg_any (P : Nat → Prop) (n : Nat) (t : T) (hw : ATr 46 P (wellT n) t) : ATr 81 P (argT n) t := by
 intro W pp ln cl h
 by_cases k5 : t.k = 5
 · have e5 : (t.k == 5) = true := by rw [k5]; rfl
   have HX : Hid (argT n t = (inB t.r.1 t.r.2.1 && inB t.q.1 t.q.2.1)) := by show _ = _; unfold argT; rw [if_pos k5]
   have c1 := fun W => isIn_any t.r.1 t.r.2.1 t.r.2.2.1 t.r.2.2.2 W
   have c2 := fun W => isIn_any t.q.1 t.q.2.1 t.q.2.2.1 t.q.2.2.2 W
   clear k5 hw h
   cases h1 : inB t.r.1 t.r.2.1
   · rw [h1] at c1 HX
     clear h1
     go_enter Try.func81, Try.ntmps81
     go_wp2_with fail
     refine (c1 _).mono ?_
     rintro e w1 ⟨rfl, E1⟩
     have HE : Hid (Ext W w1) := ((Ext.refl _).alloc _).trans E1
     clear E1
     go_wp2_with fail
     go_ret
     exact ⟨ret_bool (by rw [HX.out]; rfl), HE.out⟩
   · rw [h1] at c1 HX
     clear h1
     go_enter Try.func81, Try.ntmps81
     go_wp2_with fail
     refine (c1 _).mono ?_
     rintro e w1 ⟨rfl, E1⟩
     have HE : Hid (Ext W w1) := ((Ext.refl _).alloc _).trans E1
     have hB := blk13_top rfl E1
     obtain ⟨q0, ⟨l0, l1, l2, l3, l4, l5, l6, l7, l8, l9, l10, l11, l12⟩, gg⟩ := hB
     clear E1 gg
     go_wp2_with fail
     refine (c2 _).mono ?_
     rintro e w2 ⟨rfl, E2⟩
     have HE2 : Hid (Ext W w2) := HE.out.trans E2
     clear E2
     go_wp2_with fail
     go_ret
     exact ⟨ret_bool (by rw [HX.out]; rfl), HE2.out⟩
 · have e5 : (t.k == 5) = false := by simpa using k5
   have HX : Hid (argT n t = wellT n t) := by show _ = _; unfold argT; rw [if_neg k5]
   have HW : Hid (∀ W', Ext W W' → Calls Try.prog 46 #[.agg #[.int .i64 t.k, .int .i64 t.n, .string (bs t.s), .int .i64 t.e, .int .i64 t.r.1, .int .i64 t.r.2.1, .bool t.r.2.2.1, .bool t.r.2.2.2, .int .i64 t.q.1, .int .i64 t.q.2.1, .bool t.q.2.2.1, .bool t.q.2.2.2, .slice pp ln cl]] W' fun e w' => e = .returned (.bool (wellT n t)) ∧ Ext W' w') := fun W' e => hw W' pp ln cl (h.ext e)
   clear k5 hw h
   go_enter Try.func81, Try.ntmps81
   go_wp2_with fail
   refine (HW.out _ ((Ext.refl _).alloc _)).mono ?_
   rintro e w1 ⟨rfl, E1⟩
   have HE : Hid (Ext W w1) := ((Ext.refl _).alloc _).trans E1
   clear E1
   go_wp2_with fail
   go_ret
   exact ⟨ret_bool HX.out.symm, HE.out⟩

open Go.RowKit
set_option maxHeartbeats 6000000

set_option maxRecDepth 100000 in
theorem well_leaf (P : Nat → Prop) (n : Nat) (t : T) (hk6 : t.k ≠ 6) (hk7 : t.k ≠ 7) (hk8 : t.k ≠ 8) : ATr 46 P (wellT (n + 1)) t := by
 intro W pp ln cl _
 by_cases hk : t.k = 0
 · have e0 : (t.k == 0) = true := by rw [hk]; rfl
   have HX : Hid (wellT (n + 1) t = decide (0 ≤ t.n)) := by show _ = _; unfold wellT; simp [hk]
   clear hk hk6 hk7 hk8
   go_enter Try.func46, Try.ntmps46
   go_wp2_with fail
   go_ret
   exact ⟨ret_bool HX.out.symm, (Ext.refl _).alloc _⟩
 have k0 := hk
 clear hk
 by_cases hk : t.k = 1
 · have e0 : (t.k == 0) = false := by rw [hk]; rfl
   have e1 : (t.k == 1) = true := by rw [hk]; rfl
   have HX : Hid (wellT (n + 1) t = decide (t.s.length ≤ 300)) := by show _ = _; unfold wellT; simp [hk]
   have HB : Hid ((bs t.s).size = t.s.length) := bs_size _
   generalize bs t.s = q at *
   clear hk hk6 hk7 hk8 k0
   go_enter Try.func46, Try.ntmps46
   go_wp2_with fail
   go_ret
   refine ⟨ret_bool ?_, (Ext.refl _).alloc _⟩
   rw [HX.out, ← HB.out]
   simp
   omega
 have k1 := hk
 clear hk
 by_cases hk : t.k = 2
 · have e0 : (t.k == 0) = false := by rw [hk]; rfl
   have e1 : (t.k == 1) = false := by rw [hk]; rfl
   have e2 : (t.k == 2) = true := by rw [hk]; rfl
   have HX : Hid (wellT (n + 1) t = (t.n == 0 || t.n == 1)) := by show _ = _; unfold wellT; simp [hk]
   clear hk hk6 hk7 hk8 k0 k1
   cases hn : (t.n == 0)
   · rw [hn] at HX
     go_enter Try.func46, Try.ntmps46
     go_wp2_with fail
     go_ret
     exact ⟨ret_bool HX.out.symm, (Ext.refl _).alloc _⟩
   · rw [hn] at HX
     go_enter Try.func46, Try.ntmps46
     go_wp2_with fail
     go_ret
     exact ⟨ret_bool HX.out.symm, (Ext.refl _).alloc _⟩
 have k2 := hk
 clear hk
 by_cases hk : t.k = 3
 · have e0 : (t.k == 0) = false := by rw [hk]; rfl
   have e1 : (t.k == 1) = false := by rw [hk]; rfl
   have e2 : (t.k == 2) = false := by rw [hk]; rfl
   have e3 : (t.k == 3) = true := by rw [hk]; rfl
   have HX : Hid (wellT (n + 1) t = (decide (1 ≤ t.e) && decide (t.e ≤ 5))) := by show _ = _; unfold wellT; simp [hk]
   clear hk hk6 hk7 hk8 k0 k1 k2
   by_cases h1 : 1 ≤ t.e
   · have d1 : decide (1 ≤ t.e) = true := by simpa using h1
     rw [d1] at HX
     go_enter Try.func46, Try.ntmps46
     go_wp2_with fail
     go_ret
     exact ⟨ret_bool HX.out.symm, (Ext.refl _).alloc _⟩
   · have d1 : decide (1 ≤ t.e) = false := by simpa using h1
     rw [d1] at HX
     go_enter Try.func46, Try.ntmps46
     go_wp2_with fail
     go_ret
     exact ⟨ret_bool HX.out.symm, (Ext.refl _).alloc _⟩
 have k3 := hk
 clear hk
 by_cases hk : t.k = 4
 · have e0 : (t.k == 0) = false := by rw [hk]; rfl
   have e1 : (t.k == 1) = false := by rw [hk]; rfl
   have e2 : (t.k == 2) = false := by rw [hk]; rfl
   have e3 : (t.k == 3) = false := by rw [hk]; rfl
   have e4 : (t.k == 4) = true := by rw [hk]; rfl
   have HX : Hid (wellT (n + 1) t = inB t.r.1 t.r.2.1) := by show _ = _; unfold wellT; simp [hk]
   have c1 := fun W => isIn_any t.r.1 t.r.2.1 t.r.2.2.1 t.r.2.2.2 W
   clear hk hk6 hk7 hk8 k0 k1 k2 k3
   go_enter Try.func46, Try.ntmps46
   go_wp2_with fail
   refine (c1 _).mono ?_
   rintro e w1 ⟨rfl, E1⟩
   have HE : Hid (Ext W w1) := ((Ext.refl _).alloc _).trans E1
   clear E1
   go_wp2_with fail
   go_ret
   exact ⟨ret_bool HX.out.symm, HE.out⟩
 have k4 := hk
 clear hk
 have HX : Hid (wellT (n + 1) t = false) := by show _ = _; unfold wellT; simp [k0, k1, k2, k3, k4, hk6, hk7, hk8]
 have e0 : (t.k == 0) = false := by simpa using k0
 have e1 : (t.k == 1) = false := by simpa using k1
 have e2 : (t.k == 2) = false := by simpa using k2
 have e3 : (t.k == 3) = false := by simpa using k3
 have e4 : (t.k == 4) = false := by simpa using k4
 have e6 : (t.k == 6) = false := by simpa using hk6
 have e7 : (t.k == 7) = false := by simpa using hk7
 have e8 : (t.k == 8) = false := by simpa using hk8
 clear hk6 hk7 hk8 k0 k1 k2 k3 k4
 go_enter Try.func46, Try.ntmps46
 go_wp2_with fail
 go_ret
 exact ⟨ret_bool HX.out.symm, (Ext.refl _).alloc _⟩
set_option maxRecDepth 100000 in
theorem well_neg (P : Nat → Prop) (n : Nat) (t : T) (hk : t.k = 6) (hl : t.l.length ≤ 100000) (hx : ∀ x ∈ t.l, ATr 46 P (wellT n) x) : ATr 46 P (wellT (n + 1)) t := by
 intro W pp ln cl h
 have hln : t.l.length = ln := by
   obtain ⟨p, c, h1, _⟩ := h.form
   cases h1; rfl
 have e0 : (t.k == 0) = false := by rw [hk]; rfl
 have e1 : (t.k == 1) = false := by rw [hk]; rfl
 have e2 : (t.k == 2) = false := by rw [hk]; rfl
 have e3 : (t.k == 3) = false := by rw [hk]; rfl
 have e4 : (t.k == 4) = false := by rw [hk]; rfl
 have e6 : (t.k == 6) = true := by rw [hk]; rfl
 have HX : Hid (wellT (n + 1) t = (ln == 1 && t.l.all (wellT n))) := by show _ = _; unfold wellT; simp [hk, hln]
 have HC : Hid (∀ W', Ext W W' → Calls Try.prog 78 #[.slice pp ln cl, .func (.func 46) #[] #[]] W' fun e w' => e = .returned (.bool (t.l.all (wellT n))) ∧ Ext W' w') := fun W' e => all_any 46 P (wellT n) t.l pp ln cl W' hl (enters_of Try.func46 (by kernel_rfl) rfl) hx (h.ext e)
 clear hk hl hx h hln
 by_cases h1 : ln = 1
 · have d1 : ((ln : Int) == 1) = true := by rw [h1]; rfl
   have HY : Hid ((ln == 1) = true) := by show _ = _; rw [h1]; rfl
   clear h1
   go_enter Try.func46, Try.ntmps46
   go_wp2_with fail
   refine (HC.out _ ((Ext.refl _).alloc _)).mono ?_
   rintro e w1 ⟨rfl, E1⟩
   have HE : Hid (Ext W w1) := ((Ext.refl _).alloc _).trans E1
   clear E1
   go_wp2_with fail
   go_ret
   exact ⟨ret_bool (by rw [HX.out, HY.out]; rfl), HE.out⟩
 · have d1 : ((ln : Int) == 1) = false := by simp; omega
   have HY : Hid ((ln == 1) = false) := by show _ = _; simpa using h1
   clear h1
   go_enter Try.func46, Try.ntmps46
   go_wp2_with fail
   go_ret
   exact ⟨ret_bool (by rw [HX.out, HY.out]; rfl), (Ext.refl _).alloc _⟩
set_option maxRecDepth 100000 in
theorem well_bin (P : Nat → Prop) (n : Nat) (t : T) (hk : t.k = 7) (hl : t.l.length ≤ 100000) (hx : ∀ x ∈ t.l, ATr 46 P (wellT n) x) : ATr 46 P (wellT (n + 1)) t := by
 intro W pp ln cl h
 have hln : t.l.length = ln := by
   obtain ⟨p, c, h1, _⟩ := h.form
   cases h1; rfl
 have e0 : (t.k == 0) = false := by rw [hk]; rfl
 have e1 : (t.k == 1) = false := by rw [hk]; rfl
 have e2 : (t.k == 2) = false := by rw [hk]; rfl
 have e3 : (t.k == 3) = false := by rw [hk]; rfl
 have e4 : (t.k == 4) = false := by rw [hk]; rfl
 have e6 : (t.k == 6) = false := by rw [hk]; rfl
 have e7 : (t.k == 7) = true := by rw [hk]; rfl
 have HX : Hid (wellT (n + 1) t = (bnd t.s != 0 && ln == 2 && t.l.all (wellT n))) := by show _ = _; unfold wellT; simp [hk, hln]
 have HC : Hid (∀ W', Ext W W' → Calls Try.prog 78 #[.slice pp ln cl, .func (.func 46) #[] #[]] W' fun e w' => e = .returned (.bool (t.l.all (wellT n))) ∧ Ext W' w') := fun W' e => all_any 46 P (wellT n) t.l pp ln cl W' hl (enters_of Try.func46 (by kernel_rfl) rfl) hx (h.ext e)
 have cB := fun W => binds_any (bs t.s) W
 have es : (bs t.s).data.toList = t.s := rfl
 rw [es] at cB
 obtain ⟨bb, hbb⟩ : ∃ bb, bnd t.s = bb := ⟨_, rfl⟩
 rw [hbb] at cB HX
 generalize bs t.s = q at *
 clear hk hl hx h hln es hbb
 by_cases h0 : bb = 0
 · have b1 : ((bb : Int) != 0) = false := by rw [h0]; rfl
   have HY : Hid ((bb != 0) = false) := by show _ = _; rw [h0]; rfl
   clear h0
   go_enter Try.func46, Try.ntmps46
   go_wp2_with fail
   refine (cB _).mono ?_
   rintro e w1 ⟨rfl, rfl⟩
   go_wp2_with fail
   go_ret
   exact ⟨ret_bool (by rw [HX.out, HY.out]; rfl), (Ext.refl _).alloc _⟩
 have b1 : ((bb : Int) != 0) = true := by simp; omega
 have HY0 : Hid ((bb != 0) = true) := by show _ = _; simpa using h0
 clear h0
 by_cases h1 : ln = 2
 · have d1 : ((ln : Int) == 2) = true := by rw [h1]; rfl
   have HY : Hid ((ln == 2) = true) := by show _ = _; rw [h1]; rfl
   clear h1
   go_enter Try.func46, Try.ntmps46
   go_wp2_with fail
   refine (cB _).mono ?_
   rintro e w1 ⟨rfl, rfl⟩
   go_wp2_with fail
   refine (HC.out _ ((Ext.refl _).alloc _)).mono ?_
   rintro e w1 ⟨rfl, E1⟩
   have HE : Hid (Ext W w1) := ((Ext.refl _).alloc _).trans E1
   clear E1
   go_wp2_with fail
   go_ret
   exact ⟨ret_bool (by rw [HX.out, HY.out, HY0.out]; rfl), HE.out⟩
 · have d1 : ((ln : Int) == 2) = false := by simp; omega
   have HY : Hid ((ln == 2) = false) := by show _ = _; simpa using h1
   clear h1
   go_enter Try.func46, Try.ntmps46
   go_wp2_with fail
   refine (cB _).mono ?_
   rintro e w1 ⟨rfl, rfl⟩
   go_wp2_with fail
   go_ret
   exact ⟨ret_bool (by rw [HX.out, HY.out, HY0.out]; rfl), (Ext.refl _).alloc _⟩
set_option maxRecDepth 100000 in
theorem well_call (P : Nat → Prop) (n : Nat) (t : T) (hk : t.k = 8) (hl : t.l.length ≤ 100000) (hx : ∀ x ∈ t.l, ATr 81 P (argT n) x) : ATr 46 P (wellT (n + 1)) t := by
 intro W pp ln cl h
 have hln : t.l.length = ln := by
   obtain ⟨p, c, h1, _⟩ := h.form
   cases h1; rfl
 have e0 : (t.k == 0) = false := by rw [hk]; rfl
 have e1 : (t.k == 1) = false := by rw [hk]; rfl
 have e2 : (t.k == 2) = false := by rw [hk]; rfl
 have e3 : (t.k == 3) = false := by rw [hk]; rfl
 have e4 : (t.k == 4) = false := by rw [hk]; rfl
 have e6 : (t.k == 6) = false := by rw [hk]; rfl
 have e7 : (t.k == 7) = false := by rw [hk]; rfl
 have e8 : (t.k == 8) = true := by rw [hk]; rfl
 have HX : Hid (wellT (n + 1) t = ((kno t.s).isSome && decide (knA t.s ≤ ln) && decide ((ln : Int) ≤ knB t.s) && t.l.all (argT n))) := by show _ = _; unfold wellT; simp only [hk, hln]; rfl
 have HC : Hid (∀ W', Ext W W' → Calls Try.prog 78 #[.slice pp ln cl, .func (.func 81) #[] #[]] W' fun e w' => e = .returned (.bool (t.l.all (argT n))) ∧ Ext W' w') := fun W' e => all_any 81 P (argT n) t.l pp ln cl W' hl (enters_of Try.func81 (by kernel_rfl) rfl) hx (h.ext e)
 have cK := fun W => known_any (bs t.s) W
 have es : (bs t.s).data.toList = t.s := rfl
 rw [es] at cK
 obtain ⟨ka, hka⟩ : ∃ ka, knA t.s = ka := ⟨_, rfl⟩
 obtain ⟨kb, hkb⟩ : ∃ kb, knB t.s = kb := ⟨_, rfl⟩
 rw [hka, hkb] at cK HX
 generalize bs t.s = q at *
 clear hk hl hx h hln es hka hkb
 cases hs : (kno t.s).isSome
 · rw [hs] at cK HX
   clear hs
   go_enter Try.func46, Try.ntmps46
   go_wp2_with fail
   refine (cK _).mono ?_
   rintro e w1 ⟨rfl, rfl⟩
   go_wp2_with fail
   go_ret
   exact ⟨ret_bool (by rw [HX.out]; rfl), (Ext.refl _).alloc _⟩
 rw [hs] at cK HX
 clear hs
 by_cases h1 : ka ≤ (ln : Int)
 · have d1 : decide (ka ≤ (ln : Int)) = true := by simpa using h1
   rw [d1] at HX
   by_cases h2 : (ln : Int) ≤ kb
   · have d2 : decide ((ln : Int) ≤ kb) = true := by simpa using h2
     rw [d2] at HX
     go_enter Try.func46, Try.ntmps46
     go_wp2_with fail
     refine (cK _).mono ?_
     rintro e w1 ⟨rfl, rfl⟩
     go_wp2_with fail
     refine (HC.out _ ((Ext.refl _).alloc _)).mono ?_
     rintro e w1 ⟨rfl, E1⟩
     have HE : Hid (Ext W w1) := ((Ext.refl _).alloc _).trans E1
     clear E1
     go_wp2_with fail
     go_ret
     exact ⟨ret_bool (by rw [HX.out]; rfl), HE.out⟩
   · have d2 : decide ((ln : Int) ≤ kb) = false := by simpa using h2
     rw [d2] at HX
     go_enter Try.func46, Try.ntmps46
     go_wp2_with fail
     refine (cK _).mono ?_
     rintro e w1 ⟨rfl, rfl⟩
     go_wp2_with fail
     go_ret
     exact ⟨ret_bool (by rw [HX.out]; rfl), (Ext.refl _).alloc _⟩
 · have d1 : decide (ka ≤ (ln : Int)) = false := by simpa using h1
   rw [d1] at HX
   go_enter Try.func46, Try.ntmps46
   go_wp2_with fail
   refine (cK _).mono ?_
   rintro e w1 ⟨rfl, rfl⟩
   go_wp2_with fail
   go_ret
   exact ⟨ret_bool (by rw [HX.out]; rfl), (Ext.refl _).alloc _⟩
/-- Well of any tree that is not deeper than n. -/
theorem well_any (P : Nat → Prop) (n : Nat) : ∀ t, Hr n t → ATr 46 P (wellT n) t := by
 induction n with
 | zero => intro t h; exact h.elim
 | succ n ih =>
   intro t h
   by_cases h6 : t.k = 6
   · exact well_neg P n t h6 h.1 (fun x hx => ih x (h.2 x hx))
   by_cases h7 : t.k = 7
   · exact well_bin P n t h7 h.1 (fun x hx => ih x (h.2 x hx))
   by_cases h8 : t.k = 8
   · exact well_call P n t h8 h.1 (fun x hx => isArg_any P n x (ih x (h.2 x hx)))
   exact well_leaf P n t h6 h7 h8

open Go.RowKit
set_option maxHeartbeats 6000000

set_option maxRecDepth 100000 in
theorem form_any (n : Nat) (t : T) (hr : Hr n t) (row col : Int) (W : World) (P : Nat → Prop) (pp : Option Addr) (ln cl : Nat) (hL : IsL W P (.slice pp ln cl) t.l) :
   Calls Try.prog 13 #[.agg #[.int .i64 t.k, .int .i64 t.n, .string (bs t.s), .int .i64 t.e, .int .i64 t.r.1, .int .i64 t.r.2.1, .bool t.r.2.2.1, .bool t.r.2.2.2, .int .i64 t.q.1, .int .i64 t.q.2.1, .bool t.q.2.2.1, .bool t.q.2.2.2, .slice pp ln cl], .int .i64 row, .int .i64 col] W (MpQ W (mpT (mvE (wrap64 (-row)) (wrap64 (-col))) n t)) := by
 have hn1 : wrap64 (-row) = IntKind.i64.wrap (-row) := by rw [IntKind.wrap_i64]; unfold wrap64; omega
 have hn2 : wrap64 (-col) = IntKind.i64.wrap (-col) := by rw [IntKind.wrap_i64]; unfold wrap64; omega
 rw [hn1, hn2]
 clear hn1 hn2
 have HI : Hid (IsL W P (.slice pp ln cl) t.l) := hL
 have HR : Hid (Hr n t) := hr
 have cM := fun V => moved_any (IntKind.i64.wrap (-row)) (IntKind.i64.wrap (-col)) V
 clear hL hr
 go_enter Try.func13, Try.ntmps13
 go_wp2_with fail
 have HW1 : Hid (Ext W ((W.alloc (.cells #[.int .i64 t.k, .int .i64 t.n, .string (bs t.s), .int .i64 t.e, .int .i64 t.r.1, .int .i64 t.r.2.1, .bool t.r.2.2.1, .bool t.r.2.2.2, .int .i64 t.q.1, .int .i64 t.q.2.1, .bool t.q.2.2.1, .bool t.q.2.2.2, .slice pp ln cl] 26)).alloc (.cells #[.int .i64 0, .int .i64 0, .string ⟨#[]⟩, .int .i64 0, .int .i64 0, .int .i64 0, .bool false, .bool false, .int .i64 0, .int .i64 0, .bool false, .bool false, .slice none 0 0] 26))) := ((Ext.refl _).alloc _).alloc _
 have HB : Hid (BlkX ((W.alloc (.cells #[.int .i64 t.k, .int .i64 t.n, .string (bs t.s), .int .i64 t.e, .int .i64 t.r.1, .int .i64 t.r.2.1, .bool t.r.2.2.1, .bool t.r.2.2.2, .int .i64 t.q.1, .int .i64 t.q.2.1, .bool t.q.2.2.1, .bool t.q.2.2.2, .slice pp ln cl] 26)).alloc (.cells #[.int .i64 0, .int .i64 0, .string ⟨#[]⟩, .int .i64 0, .int .i64 0, .int .i64 0, .bool false, .bool false, .int .i64 0, .int .i64 0, .bool false, .bool false, .slice none 0 0] 26)) W.heap.size t (.slice pp ln cl) ∧ BlkX ((W.alloc (.cells #[.int .i64 t.k, .int .i64 t.n, .string (bs t.s), .int .i64 t.e, .int .i64 t.r.1, .int .i64 t.r.2.1, .bool t.r.2.2.1, .bool t.r.2.2.2, .int .i64 t.q.1, .int .i64 t.q.2.1, .bool t.q.2.2.1, .bool t.q.2.2.2, .slice pp ln cl] 26)).alloc (.cells #[.int .i64 0, .int .i64 0, .string ⟨#[]⟩, .int .i64 0, .int .i64 0, .int .i64 0, .bool false, .bool false, .int .i64 0, .int .i64 0, .bool false, .bool false, .slice none 0 0] 26)) (W.heap.size + 1) tz (.slice none 0 0)) := ⟨blk13_top rfl ((Ext.refl _).alloc _), BlkX.top (by simp) (Ext.refl _)⟩
 generalize ((W.alloc (.cells #[.int .i64 t.k, .int .i64 t.n, .string (bs t.s), .int .i64 t.e, .int .i64 t.r.1, .int .i64 t.r.2.1, .bool t.r.2.2.1, .bool t.r.2.2.2, .int .i64 t.q.1, .int .i64 t.q.2.1, .bool t.q.2.2.1, .bool t.q.2.2.2, .slice pp ln cl] 26)).alloc (.cells #[.int .i64 0, .int .i64 0, .string ⟨#[]⟩, .int .i64 0, .int .i64 0, .int .i64 0, .bool false, .bool false, .int .i64 0, .int .i64 0, .bool false, .bool false, .slice none 0 0] 26)) = W1 at *
 have mkS : Hid (∀ V, Ext W1 V → V.cell? ⟨W.heap.size, 0, none⟩ = some (.int .i64 t.k) ∧ V.cell? ⟨W.heap.size, 1, none⟩ = some (.int .i64 t.n) ∧ V.cell? ⟨W.heap.size, 2, none⟩ = some (.string (bs t.s)) ∧ V.cell? ⟨W.heap.size, 3, none⟩ = some (.int .i64 t.e) ∧ V.cell? ⟨W.heap.size, 4, none⟩ = some (.int .i64 t.r.1) ∧ V.cell? ⟨W.heap.size, 5, none⟩ = some (.int .i64 t.r.2.1) ∧ V.cell? ⟨W.heap.size, 6, none⟩ = some (.bool t.r.2.2.1) ∧ V.cell? ⟨W.heap.size, 7, none⟩ = some (.bool t.r.2.2.2) ∧ V.cell? ⟨W.heap.size, 8, none⟩ = some (.int .i64 t.q.1) ∧ V.cell? ⟨W.heap.size, 9, none⟩ = some (.int .i64 t.q.2.1) ∧ V.cell? ⟨W.heap.size, 10, none⟩ = some (.bool t.q.2.2.1) ∧ V.cell? ⟨W.heap.size, 11, none⟩ = some (.bool t.q.2.2.2) ∧ V.cell? ⟨W.heap.size, 12, none⟩ = some (.slice pp ln cl)) := fun V e => (HB.out.1.ext e).2.1
 refine bar_begin (B := fun i => i == 7) (S := fun V => V.cell? ⟨W.heap.size, 0, none⟩ = some (.int .i64 t.k) ∧ V.cell? ⟨W.heap.size, 1, none⟩ = some (.int .i64 t.n) ∧ V.cell? ⟨W.heap.size, 2, none⟩ = some (.string (bs t.s)) ∧ V.cell? ⟨W.heap.size, 3, none⟩ = some (.int .i64 t.e) ∧ V.cell? ⟨W.heap.size, 4, none⟩ = some (.int .i64 t.r.1) ∧ V.cell? ⟨W.heap.size, 5, none⟩ = some (.int .i64 t.r.2.1) ∧ V.cell? ⟨W.heap.size, 6, none⟩ = some (.bool t.r.2.2.1) ∧ V.cell? ⟨W.heap.size, 7, none⟩ = some (.bool t.r.2.2.2) ∧ V.cell? ⟨W.heap.size, 8, none⟩ = some (.int .i64 t.q.1) ∧ V.cell? ⟨W.heap.size, 9, none⟩ = some (.int .i64 t.q.2.1) ∧ V.cell? ⟨W.heap.size, 10, none⟩ = some (.bool t.q.2.2.1) ∧ V.cell? ⟨W.heap.size, 11, none⟩ = some (.bool t.q.2.2.2) ∧ V.cell? ⟨W.heap.size, 12, none⟩ = some (.slice pp ln cl)) (by kernel_rfl) ?_
 have hS0 := mkS.out (World.drew W1) (Ext.refl _).drew
 refine bar_take (i := 0) (v := ?v0) rfl (by kernel_rfl) (by kernel_rfl) (by kernel_rfl) (by kernel_rfl) (fun _ _ _ h => h) (Or.inl ⟨by rfl, ?hy0⟩) hS0 ?rest0
 case hy0 => (intro W hSW; (try dsimp only at hSW); go_simp; with_reducible rfl)
 simp only [Act.put, List.setIfInBounds_toArray]
 refine bar_take (i := 1) (v := ?v1) rfl (by kernel_rfl) (by kernel_rfl) (by kernel_rfl) (by kernel_rfl) (fun _ _ _ h => h) (Or.inl ⟨by rfl, ?hy1⟩) hS0 ?rest1
 case hy1 => (intro W hSW; (try dsimp only at hSW); go_simp; with_reducible rfl)
 simp only [Act.put]
 refine bar_take (i := 2) (v := ?v2) rfl (by kernel_rfl) (by kernel_rfl) (by kernel_rfl) (by kernel_rfl) (fun _ _ _ h => h) (Or.inl ⟨by rfl, ?hy2⟩) hS0 ?rest2
 case hy2 => (intro W hSW; (try dsimp only at hSW); go_simp; with_reducible rfl)
 simp only [Act.put]
 refine bar_take (i := 3) (v := ?v3) rfl (by kernel_rfl) (by kernel_rfl) (by kernel_rfl) (by kernel_rfl) (fun _ _ _ h => h) (Or.inl ⟨by rfl, ?hy3⟩) hS0 ?rest3
 case hy3 => (intro W hSW; (try dsimp only at hSW); go_simp; with_reducible rfl)
 simp only [Act.put]
 refine bar_take (i := 4) (v := ?v4) rfl (by kernel_rfl) (by kernel_rfl) (by kernel_rfl) (by kernel_rfl) (fun _ _ _ h => h) (Or.inl ⟨by rfl, ?hy4⟩) hS0 ?rest4
 case hy4 => (intro W hSW; (try dsimp only at hSW); go_simp; with_reducible rfl)
 simp only [Act.put]
 refine bar_one (i := 5) (by kernel_rfl) rfl (fun KK hKK => ?_)
 go_simp
 go_wp2_with (go_at_call 41; refine Calls.mono (cM _) ?_; rintro e w5 ⟨v, rfl, F5, E5⟩)
 have X5 : Ext W1 w5 := Ext.trans (Ext.refl _).drew E5
 have HF5 : Hid (FnC w5 v (mvE (IntKind.i64.wrap (-row)) (IntKind.i64.wrap (-col)))) := F5
 refine hKK.out _ _ (fun _ => mkS.out _ X5) ?_
 clear hKK KK hS0 F5 E5
 refine bar_one (i := 6) (by kernel_rfl) rfl (fun KK hKK => ?_)
 go_simp
 go_wp2_with (go_at_call 40; refine Calls.mono (mapped_any n t HR.out _ v w5 P pp ln cl HF5.out (HI.out.ext (HW1.out.trans X5))) ?_; rintro e w6 ⟨p, l, c, rfl, L6, E6⟩)
 have X6 : Ext W1 w6 := X5.trans E6
 refine hKK.out _ _ (fun _ => mkS.out _ X6) ?_
 clear hKK KK mkS
 have hz5 : W.heap.size + 1 + 1 ≤ w5.heap.size := by have h1 := X5.sz; have h2 := HB.out.2.1; omega
 have H6 : Hid (BlkX w6 (W.heap.size + 1) tz (.slice none 0 0) ∧ Ext W w6 ∧ IsL w6 (W.heap.size + 1 + 1 ≤ ·) (.slice p l c) (mpT (mvE (IntKind.i64.wrap (-row)) (IntKind.i64.wrap (-col))) n t).l) := ⟨HB.out.2.ext X6, HW1.out.trans X6, L6.mono (fun k hk _ => by have : w5.heap.size ≤ k := hk; omega)⟩
 have HB1 := H6.out.1
 obtain ⟨qc, ⟨lc0, lc1, lc2, lc3, lc4, lc5, lc6, lc7, lc8, lc9, lc10, lc11, lc12⟩, gc0, gc1, gc2, gc3, gc4, gc5, gc6, gc7, gc8, gc9, gc10, gc11, gc12⟩ := HB1
 clear X6 E6 X5 L6
 generalize mpT (mvE (IntKind.i64.wrap (-row)) (IntKind.i64.wrap (-col))) n t = y at *
 unfold aggX
 refine bar_one (i := 7) (by kernel_rfl) rfl (fun KK hKK => ?_)
 go_simp
 refine hKK.out _ _ (fun h => absurd h (by decide)) ?_
 clear hKK KK
 refine bar_done (by kernel_rfl) ?_ _
 go_wp2_with fail
 show bodyPost Try.prog _ _ _ _ (putX w6 (W.heap.size + 1) y (.slice p l c))
 exact endR (H6.out.1.put y (.slice p l c)) rfl ⟨p, l, c, rfl, (putX_L H6.out.2.2 (fun k hk => by have hk2 : W.heap.size + 1 + 1 ≤ k := hk; omega)).mono (fun k hk _ => by have hk2 : W.heap.size + 1 + 1 ≤ k := hk; omega), putX_E H6.out.2.1 (by omega) _ _⟩ (fun h0 h1 h2 h3 h4 h5 h6 h7 h8 h9 h10 h11 h12 => by simp [results, Try.results13, go_sem, h0, h1, h2, h3, h4, h5, h6, h7, h8, h9, h10, h11, h12, aggX])
def nmB (t : T) : Bool := decide (t.k = 4 ∨ t.k = 5)
def nmR9 (t : T) : Int × Int × Int × Int := if t.k = 4 then rcT t.r t.r else if t.k = 5 then rcT t.r t.q else (0, 0, 0, 0)
set_option maxRecDepth 100000 in
theorem named_any (t : T) (lv : Value) (W : World) : Calls Try.prog 48 #[.agg #[.int .i64 t.k, .int .i64 t.n, .string (bs t.s), .int .i64 t.e, .int .i64 t.r.1, .int .i64 t.r.2.1, .bool t.r.2.2.1, .bool t.r.2.2.2, .int .i64 t.q.1, .int .i64 t.q.2.1, .bool t.q.2.2.1, .bool t.q.2.2.2, lv]] W fun e w' => e = .returned (.tuple #[.agg #[.int .i64 (nmR9 t).1, .int .i64 (nmR9 t).2.1, .int .i64 (nmR9 t).2.2.1, .int .i64 (nmR9 t).2.2.2], .bool (nmB t)]) ∧ Ext W w' := by
 by_cases k4 : t.k = 4
 · have e4 : (t.k == 4) = true := by rw [k4]; rfl
   have HX : Hid (nmR9 t = rcT t.r t.r ∧ nmB t = true) := ⟨if_pos k4, by unfold nmB; simp [k4]⟩
   have c1 := fun V => rect_any t.r.1 t.r.2.1 t.r.1 t.r.2.1 t.r.2.2.1 t.r.2.2.2 t.r.2.2.1 t.r.2.2.2 V
   rw [rcD_T] at c1
   obtain ⟨q, hq⟩ : ∃ q, rcT t.r t.r = q := ⟨_, rfl⟩
   rw [hq] at c1 HX
   clear k4 hq
   go_enter Try.func48, Try.ntmps48
   go_wp2_with fail
   refine (c1 _).mono ?_
   rintro e w1 ⟨rfl, E1⟩
   have HB : Hid (Blk w1 (W.heap.size + 1) (.int .i64 0) (.int .i64 0) (.int .i64 0) (.int .i64 0) ∧ Ext W w1) := ⟨(blk_top (by simp) (Ext.refl _)).ext E1, (((Ext.refl _).alloc _).alloc _).trans E1⟩
   have HB0 := HB.out.1
   obtain ⟨qz, ⟨l0, l1, l2, l3⟩, f0, f1, f2, f3⟩ := HB0
   clear E1 c1
   go_wp2_with fail
   rw [HX.out.1, HX.out.2]
   exact fin4b true l0 l1 l2 l3 rfl (by omega) HB.out.2 (fun V h0 h1 h2 h3 => by simp [results, Try.results48, go_sem, h0, h1, h2, h3]) (fun V hE => ⟨rfl, hE⟩)
 by_cases k5 : t.k = 5
 · have e4 : (t.k == 4) = false := by simpa using k4
   have e5 : (t.k == 5) = true := by rw [k5]; rfl
   have HX : Hid (nmR9 t = rcT t.r t.q ∧ nmB t = true) := ⟨by unfold nmR9; rw [if_neg k4, if_pos k5], by unfold nmB; simp [k5]⟩
   have c1 := fun V => rect_any t.r.1 t.r.2.1 t.q.1 t.q.2.1 t.r.2.2.1 t.r.2.2.2 t.q.2.2.1 t.q.2.2.2 V
   rw [rcD_T] at c1
   obtain ⟨q, hq⟩ : ∃ q, rcT t.r t.q = q := ⟨_, rfl⟩
   rw [hq] at c1 HX
   clear k4 k5 hq
   go_enter Try.func48, Try.ntmps48
   go_wp2_with fail
   refine (c1 _).mono ?_
   rintro e w1 ⟨rfl, E1⟩
   have HB : Hid (Blk w1 (W.heap.size + 1) (.int .i64 0) (.int .i64 0) (.int .i64 0) (.int .i64 0) ∧ Ext W w1) := ⟨(blk_top (by simp) (Ext.refl _)).ext E1, (((Ext.refl _).alloc _).alloc _).trans E1⟩
   have HB0 := HB.out.1
   obtain ⟨qz, ⟨l0, l1, l2, l3⟩, f0, f1, f2, f3⟩ := HB0
   clear E1 c1
   go_wp2_with fail
   rw [HX.out.1, HX.out.2]
   exact fin4b true l0 l1 l2 l3 rfl (by omega) HB.out.2 (fun V h0 h1 h2 h3 => by simp [results, Try.results48, go_sem, h0, h1, h2, h3]) (fun V hE => ⟨rfl, hE⟩)
 · have e4 : (t.k == 4) = false := by simpa using k4
   have e5 : (t.k == 5) = false := by simpa using k5
   have HX : Hid (nmR9 t = (0, 0, 0, 0) ∧ nmB t = false) := ⟨by unfold nmR9; rw [if_neg k4, if_neg k5], by unfold nmB; simp [k4, k5]⟩
   clear k4 k5
   go_enter Try.func48, Try.ntmps48
   go_wp2_with fail
   rw [HX.out.1, HX.out.2]
   exact bodyPost_ret (v := .tuple #[.agg #[.int .i64 0, .int .i64 0, .int .i64 0, .int .i64 0], .bool false]) (by simp [results, Try.results48, go_sem]) rfl ⟨rfl, ((Ext.refl _).alloc _).alloc _⟩
theorem fiE_eq (dr dc : Int) (t : T) : fiE dr dc t = if nmB (mvE dr dc t) && decide (nmR9 (mvE dr dc t) = (0, 0, 0, 0)) then tErr 1 else mvE dr dc t := by
 unfold fiE
 by_cases k4 : t.k = 4
 · have e : mvE dr dc t = t.wR (mvF dr dc t.r) := if_pos k4
   have e1 : (t.wR (mvF dr dc t.r)).k = 4 := k4
   have hR : nmR9 (t.wR (mvF dr dc t.r)) = rcT (mvF dr dc t.r) (mvF dr dc t.r) := by unfold nmR9; rw [if_pos e1]; rfl
   have hB : nmB (t.wR (mvF dr dc t.r)) = true := by unfold nmB; rw [e1]; rfl
   rw [e, hR, hB]
   by_cases h : rcB (mvF dr dc t.r).1 (mvF dr dc t.r).2.1 (mvF dr dc t.r).1 (mvF dr dc t.r).2.1 = false
   · rw [if_pos (.inl ⟨k4, h⟩), if_pos]
     simp [(rcT_0 _ _).2 h]
   · rw [if_neg, if_neg]
     · simp [rcT_0, h]
     · rintro (⟨_, h1⟩ | ⟨h1, _⟩)
       · exact h h1
       · omega
 by_cases k5 : t.k = 5
 · have e : mvE dr dc t = t.wRQ (mvF dr dc t.r) (mvF dr dc t.q) := by unfold mvE; rw [if_neg k4, if_pos k5]
   have e1 : (t.wRQ (mvF dr dc t.r) (mvF dr dc t.q)).k = 5 := k5
   have hR : nmR9 (t.wRQ (mvF dr dc t.r) (mvF dr dc t.q)) = rcT (mvF dr dc t.r) (mvF dr dc t.q) := by unfold nmR9; rw [if_neg (by rw [e1]; decide), if_pos e1]; rfl
   have hB : nmB (t.wRQ (mvF dr dc t.r) (mvF dr dc t.q)) = true := by unfold nmB; rw [e1]; rfl
   rw [e, hR, hB]
   by_cases h : rcB (mvF dr dc t.r).1 (mvF dr dc t.r).2.1 (mvF dr dc t.q).1 (mvF dr dc t.q).2.1 = false
   · rw [if_pos (.inr ⟨k5, h⟩), if_pos]
     simp [(rcT_0 _ _).2 h]
   · rw [if_neg, if_neg]
     · simp [rcT_0, h]
     · rintro (⟨h1, _⟩ | ⟨_, h1⟩)
       · omega
       · exact h h1
 · have e : mvE dr dc t = t := by unfold mvE; rw [if_neg k4, if_neg k5]
   have hB : nmB t = false := by unfold nmB; simp [k4, k5]
   rw [e, hB]
   rw [if_neg, if_neg]
   · simp
   · rintro (⟨h1, _⟩ | ⟨h1, _⟩) <;> omega
theorem eq_rc (s t : Int × Int × Int × Int) (w : World) : Sem.run Try.prog (Op.equalIn 10000 40 (.agg #[.int .i64 s.1, .int .i64 s.2.1, .int .i64 s.2.2.1, .int .i64 s.2.2.2]) (.agg #[.int .i64 t.1, .int .i64 t.2.1, .int .i64 t.2.2.1, .int .i64 t.2.2.2])) w = .ok (decide (s = t)) w := by
 have u3 := Try.underlying3
 have a3 := Try.isAgg3
 have z3 := Try.sizeOf3
 have hS : Try.prog.underlying 40 = some (.struct (Try.prog.fieldsOf 40)) := by kernel_rfl
 have hp : Try.prog.stoodInHeld 40 = false := by kernel_rfl
 obtain ⟨s1, s2, s3, s4⟩ := s
 obtain ⟨t1, t2, t3, t4⟩ := t
 rw [show (10000 : Nat) = 9999 + 1 from rfl, run_equalIn_agg w 9999 40 _ _ hS hp]
 simp only [Program.fieldsOf, Try.underlying40]
 go_simp
 by_cases h1 : s1 = t1 <;> by_cases h2 : s2 = t2 <;> by_cases h3 : s3 = t3 <;> by_cases h4 : s4 = t4 <;> simp [h1, h2, h3, h4]
theorem gd_rc (x y : Array Value) (op : BinOp) (a b : Operand) (w : World) : (eqGuard op 40 a b (.agg x) (.agg y)).run Try.prog w = .ok () w := run_eqGuard_agg w op 40 a b x y (by kernel_rfl)
def FnQ (W : World) (t y : T) (pp : Option Addr) (ln cl : Nat) (e : Ending) (w' : World) : Prop := ∃ p l c, e = .returned (aggX y (.slice p l c)) ∧ Ext W w' ∧ ((p = pp ∧ l = ln ∧ c = cl ∧ y.l = t.l) ∨ (l = 0 ∧ y.l = []))
set_option maxRecDepth 100000 in
theorem fill1_any (t : T) (pp : Option Addr) (ln cl : Nat) (dr dc : Int) (mp : Nat) (v : Value) (W : World) (hm : W.cell? ⟨mp, 0, none⟩ = some v) (z0 : mp < W.heap.size) (hv : FnC W v (mvE dr dc)) :
   Calls Try.prog 47 #[.agg #[.int .i64 t.k, .int .i64 t.n, .string (bs t.s), .int .i64 t.e, .int .i64 t.r.1, .int .i64 t.r.2.1, .bool t.r.2.2.1, .bool t.r.2.2.2, .int .i64 t.q.1, .int .i64 t.q.2.1, .bool t.q.2.2.1, .bool t.q.2.2.2, .slice pp ln cl], .pointer (some ⟨mp, 0, none⟩)] W (FnQ W t (fiE dr dc t) pp ln cl) := by
 obtain ⟨K, cs, rfl, hent, hK⟩ := hv
 have C1 := hK ((W.alloc (.cells #[.int .i64 t.k, .int .i64 t.n, .string (bs t.s), .int .i64 t.e, .int .i64 t.r.1, .int .i64 t.r.2.1, .bool t.r.2.2.1, .bool t.r.2.2.2, .int .i64 t.q.1, .int .i64 t.q.2.1, .bool t.q.2.2.1, .bool t.q.2.2.2, .slice pp ln cl] 26)).alloc (.cells #[.int .i64 0, .int .i64 0, .string ⟨#[]⟩, .int .i64 0, .int .i64 0, .int .i64 0, .bool false, .bool false, .int .i64 0, .int .i64 0, .bool false, .bool false, .slice none 0 0] 26)) t pp ln cl (((Ext.refl _).alloc _).alloc _)
 have HF := fiE_eq dr dc t
 have HF : Hid (fiE dr dc t = if nmB (mvE dr dc t) && decide (nmR9 (mvE dr dc t) = (0, 0, 0, 0)) then tErr 1 else mvE dr dc t) := HF
 clear hK
 obtain ⟨m, hmv⟩ : ∃ m, mvE dr dc t = m := ⟨_, rfl⟩
 rw [hmv] at C1 HF
 clear hmv
 obtain ⟨y, hy⟩ : ∃ y, fiE dr dc t = y := ⟨_, rfl⟩
 rw [hy] at HF ⊢
 clear hy
 go_enter Try.func47, Try.ntmps47
 go_wp2_with fail
 refine C1.mono ?_
 rintro e w1 ⟨p, l, c, rfl, E1, h1⟩
 have HB : Hid (BlkX w1 W.heap.size t (.slice pp ln cl) ∧ BlkX w1 (W.heap.size + 1) tz (.slice none 0 0) ∧ Ext W w1) := ⟨(blk13_top rfl ((Ext.refl _).alloc _)).ext E1, (BlkX.top (by simp) (Ext.refl _)).ext E1, (((Ext.refl _).alloc _).alloc _).trans E1⟩
 have HL : Hid ((p = pp ∧ l = ln ∧ c = cl ∧ m.l = t.l) ∨ (l = 0 ∧ m.l = [])) := h1
 have HB0 := HB.out.1
 obtain ⟨qa, ⟨la0, la1, la2, la3, la4, la5, la6, la7, la8, la9, la10, la11, la12⟩, ga0, ga1, ga2, ga3, ga4, ga5, ga6, ga7, ga8, ga9, ga10, ga11, ga12⟩ := HB0
 clear E1 C1 h1 hm
 unfold aggX
 have hP : Ext W (putX w1 W.heap.size m (.slice p l c)) := putX_E HB.out.2.2 (Nat.le_refl _) _ _
 have hPB : BlkX (putX w1 W.heap.size m (.slice p l c)) W.heap.size m (.slice p l c) := HB.out.1.put m (.slice p l c)
 have hPC : BlkX (putX w1 W.heap.size m (.slice p l c)) (W.heap.size + 1) tz (.slice none 0 0) := Blk13.far HB.out.2.1 (by omega) _ _ _ _ _ _ _ _ _ _ _ _ _
 have HP : Hid (Ext W (putX w1 W.heap.size m (.slice p l c)) ∧ BlkX (putX w1 W.heap.size m (.slice p l c)) W.heap.size m (.slice p l c) ∧ BlkX (putX w1 W.heap.size m (.slice p l c)) (W.heap.size + 1) tz (.slice none 0 0)) := ⟨hP, hPB, hPC⟩
 clear hP hPB hPC
 have C2 := named_any m (.slice p l c) (putX w1 W.heap.size m (.slice p l c))
 obtain ⟨q, hq⟩ : ∃ q, nmR9 m = q := ⟨_, rfl⟩
 obtain ⟨ok, hok⟩ : ∃ ok, nmB m = ok := ⟨_, rfl⟩
 rw [hq, hok] at C2 HF
 clear hq hok
 go_wp2_with fail
 refine Calls.mono (show Calls Try.prog 48 #[.agg #[.int .i64 m.k, .int .i64 m.n, .string (bs m.s), .int .i64 m.e, .int .i64 m.r.1, .int .i64 m.r.2.1, .bool m.r.2.2.1, .bool m.r.2.2.2, .int .i64 m.q.1, .int .i64 m.q.2.1, .bool m.q.2.2.1, .bool m.q.2.2.2, .slice p l c]] _ _ from C2) ?_
 rintro e w2 ⟨rfl, E2⟩
 have H2 : Hid (Ext W w2 ∧ BlkX w2 W.heap.size m (.slice p l c) ∧ BlkX w2 (W.heap.size + 1) tz (.slice none 0 0)) := ⟨HP.out.1.trans E2, HP.out.2.1.ext E2, HP.out.2.2.ext E2⟩
 clear E2 C2 HP qa la0 la1 la2 la3 la4 la5 la6 la7 la8 la9 la10 la11 la12 ga0 ga1 ga2 ga3 ga4 ga5 ga6 ga7 ga8 ga9 ga10 ga11 ga12
 have hz2 : W.heap.size + 1 < w2.heap.size := H2.out.2.2.1
 have HB1 := H2.out.2.1
 obtain ⟨qa, ⟨la0, la1, la2, la3, la4, la5, la6, la7, la8, la9, la10, la11, la12⟩, ga0, ga1, ga2, ga3, ga4, ga5, ga6, ga7, ga8, ga9, ga10, ga11, ga12⟩ := HB1
 have HB2 := H2.out.2.2
 obtain ⟨qc, ⟨lc0, lc1, lc2, lc3, lc4, lc5, lc6, lc7, lc8, lc9, lc10, lc11, lc12⟩, gc0, gc1, gc2, gc3, gc4, gc5, gc6, gc7, gc8, gc9, gc10, gc11, gc12⟩ := HB2
 have eR := fun V => eq_rc q (0, 0, 0, 0) V
 have g1 := gd_rc
 cases ok
 · simp only [Bool.false_and, Bool.false_eq_true, if_false] at HF
   go_wp2_with fail
   show bodyPost Try.prog _ _ _ _ ((putX w2 (W.heap.size + 1) m (.slice p l c)).alloc (.cells #[.int .i64 q.1, .int .i64 q.2.1, .int .i64 q.2.2.1, .int .i64 q.2.2.2] 40))
   rw [HF.out]
   exact endR ((H2.out.2.2.put m (.slice p l c)).ext ((Ext.refl _).alloc _)) rfl ⟨p, l, c, rfl, (putX_E H2.out.1 (by omega) _ _).alloc _, HL.out⟩ (fun h0 h1 h2 h3 h4 h5 h6 h7 h8 h9 h10 h11 h12 => by simp [results, Try.results47, go_sem, h0, h1, h2, h3, h4, h5, h6, h7, h8, h9, h10, h11, h12, aggX])
 · simp only [Bool.true_and] at HF
   cases hd0 : decide (q = (0, 0, 0, 0))
   · rw [hd0] at HF eR
     simp only [Bool.false_eq_true, if_false] at HF
     clear hd0
     go_wp2_with fail
     show bodyPost Try.prog _ _ _ _ ((putX w2 (W.heap.size + 1) m (.slice p l c)).alloc (.cells #[.int .i64 q.1, .int .i64 q.2.1, .int .i64 q.2.2.1, .int .i64 q.2.2.2] 40))
     rw [HF.out]
     exact endR ((H2.out.2.2.put m (.slice p l c)).ext ((Ext.refl _).alloc _)) rfl ⟨p, l, c, rfl, (putX_E H2.out.1 (by omega) _ _).alloc _, HL.out⟩ (fun h0 h1 h2 h3 h4 h5 h6 h7 h8 h9 h10 h11 h12 => by simp [results, Try.results47, go_sem, h0, h1, h2, h3, h4, h5, h6, h7, h8, h9, h10, h11, h12, aggX])
   · rw [hd0] at HF eR
     simp only [if_true] at HF
     clear hd0
     go_wp2_with fail
     show bodyPost Try.prog _ _ _ _ ((putX w2 (W.heap.size + 1) (tErr 1) (.slice none 0 0)).alloc (.cells #[.int .i64 q.1, .int .i64 q.2.1, .int .i64 q.2.2.1, .int .i64 q.2.2.2] 40))
     rw [HF.out]
     exact endR ((H2.out.2.2.put (tErr 1) (.slice none 0 0)).ext ((Ext.refl _).alloc _)) rfl ⟨none, 0, 0, rfl, (putX_E H2.out.1 (by omega) _ _).alloc _, .inr ⟨rfl, rfl⟩⟩ (fun h0 h1 h2 h3 h4 h5 h6 h7 h8 h9 h10 h11 h12 => by simp [results, Try.results47, go_sem, h0, h1, h2, h3, h4, h5, h6, h7, h8, h9, h10, h11, h12, aggX])
set_option maxRecDepth 100000 in
theorem fill_any (n : Nat) (t : T) (hr : Hr n t) (rows cols : Int) (W : World) (P : Nat → Prop) (pp : Option Addr) (ln cl : Nat) (hL : IsL W P (.slice pp ln cl) t.l) :
   Calls Try.prog 21 #[.agg #[.int .i64 t.k, .int .i64 t.n, .string (bs t.s), .int .i64 t.e, .int .i64 t.r.1, .int .i64 t.r.2.1, .bool t.r.2.2.1, .bool t.r.2.2.2, .int .i64 t.q.1, .int .i64 t.q.2.1, .bool t.q.2.2.1, .bool t.q.2.2.2, .slice pp ln cl], .int .i64 rows, .int .i64 cols] W (MpQ W (if wellT n t then mpT (fiE rows cols) n t else tz)) := by
 have HI : Hid (IsL W P (.slice pp ln cl) t.l) := hL
 have HR : Hid (Hr n t) := hr
 have C1 := well_any P n t hr ((W.alloc (.cells #[.int .i64 t.k, .int .i64 t.n, .string (bs t.s), .int .i64 t.e, .int .i64 t.r.1, .int .i64 t.r.2.1, .bool t.r.2.2.1, .bool t.r.2.2.2, .int .i64 t.q.1, .int .i64 t.q.2.1, .bool t.q.2.2.1, .bool t.q.2.2.2, .slice pp ln cl] 26)).alloc (.cells #[.int .i64 0, .int .i64 0, .string ⟨#[]⟩, .int .i64 0, .int .i64 0, .int .i64 0, .bool false, .bool false, .int .i64 0, .int .i64 0, .bool false, .bool false, .slice none 0 0] 26)) pp ln cl (hL.ext (((Ext.refl _).alloc _).alloc _))
 have cM := fun V => moved_any rows cols V
 obtain ⟨y, hy⟩ : ∃ y, (if wellT n t then mpT (fiE rows cols) n t else tz) = y := ⟨_, rfl⟩
 have HY : Hid ((if wellT n t then mpT (fiE rows cols) n t else tz) = y) := hy
 rw [hy]
 obtain ⟨wl, hwl⟩ : ∃ wl, wellT n t = wl := ⟨_, rfl⟩
 rw [hwl] at C1 HY
 clear hL hr hy hwl
 go_enter Try.func21, Try.ntmps21
 go_wp2_with fail
 refine C1.mono ?_
 rintro e w1 ⟨rfl, E1⟩
 have HB : Hid (BlkX w1 W.heap.size t (.slice pp ln cl) ∧ BlkX w1 (W.heap.size + 1) tz (.slice none 0 0) ∧ Ext W w1) := ⟨(blk13_top rfl ((Ext.refl _).alloc _)).ext E1, (BlkX.top (by simp) (Ext.refl _)).ext E1, (((Ext.refl _).alloc _).alloc _).trans E1⟩
 clear E1 C1
 cases wl
 · simp only [Bool.false_eq_true, if_false] at HY
   have HB2 := HB.out.2.1
   obtain ⟨qc, ⟨lc0, lc1, lc2, lc3, lc4, lc5, lc6, lc7, lc8, lc9, lc10, lc11, lc12⟩, gc0, gc1, gc2, gc3, gc4, gc5, gc6, gc7, gc8, gc9, gc10, gc11, gc12⟩ := HB2
   go_wp2_with fail
   show bodyPost Try.prog _ _ _ _ (putX w1 (W.heap.size + 1) tz (.slice none 0 0))
   rw [← HY.out]
   exact endR (HB.out.2.1.put tz (.slice none 0 0)) rfl ⟨none, 0, 0, rfl, .nil, putX_E HB.out.2.2 (by omega) _ _⟩ (fun h0 h1 h2 h3 h4 h5 h6 h7 h8 h9 h10 h11 h12 => by simp [results, Try.results21, go_sem, h0, h1, h2, h3, h4, h5, h6, h7, h8, h9, h10, h11, h12, aggX])
 · simp only [if_true] at HY
   go_wp2_with fail
   refine (cM _).mono ?_
   rintro e w2 ⟨v, rfl, F2, E2⟩
   have H2 : Hid (BlkX w2 W.heap.size t (.slice pp ln cl) ∧ BlkX w2 (W.heap.size + 1) tz (.slice none 0 0) ∧ Ext W w2 ∧ FnC w2 v (mvE rows cols)) := ⟨HB.out.1.ext E2, HB.out.2.1.ext E2, HB.out.2.2.trans E2, F2⟩
   have hz2 : W.heap.size + 1 < w2.heap.size := H2.out.2.1.1
   have hvf : ∃ K cs, v = .func (.func K) #[] cs := by obtain ⟨K, cs, h, _⟩ := F2; exact ⟨K, cs, h⟩
   obtain ⟨K, cs, rfl⟩ := hvf
   clear E2 F2 cM HB
   have E3 : Ext w2 (w2.alloc (.cells #[.func (.func K) #[] cs] 32)) := (Ext.refl _).alloc _
   have F3 : FnC (w2.alloc (.cells #[.func (.func K) #[] cs] 32)) (.func (.func 47) #[] #[.pointer (some ⟨w2.heap.size, 0, none⟩)]) (fiE rows cols) := by
     refine ⟨47, _, rfl, enters_of Try.func47 (by kernel_rfl) rfl, fun V t pp ln cl e => ?_⟩
     have hz : w2.heap.size < (w2.alloc (.cells #[.func (.func K) #[] cs] 32)).heap.size := by simp
     refine fill1_any t pp ln cl rows cols w2.heap.size (.func (.func K) #[] cs) V ?_ (Nat.lt_of_lt_of_le hz e.sz) (H2.out.2.2.2.ext (E3.trans e))
     rw [e.cell.1 _ _ hz]
     simp [go_sem]
   have C3 := mapped_any n t HR.out (fiE rows cols) _ _ P pp ln cl F3 (HI.out.ext (H2.out.2.2.1.trans E3))
   have H3 : Hid (BlkX (w2.alloc (.cells #[.func (.func K) #[] cs] 32)) (W.heap.size + 1) tz (.slice none 0 0) ∧ Ext W (w2.alloc (.cells #[.func (.func K) #[] cs] 32))) := ⟨H2.out.2.1.ext E3, H2.out.2.2.1.trans E3⟩
   have HB1 := H2.out.1
   obtain ⟨qa, ⟨la0, la1, la2, la3, la4, la5, la6, la7, la8, la9, la10, la11, la12⟩, ga0, ga1, ga2, ga3, ga4, ga5, ga6, ga7, ga8, ga9, ga10, ga11, ga12⟩ := HB1
   clear E3 F3
   go_wp2_with fail
   refine C3.mono ?_
   rintro e w4 ⟨p, l, c, rfl, L4, E4⟩
   rw [HY.out] at L4 ⊢
   have H4 : Hid (BlkX w4 (W.heap.size + 1) tz (.slice none 0 0) ∧ Ext W w4 ∧ IsL w4 (W.heap.size + 1 + 1 ≤ ·) (.slice p l c) y.l) := ⟨H3.out.1.ext E4, H3.out.2.trans E4, L4.mono (fun k hk _ => by have : (w2.alloc (.cells #[.func (.func K) #[] cs] 32)).heap.size ≤ k := hk; simp at this; omega)⟩
   have HB2 := H4.out.1
   obtain ⟨qc, ⟨lc0, lc1, lc2, lc3, lc4, lc5, lc6, lc7, lc8, lc9, lc10, lc11, lc12⟩, gc0, gc1, gc2, gc3, gc4, gc5, gc6, gc7, gc8, gc9, gc10, gc11, gc12⟩ := HB2
   clear E4 L4 C3
   unfold aggX
   go_wp2_with fail
   show bodyPost Try.prog _ _ _ _ (putX w4 (W.heap.size + 1) y (.slice p l c))
   exact endR (H4.out.1.put y (.slice p l c)) rfl ⟨p, l, c, rfl, (putX_L H4.out.2.2 (fun k hk => by have hk2 : W.heap.size + 1 + 1 ≤ k := hk; omega)).mono (fun k hk _ => by have hk2 : W.heap.size + 1 + 1 ≤ k := hk; omega), putX_E H4.out.2.1 (by omega) _ _⟩ (fun h0 h1 h2 h3 h4 h5 h6 h7 h8 h9 h10 h11 h12 => by simp [results, Try.results21, go_sem, h0, h1, h2, h3, h4, h5, h6, h7, h8, h9, h10, h11, h12, aggX])
theorem hr_mp (n : Nat) : ∀ t : T, Hr n t → ∀ g : T → T, (∀ t, (g t).l = t.l) → Hr n (mpT g n t) := by
 induction n with
 | zero => intro t h; cases h
 | succ n ih =>
   intro t h g hg
   rw [mpT]
   refine ⟨?_, ?_⟩
   · rw [hg]; show (t.l.map _).length ≤ _; rw [List.length_map]; exact h.1
   · intro x hx
     rw [hg] at hx
     have hx2 : x ∈ t.l.map (if prB t.k then mpT g n else id) := hx
     obtain ⟨y, hy, rfl⟩ := List.mem_map.1 hx2
     cases prB t.k with
     | true => exact ih y (h.2 y hy) g hg
     | false => exact h.2 y hy
set_option maxRecDepth 100000 in
theorem alike_any (n : Nat) (a b : T) (ha : Hr n a) (hb : Hr n b) (r1 c1 r2 c2 : Int) (W : World) (pp qq : Option Addr) (ln cl lm cm : Nat) (hL : IsL W (fun _ => True) (.slice pp ln cl) a.l) (hM : IsL W (fun _ => True) (.slice qq lm cm) b.l) :
   Calls Try.prog 19 #[.agg #[.int .i64 a.k, .int .i64 a.n, .string (bs a.s), .int .i64 a.e, .int .i64 a.r.1, .int .i64 a.r.2.1, .bool a.r.2.2.1, .bool a.r.2.2.2, .int .i64 a.q.1, .int .i64 a.q.2.1, .bool a.q.2.2.1, .bool a.q.2.2.2, .slice pp ln cl], .int .i64 r1, .int .i64 c1, .agg #[.int .i64 b.k, .int .i64 b.n, .string (bs b.s), .int .i64 b.e, .int .i64 b.r.1, .int .i64 b.r.2.1, .bool b.r.2.2.1, .bool b.r.2.2.2, .int .i64 b.q.1, .int .i64 b.q.2.1, .bool b.q.2.2.1, .bool b.q.2.2.2, .slice qq lm cm], .int .i64 r2, .int .i64 c2] W fun e w' => e = .returned (.bool (sameT n (mpT (mvE (wrap64 (-r1)) (wrap64 (-c1))) n a) (mpT (mvE (wrap64 (-r2)) (wrap64 (-c2))) n b))) ∧ Ext W w' := by
 have HI : Hid (IsL W (fun _ => True) (.slice pp ln cl) a.l ∧ IsL W (fun _ => True) (.slice qq lm cm) b.l) := ⟨hL, hM⟩
 have HR : Hid (Hr n a ∧ Hr n b ∧ Hr n (mpT (mvE (wrap64 (-r1)) (wrap64 (-c1))) n a)) := ⟨ha, hb, hr_mp n a ha _ (fun t => mvE_l _ _ t)⟩
 clear hL hM ha hb
 go_enter Try.func19, Try.ntmps19
 go_wp2_with fail
 have HW1 : Hid (Ext W ((W.alloc (.cells #[.int .i64 a.k, .int .i64 a.n, .string (bs a.s), .int .i64 a.e, .int .i64 a.r.1, .int .i64 a.r.2.1, .bool a.r.2.2.1, .bool a.r.2.2.2, .int .i64 a.q.1, .int .i64 a.q.2.1, .bool a.q.2.2.1, .bool a.q.2.2.2, .slice pp ln cl] 26)).alloc (.cells #[.int .i64 b.k, .int .i64 b.n, .string (bs b.s), .int .i64 b.e, .int .i64 b.r.1, .int .i64 b.r.2.1, .bool b.r.2.2.1, .bool b.r.2.2.2, .int .i64 b.q.1, .int .i64 b.q.2.1, .bool b.q.2.2.1, .bool b.q.2.2.2, .slice qq lm cm] 26))) := ((Ext.refl _).alloc _).alloc _
 have HB : Hid (BlkX ((W.alloc (.cells #[.int .i64 a.k, .int .i64 a.n, .string (bs a.s), .int .i64 a.e, .int .i64 a.r.1, .int .i64 a.r.2.1, .bool a.r.2.2.1, .bool a.r.2.2.2, .int .i64 a.q.1, .int .i64 a.q.2.1, .bool a.q.2.2.1, .bool a.q.2.2.2, .slice pp ln cl] 26)).alloc (.cells #[.int .i64 b.k, .int .i64 b.n, .string (bs b.s), .int .i64 b.e, .int .i64 b.r.1, .int .i64 b.r.2.1, .bool b.r.2.2.1, .bool b.r.2.2.2, .int .i64 b.q.1, .int .i64 b.q.2.1, .bool b.q.2.2.1, .bool b.q.2.2.2, .slice qq lm cm] 26)) W.heap.size a (.slice pp ln cl) ∧ BlkX ((W.alloc (.cells #[.int .i64 a.k, .int .i64 a.n, .string (bs a.s), .int .i64 a.e, .int .i64 a.r.1, .int .i64 a.r.2.1, .bool a.r.2.2.1, .bool a.r.2.2.2, .int .i64 a.q.1, .int .i64 a.q.2.1, .bool a.q.2.2.1, .bool a.q.2.2.2, .slice pp ln cl] 26)).alloc (.cells #[.int .i64 b.k, .int .i64 b.n, .string (bs b.s), .int .i64 b.e, .int .i64 b.r.1, .int .i64 b.r.2.1, .bool b.r.2.2.1, .bool b.r.2.2.2, .int .i64 b.q.1, .int .i64 b.q.2.1, .bool b.q.2.2.1, .bool b.q.2.2.2, .slice qq lm cm] 26)) (W.heap.size + 1) b (.slice qq lm cm)) := ⟨blk13_top rfl ((Ext.refl _).alloc _), blk13_top (by simp) (Ext.refl _)⟩
 generalize ((W.alloc (.cells #[.int .i64 a.k, .int .i64 a.n, .string (bs a.s), .int .i64 a.e, .int .i64 a.r.1, .int .i64 a.r.2.1, .bool a.r.2.2.1, .bool a.r.2.2.2, .int .i64 a.q.1, .int .i64 a.q.2.1, .bool a.q.2.2.1, .bool a.q.2.2.2, .slice pp ln cl] 26)).alloc (.cells #[.int .i64 b.k, .int .i64 b.n, .string (bs b.s), .int .i64 b.e, .int .i64 b.r.1, .int .i64 b.r.2.1, .bool b.r.2.2.1, .bool b.r.2.2.2, .int .i64 b.q.1, .int .i64 b.q.2.1, .bool b.q.2.2.1, .bool b.q.2.2.2, .slice qq lm cm] 26)) = W1 at *
 have mkS : Hid (∀ V, Ext W1 V → (V.cell? ⟨W.heap.size, 0, none⟩ = some (.int .i64 a.k) ∧ V.cell? ⟨W.heap.size, 1, none⟩ = some (.int .i64 a.n) ∧ V.cell? ⟨W.heap.size, 2, none⟩ = some (.string (bs a.s)) ∧ V.cell? ⟨W.heap.size, 3, none⟩ = some (.int .i64 a.e) ∧ V.cell? ⟨W.heap.size, 4, none⟩ = some (.int .i64 a.r.1) ∧ V.cell? ⟨W.heap.size, 5, none⟩ = some (.int .i64 a.r.2.1) ∧ V.cell? ⟨W.heap.size, 6, none⟩ = some (.bool a.r.2.2.1) ∧ V.cell? ⟨W.heap.size, 7, none⟩ = some (.bool a.r.2.2.2) ∧ V.cell? ⟨W.heap.size, 8, none⟩ = some (.int .i64 a.q.1) ∧ V.cell? ⟨W.heap.size, 9, none⟩ = some (.int .i64 a.q.2.1) ∧ V.cell? ⟨W.heap.size, 10, none⟩ = some (.bool a.q.2.2.1) ∧ V.cell? ⟨W.heap.size, 11, none⟩ = some (.bool a.q.2.2.2) ∧ V.cell? ⟨W.heap.size, 12, none⟩ = some (.slice pp ln cl)) ∧ (V.cell? ⟨W.heap.size + 1, 0, none⟩ = some (.int .i64 b.k) ∧ V.cell? ⟨W.heap.size + 1, 1, none⟩ = some (.int .i64 b.n) ∧ V.cell? ⟨W.heap.size + 1, 2, none⟩ = some (.string (bs b.s)) ∧ V.cell? ⟨W.heap.size + 1, 3, none⟩ = some (.int .i64 b.e) ∧ V.cell? ⟨W.heap.size + 1, 4, none⟩ = some (.int .i64 b.r.1) ∧ V.cell? ⟨W.heap.size + 1, 5, none⟩ = some (.int .i64 b.r.2.1) ∧ V.cell? ⟨W.heap.size + 1, 6, none⟩ = some (.bool b.r.2.2.1) ∧ V.cell? ⟨W.heap.size + 1, 7, none⟩ = some (.bool b.r.2.2.2) ∧ V.cell? ⟨W.heap.size + 1, 8, none⟩ = some (.int .i64 b.q.1) ∧ V.cell? ⟨W.heap.size + 1, 9, none⟩ = some (.int .i64 b.q.2.1) ∧ V.cell? ⟨W.heap.size + 1, 10, none⟩ = some (.bool b.q.2.2.1) ∧ V.cell? ⟨W.heap.size + 1, 11, none⟩ = some (.bool b.q.2.2.2) ∧ V.cell? ⟨W.heap.size + 1, 12, none⟩ = some (.slice qq lm cm))) := fun V e => ⟨(HB.out.1.ext e).2.1, (HB.out.2.ext e).2.1⟩
 refine bar_begin (B := fun i => i == 9) (S := fun V => ((V.cell? ⟨W.heap.size, 0, none⟩ = some (.int .i64 a.k) ∧ V.cell? ⟨W.heap.size, 1, none⟩ = some (.int .i64 a.n) ∧ V.cell? ⟨W.heap.size, 2, none⟩ = some (.string (bs a.s)) ∧ V.cell? ⟨W.heap.size, 3, none⟩ = some (.int .i64 a.e) ∧ V.cell? ⟨W.heap.size, 4, none⟩ = some (.int .i64 a.r.1) ∧ V.cell? ⟨W.heap.size, 5, none⟩ = some (.int .i64 a.r.2.1) ∧ V.cell? ⟨W.heap.size, 6, none⟩ = some (.bool a.r.2.2.1) ∧ V.cell? ⟨W.heap.size, 7, none⟩ = some (.bool a.r.2.2.2) ∧ V.cell? ⟨W.heap.size, 8, none⟩ = some (.int .i64 a.q.1) ∧ V.cell? ⟨W.heap.size, 9, none⟩ = some (.int .i64 a.q.2.1) ∧ V.cell? ⟨W.heap.size, 10, none⟩ = some (.bool a.q.2.2.1) ∧ V.cell? ⟨W.heap.size, 11, none⟩ = some (.bool a.q.2.2.2) ∧ V.cell? ⟨W.heap.size, 12, none⟩ = some (.slice pp ln cl)) ∧ (V.cell? ⟨W.heap.size + 1, 0, none⟩ = some (.int .i64 b.k) ∧ V.cell? ⟨W.heap.size + 1, 1, none⟩ = some (.int .i64 b.n) ∧ V.cell? ⟨W.heap.size + 1, 2, none⟩ = some (.string (bs b.s)) ∧ V.cell? ⟨W.heap.size + 1, 3, none⟩ = some (.int .i64 b.e) ∧ V.cell? ⟨W.heap.size + 1, 4, none⟩ = some (.int .i64 b.r.1) ∧ V.cell? ⟨W.heap.size + 1, 5, none⟩ = some (.int .i64 b.r.2.1) ∧ V.cell? ⟨W.heap.size + 1, 6, none⟩ = some (.bool b.r.2.2.1) ∧ V.cell? ⟨W.heap.size + 1, 7, none⟩ = some (.bool b.r.2.2.2) ∧ V.cell? ⟨W.heap.size + 1, 8, none⟩ = some (.int .i64 b.q.1) ∧ V.cell? ⟨W.heap.size + 1, 9, none⟩ = some (.int .i64 b.q.2.1) ∧ V.cell? ⟨W.heap.size + 1, 10, none⟩ = some (.bool b.q.2.2.1) ∧ V.cell? ⟨W.heap.size + 1, 11, none⟩ = some (.bool b.q.2.2.2) ∧ V.cell? ⟨W.heap.size + 1, 12, none⟩ = some (.slice qq lm cm)))) (by kernel_rfl) ?_
 have hS0 := mkS.out (World.drew W1) (Ext.refl _).drew
 refine bar_take (i := 0) (v := ?v0) rfl (by kernel_rfl) (by kernel_rfl) (by kernel_rfl) (by kernel_rfl) (fun _ _ _ h => h) (Or.inl ⟨by rfl, ?hy0⟩) hS0 ?rest0
 case hy0 => (intro W hSW; (try dsimp only at hSW); go_simp; with_reducible rfl)
 simp only [Act.put, List.setIfInBounds_toArray]
 refine bar_take (i := 1) (v := ?v1) rfl (by kernel_rfl) (by kernel_rfl) (by kernel_rfl) (by kernel_rfl) (fun _ _ _ h => h) (Or.inl ⟨by rfl, ?hy1⟩) hS0 ?rest1
 case hy1 => (intro W hSW; (try dsimp only at hSW); go_simp; with_reducible rfl)
 simp only [Act.put]
 refine bar_take (i := 2) (v := ?v2) rfl (by kernel_rfl) (by kernel_rfl) (by kernel_rfl) (by kernel_rfl) (fun _ _ _ h => h) (Or.inl ⟨by rfl, ?hy2⟩) hS0 ?rest2
 case hy2 => (intro W hSW; (try dsimp only at hSW); go_simp; with_reducible rfl)
 simp only [Act.put]
 refine bar_take (i := 4) (v := ?v4) rfl (by kernel_rfl) (by kernel_rfl) (by kernel_rfl) (by kernel_rfl) (fun _ _ _ h => h) (Or.inl ⟨by rfl, ?hy4⟩) hS0 ?rest4
 case hy4 => (intro W hSW; (try dsimp only at hSW); go_simp; with_reducible rfl)
 simp only [Act.put]
 refine bar_take (i := 5) (v := ?v5) rfl (by kernel_rfl) (by kernel_rfl) (by kernel_rfl) (by kernel_rfl) (fun _ _ _ h => h) (Or.inl ⟨by rfl, ?hy5⟩) hS0 ?rest5
 case hy5 => (intro W hSW; (try dsimp only at hSW); go_simp; with_reducible rfl)
 simp only [Act.put]
 refine bar_take (i := 6) (v := ?v6) rfl (by kernel_rfl) (by kernel_rfl) (by kernel_rfl) (by kernel_rfl) (fun _ _ _ h => h) (Or.inl ⟨by rfl, ?hy6⟩) hS0 ?rest6
 case hy6 => (intro W hSW; (try dsimp only at hSW); go_simp; with_reducible rfl)
 simp only [Act.put]
 refine bar_one (i := 3) (by kernel_rfl) rfl (fun KK hKK => ?_)
 go_simp
 go_wp2_with (go_at_call 13; refine Calls.mono (form_any n a HR.out.1 r1 c1 _ (fun _ => True) pp ln cl (HI.out.1.ext (HW1.out.trans (Ext.refl _).drew))) ?_; rintro e w5 ⟨p1, l1, k1, rfl, L5, E5⟩)
 have X5 : Ext W1 w5 := Ext.trans (Ext.refl _).drew E5
 have HL5 : Hid (IsL w5 (fun _ => True) (.slice p1 l1 k1) (mpT (mvE (wrap64 (-r1)) (wrap64 (-c1))) n a).l) := L5.mono (fun _ _ _ => trivial)
 refine hKK.out _ _ (fun _ => mkS.out _ X5) ?_
 clear hKK KK hS0 L5 E5
 refine bar_one (i := 7) (by kernel_rfl) rfl (fun KK hKK => ?_)
 go_simp
 go_wp2_with (go_at_call 13; refine Calls.mono (form_any n b HR.out.2.1 r2 c2 _ (fun _ => True) qq lm cm (HI.out.2.ext (HW1.out.trans X5))) ?_; rintro e w6 ⟨p2, l2, k2, rfl, L6, E6⟩)
 have X6 : Ext W1 w6 := X5.trans E6
 have HL6 : Hid (IsL w6 (fun _ => True) (.slice p1 l1 k1) (mpT (mvE (wrap64 (-r1)) (wrap64 (-c1))) n a).l ∧ IsL w6 (fun _ => True) (.slice p2 l2 k2) (mpT (mvE (wrap64 (-r2)) (wrap64 (-c2))) n b).l ∧ Ext W w6) := ⟨HL5.out.ext E6, L6.mono (fun _ _ _ => trivial), HW1.out.trans X6⟩
 refine hKK.out _ _ (fun _ => mkS.out _ X6) ?_
 clear hKK KK L6 E6 HL5
 have C8 := psame_any (fun _ => True) n (mpT (mvE (wrap64 (-r1)) (wrap64 (-c1))) n a) HR.out.2.2 (mpT (mvE (wrap64 (-r2)) (wrap64 (-c2))) n b) w6 p1 p2 l1 k1 l2 k2 HL6.out.1 HL6.out.2.1
 obtain ⟨y1, hy1⟩ : ∃ y1, (mpT (mvE (wrap64 (-r1)) (wrap64 (-c1))) n a) = y1 := ⟨_, rfl⟩
 obtain ⟨y2, hy2⟩ : ∃ y2, (mpT (mvE (wrap64 (-r2)) (wrap64 (-c2))) n b) = y2 := ⟨_, rfl⟩
 have HYY : Hid ((mpT (mvE (wrap64 (-r1)) (wrap64 (-c1))) n a) = y1 ∧ (mpT (mvE (wrap64 (-r2)) (wrap64 (-c2))) n b) = y2) := ⟨hy1, hy2⟩
 rw [hy1, hy2] at C8 ⊢
 clear hy1 hy2
 unfold aggX
 refine bar_one (i := 8) (by kernel_rfl) rfl (fun KK hKK => ?_)
 go_simp
 go_wp2_with (go_at_call 45; refine Calls.mono C8 ?_; rintro e w7 ⟨rfl, E7⟩)
 have X7 : Ext W1 w7 := X6.trans E7
 refine hKK.out _ _ (fun _ => mkS.out _ X7) ?_
 clear hKK KK mkS
 have H7 : Hid (Ext W w7) := HL6.out.2.2.trans E7
 clear E7 X7 X6 X5
 refine bar_one (i := 9) (by kernel_rfl) rfl (fun KK hKK => ?_)
 go_simp
 refine hKK.out _ _ (fun h => absurd h (by decide)) ?_
 clear hKK KK
 refine bar_done (by kernel_rfl) ?_ _
 go_wp2_with fail
 go_ret
 exact ⟨by first | rfl | (rw [HYY.out.1, HYY.out.2]; rfl), H7.out⟩
end Go.Proofs.Ytcggiljlilbdfaa

/-
 The document's Well, of any tree not too deep.
-/
import Derived.Test.YtcggiljlilbdfaaV18
import Derived.Test.YtcggiljlilbdfaaV15
namespace Go.Proofs.Ytcggiljlilbdfaa
open Go.RowKit
set_option maxHeartbeats 6000000

theorem ron_any (r0 r1 : Int) (r2 r3 : Bool) (w : World) : Calls Try.prog 50 #[.agg #[.int .i64 r0, .int .i64 r1, .bool r2, .bool r3]] w fun e w' => e = .returned (.bool (inB r0 r1)) ∧ Ext w w' := by
 have c1 := fun W => rin_any r0 r1 W
 obtain ⟨bb, hbb⟩ : ∃ bb, inB r0 r1 = bb := ⟨_, rfl⟩
 rw [hbb] at c1 ⊢
 clear hbb
 go_enter Try.func50, Try.ntmps50
 go_wp2_with fail
 refine (c1 _).mono ?_
 rintro e w1 ⟨rfl, rfl⟩
 go_wp2_with fail
 go_ret
 exact ⟨rfl, (Ext.refl _).alloc _⟩
set_option maxRecDepth 100000 in
theorem rwell_leaf (P : Nat → Prop) (n : Nat) (t : T) (hk6 : t.k ≠ 6) (hk7 : t.k ≠ 7) (hk8 : t.k ≠ 8) : ATr 23 P (wellT (n + 1)) t := by
 intro W pp ln cl _
 by_cases hk : t.k = 0
 · have e0 : (t.k == 0) = true := by rw [hk]; rfl
   have HX : Hid (wellT (n + 1) t = decide (0 ≤ t.n)) := by show _ = _; unfold wellT; simp [hk]
   clear hk hk6 hk7 hk8
   go_enter Try.func23, Try.ntmps23
   go_wp2_with fail
   go_ret
   exact ⟨ret_bool HX.out.symm, (Ext.refl _).alloc _⟩
 have k0 := hk
 clear hk
 by_cases hk : t.k = 1
 · have e0 : (t.k == 0) = false := by rw [hk]; rfl
   have e1 : (t.k == 1) = true := by rw [hk]; rfl
   have HX : Hid (wellT (n + 1) t = decide (t.s.length ≤ 300)) := by show _ = _; unfold wellT; simp [hk]
   have HB : Hid ((bs t.s).size = t.s.length) := bs_size _
   generalize bs t.s = q at *
   clear hk hk6 hk7 hk8 k0
   go_enter Try.func23, Try.ntmps23
   go_wp2_with fail
   go_ret
   refine ⟨ret_bool ?_, (Ext.refl _).alloc _⟩
   rw [HX.out, ← HB.out]
   simp
   omega
 have k1 := hk
 clear hk
 by_cases hk : t.k = 2
 · have e0 : (t.k == 0) = false := by rw [hk]; rfl
   have e1 : (t.k == 1) = false := by rw [hk]; rfl
   have e2 : (t.k == 2) = true := by rw [hk]; rfl
   have HX : Hid (wellT (n + 1) t = (t.n == 0 || t.n == 1)) := by show _ = _; unfold wellT; simp [hk]
   clear hk hk6 hk7 hk8 k0 k1
   cases hn : (t.n == 0)
   · rw [hn] at HX
     go_enter Try.func23, Try.ntmps23
     go_wp2_with fail
     go_ret
     exact ⟨ret_bool HX.out.symm, (Ext.refl _).alloc _⟩
   · rw [hn] at HX
     go_enter Try.func23, Try.ntmps23
     go_wp2_with fail
     go_ret
     exact ⟨ret_bool HX.out.symm, (Ext.refl _).alloc _⟩
 have k2 := hk
 clear hk
 by_cases hk : t.k = 3
 · have e0 : (t.k == 0) = false := by rw [hk]; rfl
   have e1 : (t.k == 1) = false := by rw [hk]; rfl
   have e2 : (t.k == 2) = false := by rw [hk]; rfl
   have e3 : (t.k == 3) = true := by rw [hk]; rfl
   have HX : Hid (wellT (n + 1) t = (decide (1 ≤ t.e) && decide (t.e ≤ 5))) := by show _ = _; unfold wellT; simp [hk]
   clear hk hk6 hk7 hk8 k0 k1 k2
   by_cases h1 : 1 ≤ t.e
   · have d1 : decide (1 ≤ t.e) = true := by simpa using h1
     rw [d1] at HX
     go_enter Try.func23, Try.ntmps23
     go_wp2_with fail
     go_ret
     exact ⟨ret_bool HX.out.symm, (Ext.refl _).alloc _⟩
   · have d1 : decide (1 ≤ t.e) = false := by simpa using h1
     rw [d1] at HX
     go_enter Try.func23, Try.ntmps23
     go_wp2_with fail
     go_ret
     exact ⟨ret_bool HX.out.symm, (Ext.refl _).alloc _⟩
 have k3 := hk
 clear hk
 by_cases hk : t.k = 4
 · have e0 : (t.k == 0) = false := by rw [hk]; rfl
   have e1 : (t.k == 1) = false := by rw [hk]; rfl
   have e2 : (t.k == 2) = false := by rw [hk]; rfl
   have e3 : (t.k == 3) = false := by rw [hk]; rfl
   have e4 : (t.k == 4) = true := by rw [hk]; rfl
   have HX : Hid (wellT (n + 1) t = inB t.r.1 t.r.2.1) := by show _ = _; unfold wellT; simp [hk]
   have c1 := fun W => ron_any t.r.1 t.r.2.1 t.r.2.2.1 t.r.2.2.2 W
   clear hk hk6 hk7 hk8 k0 k1 k2 k3
   go_enter Try.func23, Try.ntmps23
   go_wp2_with fail
   refine (c1 _).mono ?_
   rintro e w1 ⟨rfl, E1⟩
   have HE : Hid (Ext W w1) := ((Ext.refl _).alloc _).trans E1
   clear E1
   go_wp2_with fail
   go_ret
   exact ⟨ret_bool HX.out.symm, HE.out⟩
 have k4 := hk
 clear hk
 have HX : Hid (wellT (n + 1) t = false) := by show _ = _; unfold wellT; simp [k0, k1, k2, k3, k4, hk6, hk7, hk8]
 have e0 : (t.k == 0) = false := by simpa using k0
 have e1 : (t.k == 1) = false := by simpa using k1
 have e2 : (t.k == 2) = false := by simpa using k2
 have e3 : (t.k == 3) = false := by simpa using k3
 have e4 : (t.k == 4) = false := by simpa using k4
 have e6 : (t.k == 6) = false := by simpa using hk6
 have e7 : (t.k == 7) = false := by simpa using hk7
 have e8 : (t.k == 8) = false := by simpa using hk8
 clear hk6 hk7 hk8 k0 k1 k2 k3 k4
 go_enter Try.func23, Try.ntmps23
 go_wp2_with fail
 go_ret
 exact ⟨ret_bool HX.out.symm, (Ext.refl _).alloc _⟩
theorem allx_take9 {l : List T} {g : T → Bool} {j : Nat} {x : T} (h : l[j]? = some x) : (l.take (j + 1)).all g = ((l.take j).all g && g x) := by
 rw [List.take_add_one, h, List.all_append]; simp
set_option maxRecDepth 100000 in
theorem rwell_neg (P : Nat → Prop) (n : Nat) (t : T) (hk : t.k = 6) (hl : t.l.length ≤ 100000) (hx : ∀ x ∈ t.l, ATr 23 P (wellT n) x) : ATr 23 P (wellT (n + 1)) t := by
 intro W pp ln cl h
 have hln : t.l.length = ln := by
   obtain ⟨p, c, h1, _⟩ := h.form
   cases h1; rfl
 have hl2 : ln ≤ 100000 := by omega
 have e0 : (t.k == 0) = false := by rw [hk]; rfl
 have e1 : (t.k == 1) = false := by rw [hk]; rfl
 have e2 : (t.k == 2) = false := by rw [hk]; rfl
 have e3 : (t.k == 3) = false := by rw [hk]; rfl
 have e4 : (t.k == 4) = false := by rw [hk]; rfl
 have e6 : (t.k == 6) = true := by rw [hk]; rfl
 have e7 : (t.k == 7) = false := by rw [hk]; rfl
 have e8 : (t.k == 8) = false := by rw [hk]; rfl
 have HX : Hid (wellT (n + 1) t = (ln == 1 && t.l.all (wellT n))) := by show _ = _; unfold wellT; simp [hk, hln]; try rfl
 have HI : Hid (IsL W P (.slice pp ln cl) t.l) := h
 have HLN : Hid (t.l.length = ln) := hln
 have HXX : Hid (∀ x ∈ t.l, ATr 23 P (wellT n) x) := hx
 clear hk hl hx h hln
 by_cases h1 : ln = 1
 · have d1 : ¬ (ln : Int) < 1 := by omega
   have d2 : ¬ 1 < (ln : Int) := by omega
   have HX : Hid (wellT (n + 1) t = t.l.all (wellT n)) := by show _ = _; rw [HX.out, h1]; rfl
   clear h1
   go_enter Try.func23, Try.ntmps23
   go_wp2_with fail
   go_loopw [8] (fun iv wr => ∃ j : Nat, j ≤ ln ∧ iv = .int .i64 (j : Int) ∧ (t.l.take j).all (wellT n) = true ∧ BlkX wr W.heap.size t (.slice pp ln cl) ∧ Ext W wr) (fun iv _ => ln - (intOf iv).toNat)
   case atStart => exact ⟨0, Nat.zero_le _, rfl, rfl, blk13_top rfl (Ext.refl _), (Ext.refl _).alloc _⟩
   case round =>
     obtain ⟨j, hj, rfl, hg, hB, hE⟩ := hrel
     have HE : Hid (Ext W wr ∧ (t.l.take j).all (wellT n) = true) := ⟨hE, hg⟩
     have HBX : Hid (BlkX wr W.heap.size t (.slice pp ln cl)) := hB
     obtain ⟨qz, ⟨k0, k1, k2, k3, k4, k5, k6, k7, k8, k9, k10, k11, k12⟩, gz⟩ := hB
     clear hE hg gz
     by_cases hlt : j < ln
     · have hltI : (j : Int) < (ln : Int) := by omega
       have hI := HI.out.ext HE.out.1
       obtain ⟨gb, off, x, lv, hpp, hx1, hA1, hgb, hA2, hLx, hce⟩ := hI.at (i := j) (by rw [HLN.out]; exact hlt)
       clear hA1 hA2
       subst hpp
       obtain ⟨pp, cl', hlv, hcl⟩ := hLx.form
       obtain ⟨ln', hln'⟩ : ∃ ln', x.l.length = ln' := ⟨_, rfl⟩
       rw [hln'] at hlv
       subst hlv
       have HX1 : Hid (t.l[j]? = some x) := hx1
       have HLX : Hid (IsL wr P (.slice pp ln' cl') x.l) := hLx
       have HCW : Hid (∀ W', Ext wr W' → Calls Try.prog 23 #[.agg #[.int .i64 x.k, .int .i64 x.n, .string (bs x.s), .int .i64 x.e, .int .i64 x.r.1, .int .i64 x.r.2.1, .bool x.r.2.2.1, .bool x.r.2.2.2, .int .i64 x.q.1, .int .i64 x.q.2.1, .bool x.q.2.2.1, .bool x.q.2.2.2, .slice pp ln' cl']] W' fun e w' => e = .returned (.bool (wellT n x)) ∧ Ext W' w') := fun W' e => HXX.out x (List.mem_of_getElem? hx1) W' pp ln' cl' (hLx.ext e)
       have e0_ : wr.cell? ⟨gb, off + j * 13, none⟩ = some (.int .i64 x.k) := hce 0 _ rfl
       have e1_ : wr.cell? ⟨gb, off + j * 13 + 1, none⟩ = some (.int .i64 x.n) := hce 1 _ rfl
       have e2_ : wr.cell? ⟨gb, off + j * 13 + 2, none⟩ = some (.string (bs x.s)) := hce 2 _ rfl
       have e3_ : wr.cell? ⟨gb, off + j * 13 + 3, none⟩ = some (.int .i64 x.e) := hce 3 _ rfl
       have e4_ : wr.cell? ⟨gb, off + j * 13 + 4, none⟩ = some (.int .i64 x.r.1) := hce 4 _ rfl
       have e5_ : wr.cell? ⟨gb, off + j * 13 + 5, none⟩ = some (.int .i64 x.r.2.1) := hce 5 _ rfl
       have e6_ : wr.cell? ⟨gb, off + j * 13 + 6, none⟩ = some (.bool x.r.2.2.1) := hce 6 _ rfl
       have e7_ : wr.cell? ⟨gb, off + j * 13 + 7, none⟩ = some (.bool x.r.2.2.2) := hce 7 _ rfl
       have e8_ : wr.cell? ⟨gb, off + j * 13 + 8, none⟩ = some (.int .i64 x.q.1) := hce 8 _ rfl
       have e9_ : wr.cell? ⟨gb, off + j * 13 + 9, none⟩ = some (.int .i64 x.q.2.1) := hce 9 _ rfl
       have e10_ : wr.cell? ⟨gb, off + j * 13 + 10, none⟩ = some (.bool x.q.2.2.1) := hce 10 _ rfl
       have e11_ : wr.cell? ⟨gb, off + j * 13 + 11, none⟩ = some (.bool x.q.2.2.2) := hce 11 _ rfl
       have e12_ : wr.cell? ⟨gb, off + j * 13 + 12, none⟩ = some (.slice pp ln' cl') := hce 12 _ rfl
       clear hI hx1 hLx hce hcl hln'
       go_wp2_with fail
       refine (HCW.out _ ((Ext.refl _).alloc _)).mono ?_
       rintro e w1 ⟨rfl, E1⟩
       have HE1 : Hid (Ext W w1) := (HE.out.1.alloc _).trans E1
       have HB1 : Hid (BlkX w1 W.heap.size t (.slice (some ⟨gb, off, none⟩) ln cl)) := HBX.out.ext (((Ext.refl _).alloc _).trans E1)
       clear E1 k0 k1 k2 k3 k4 k5 k6 k7 k8 k9 k10 k11 k12 e0_ e1_ e2_ e3_ e4_ e5_ e6_ e7_ e8_ e9_ e10_ e11_ e12_
       cases hgx : wellT n x
       · have HG : Hid ((wellT n) x = false) := by show _ = _; skip; exact hgx
         clear hgx
         have HR : Hid (t.l.all (wellT n) = false) := by
           show _ = _
           rw [List.all_eq_false]
           exact ⟨x, List.mem_of_getElem? HX1.out, by rw [HG.out]; simp⟩
         go_wp2_with fail
         go_ret
         exact ⟨ret_bool (by rw [HX.out, HR.out]; try simp), HE1.out⟩
       · have HG : Hid ((wellT n) x = true) := by show _ = _; skip; exact hgx
         clear hgx
         have HR : Hid ((t.l.take (j + 1)).all (wellT n) = true) := by show _ = _; rw [allx_take9 HX1.out, HE.out.2, HG.out]; rfl
         go_wp2_with fail
         go_roundw
         case rel => exact ⟨j + 1, by omega, by go_num, HR.out, HB1.out, HE1.out⟩
         case measure => show ln - ((j : Int) + 1).toNat < ln - ((j : Int)).toNat; omega
     · have hltI : ¬ (j : Int) < (ln : Int) := by omega
       have HR : Hid (t.l.all (wellT n) = true) := by
         show _ = _
         have := HE.out.2
         rw [List.take_of_length_le (by have := HLN.out; omega)] at this
         exact this
       go_wp2_with fail
       go_ret
       exact ⟨ret_bool (by rw [HX.out, HR.out]; try rfl), HE.out.1⟩
 · have HX : Hid (wellT (n + 1) t = false) := by show _ = _; rw [HX.out]; simp [h1]
   rcases Nat.lt_or_gt_of_ne h1 with h2 | h2
   · have d1 : (ln : Int) < 1 := by omega
     clear h1 h2
     go_enter Try.func23, Try.ntmps23
     go_wp2_with fail
     go_ret
     exact ⟨ret_bool (by rw [HX.out]; try rfl), (Ext.refl _).alloc _⟩
   · have d1 : ¬ (ln : Int) < 1 := by omega
     have d2 : 1 < (ln : Int) := by omega
     clear h1 h2
     go_enter Try.func23, Try.ntmps23
     go_wp2_with fail
     go_ret
     exact ⟨ret_bool (by rw [HX.out]; try rfl), (Ext.refl _).alloc _⟩
set_option maxRecDepth 100000 in
theorem rwell_bin (P : Nat → Prop) (n : Nat) (t : T) (hk : t.k = 7) (hl : t.l.length ≤ 100000) (hx : ∀ x ∈ t.l, ATr 23 P (wellT n) x) : ATr 23 P (wellT (n + 1)) t := by
 intro W pp ln cl h
 have hln : t.l.length = ln := by
   obtain ⟨p, c, h1, _⟩ := h.form
   cases h1; rfl
 have hl2 : ln ≤ 100000 := by omega
 have e0 : (t.k == 0) = false := by rw [hk]; rfl
 have e1 : (t.k == 1) = false := by rw [hk]; rfl
 have e2 : (t.k == 2) = false := by rw [hk]; rfl
 have e3 : (t.k == 3) = false := by rw [hk]; rfl
 have e4 : (t.k == 4) = false := by rw [hk]; rfl
 have e6 : (t.k == 6) = false := by rw [hk]; rfl
 have e7 : (t.k == 7) = true := by rw [hk]; rfl
 have e8 : (t.k == 8) = false := by rw [hk]; rfl
 have HX : Hid (wellT (n + 1) t = (bnd t.s != 0 && ln == 2 && t.l.all (wellT n))) := by show _ = _; unfold wellT; simp [hk, hln]; try rfl
 have HI : Hid (IsL W P (.slice pp ln cl) t.l) := h
 have HLN : Hid (t.l.length = ln) := hln
 have HXX : Hid (∀ x ∈ t.l, ATr 23 P (wellT n) x) := hx
 have cB := fun W => rpower_any (bs t.s) W
 have es : (bs t.s).data.toList = t.s := rfl
 rw [es] at cB
 obtain ⟨bb, hbb⟩ : ∃ bb, bnd t.s = bb := ⟨_, rfl⟩
 rw [hbb] at cB HX
 clear hk hl hx h hln es hbb
 by_cases h0 : bb = 0
 · have b1 : ((bb : Int) == 0) = true := by rw [h0]; rfl
   have HX : Hid (wellT (n + 1) t = false) := by show _ = _; rw [HX.out, h0]; rfl
   clear h0
   go_enter Try.func23, Try.ntmps23
   go_wp2_with fail
   refine (cB _).mono ?_
   rintro e w1 ⟨rfl, rfl⟩
   go_wp2_with fail
   go_ret
   exact ⟨ret_bool (by rw [HX.out]; try rfl), (Ext.refl _).alloc _⟩
 have b1 : ((bb : Int) == 0) = false := by simp; omega
 have HX : Hid (wellT (n + 1) t = (ln == 2 && t.l.all (wellT n))) := by
   show _ = _
   have h1 : (bb != 0) = true := by simpa using h0
   rw [HX.out, h1]; rfl
 clear h0
 by_cases h1 : ln = 2
 · have d1 : ¬ (ln : Int) < 2 := by omega
   have d2 : ¬ 2 < (ln : Int) := by omega
   have HX : Hid (wellT (n + 1) t = t.l.all (wellT n)) := by show _ = _; rw [HX.out, h1]; rfl
   clear h1
   go_enter Try.func23, Try.ntmps23
   go_wp2_with fail
   refine (cB _).mono ?_
   rintro e w1 ⟨rfl, rfl⟩
   go_wp2_with fail
   go_loopw [8] (fun iv wr => ∃ j : Nat, j ≤ ln ∧ iv = .int .i64 (j : Int) ∧ (t.l.take j).all (wellT n) = true ∧ BlkX wr W.heap.size t (.slice pp ln cl) ∧ Ext W wr) (fun iv _ => ln - (intOf iv).toNat)
   case atStart => exact ⟨0, Nat.zero_le _, rfl, rfl, blk13_top rfl (Ext.refl _), (Ext.refl _).alloc _⟩
   case round =>
     obtain ⟨j, hj, rfl, hg, hB, hE⟩ := hrel
     have HE : Hid (Ext W wr ∧ (t.l.take j).all (wellT n) = true) := ⟨hE, hg⟩
     have HBX : Hid (BlkX wr W.heap.size t (.slice pp ln cl)) := hB
     obtain ⟨qz, ⟨k0, k1, k2, k3, k4, k5, k6, k7, k8, k9, k10, k11, k12⟩, gz⟩ := hB
     clear hE hg gz
     by_cases hlt : j < ln
     · have hltI : (j : Int) < (ln : Int) := by omega
       have hI := HI.out.ext HE.out.1
       obtain ⟨gb, off, x, lv, hpp, hx1, hA1, hgb, hA2, hLx, hce⟩ := hI.at (i := j) (by rw [HLN.out]; exact hlt)
       clear hA1 hA2
       subst hpp
       obtain ⟨pp, cl', hlv, hcl⟩ := hLx.form
       obtain ⟨ln', hln'⟩ : ∃ ln', x.l.length = ln' := ⟨_, rfl⟩
       rw [hln'] at hlv
       subst hlv
       have HX1 : Hid (t.l[j]? = some x) := hx1
       have HLX : Hid (IsL wr P (.slice pp ln' cl') x.l) := hLx
       have HCW : Hid (∀ W', Ext wr W' → Calls Try.prog 23 #[.agg #[.int .i64 x.k, .int .i64 x.n, .string (bs x.s), .int .i64 x.e, .int .i64 x.r.1, .int .i64 x.r.2.1, .bool x.r.2.2.1, .bool x.r.2.2.2, .int .i64 x.q.1, .int .i64 x.q.2.1, .bool x.q.2.2.1, .bool x.q.2.2.2, .slice pp ln' cl']] W' fun e w' => e = .returned (.bool (wellT n x)) ∧ Ext W' w') := fun W' e => HXX.out x (List.mem_of_getElem? hx1) W' pp ln' cl' (hLx.ext e)
       have e0_ : wr.cell? ⟨gb, off + j * 13, none⟩ = some (.int .i64 x.k) := hce 0 _ rfl
       have e1_ : wr.cell? ⟨gb, off + j * 13 + 1, none⟩ = some (.int .i64 x.n) := hce 1 _ rfl
       have e2_ : wr.cell? ⟨gb, off + j * 13 + 2, none⟩ = some (.string (bs x.s)) := hce 2 _ rfl
       have e3_ : wr.cell? ⟨gb, off + j * 13 + 3, none⟩ = some (.int .i64 x.e) := hce 3 _ rfl
       have e4_ : wr.cell? ⟨gb, off + j * 13 + 4, none⟩ = some (.int .i64 x.r.1) := hce 4 _ rfl
       have e5_ : wr.cell? ⟨gb, off + j * 13 + 5, none⟩ = some (.int .i64 x.r.2.1) := hce 5 _ rfl
       have e6_ : wr.cell? ⟨gb, off + j * 13 + 6, none⟩ = some (.bool x.r.2.2.1) := hce 6 _ rfl
       have e7_ : wr.cell? ⟨gb, off + j * 13 + 7, none⟩ = some (.bool x.r.2.2.2) := hce 7 _ rfl
       have e8_ : wr.cell? ⟨gb, off + j * 13 + 8, none⟩ = some (.int .i64 x.q.1) := hce 8 _ rfl
       have e9_ : wr.cell? ⟨gb, off + j * 13 + 9, none⟩ = some (.int .i64 x.q.2.1) := hce 9 _ rfl
       have e10_ : wr.cell? ⟨gb, off + j * 13 + 10, none⟩ = some (.bool x.q.2.2.1) := hce 10 _ rfl
       have e11_ : wr.cell? ⟨gb, off + j * 13 + 11, none⟩ = some (.bool x.q.2.2.2) := hce 11 _ rfl
       have e12_ : wr.cell? ⟨gb, off + j * 13 + 12, none⟩ = some (.slice pp ln' cl') := hce 12 _ rfl
       clear hI hx1 hLx hce hcl hln'
       go_wp2_with fail
       refine (HCW.out _ ((Ext.refl _).alloc _)).mono ?_
       rintro e w1 ⟨rfl, E1⟩
       have HE1 : Hid (Ext W w1) := (HE.out.1.alloc _).trans E1
       have HB1 : Hid (BlkX w1 W.heap.size t (.slice (some ⟨gb, off, none⟩) ln cl)) := HBX.out.ext (((Ext.refl _).alloc _).trans E1)
       clear E1 k0 k1 k2 k3 k4 k5 k6 k7 k8 k9 k10 k11 k12 e0_ e1_ e2_ e3_ e4_ e5_ e6_ e7_ e8_ e9_ e10_ e11_ e12_
       cases hgx : wellT n x
       · have HG : Hid ((wellT n) x = false) := by show _ = _; skip; exact hgx
         clear hgx
         have HR : Hid (t.l.all (wellT n) = false) := by
           show _ = _
           rw [List.all_eq_false]
           exact ⟨x, List.mem_of_getElem? HX1.out, by rw [HG.out]; simp⟩
         go_wp2_with fail
         go_ret
         exact ⟨ret_bool (by rw [HX.out, HR.out]; try simp), HE1.out⟩
       · have HG : Hid ((wellT n) x = true) := by show _ = _; skip; exact hgx
         clear hgx
         have HR : Hid ((t.l.take (j + 1)).all (wellT n) = true) := by show _ = _; rw [allx_take9 HX1.out, HE.out.2, HG.out]; rfl
         go_wp2_with fail
         go_roundw
         case rel => exact ⟨j + 1, by omega, by go_num, HR.out, HB1.out, HE1.out⟩
         case measure => show ln - ((j : Int) + 1).toNat < ln - ((j : Int)).toNat; omega
     · have hltI : ¬ (j : Int) < (ln : Int) := by omega
       have HR : Hid (t.l.all (wellT n) = true) := by
         show _ = _
         have := HE.out.2
         rw [List.take_of_length_le (by have := HLN.out; omega)] at this
         exact this
       go_wp2_with fail
       go_ret
       exact ⟨ret_bool (by rw [HX.out, HR.out]; try rfl), HE.out.1⟩
 · have HX : Hid (wellT (n + 1) t = false) := by show _ = _; rw [HX.out]; simp [h1]
   rcases Nat.lt_or_gt_of_ne h1 with h2 | h2
   · have d1 : (ln : Int) < 2 := by omega
     clear h1 h2
     go_enter Try.func23, Try.ntmps23
     go_wp2_with fail
     refine (cB _).mono ?_
     rintro e w1 ⟨rfl, rfl⟩
     go_wp2_with fail
     go_ret
     exact ⟨ret_bool (by rw [HX.out]; try rfl), (Ext.refl _).alloc _⟩
   · have d1 : ¬ (ln : Int) < 2 := by omega
     have d2 : 2 < (ln : Int) := by omega
     clear h1 h2
     go_enter Try.func23, Try.ntmps23
     go_wp2_with fail
     refine (cB _).mono ?_
     rintro e w1 ⟨rfl, rfl⟩
     go_wp2_with fail
     go_ret
     exact ⟨ret_bool (by rw [HX.out]; try rfl), (Ext.refl _).alloc _⟩
set_option maxRecDepth 100000 in
theorem rwell_call (P : Nat → Prop) (n : Nat) (t : T) (hk : t.k = 8) (hl : t.l.length ≤ 100000) (hx : ∀ x ∈ t.l, ATr 23 P (wellT n) x) : ATr 23 P (wellT (n + 1)) t := by
 intro W pp ln cl h
 have hln : t.l.length = ln := by
   obtain ⟨p, c, h1, _⟩ := h.form
   cases h1; rfl
 have hl2 : ln ≤ 100000 := by omega
 have e0 : (t.k == 0) = false := by rw [hk]; rfl
 have e1 : (t.k == 1) = false := by rw [hk]; rfl
 have e2 : (t.k == 2) = false := by rw [hk]; rfl
 have e3 : (t.k == 3) = false := by rw [hk]; rfl
 have e4 : (t.k == 4) = false := by rw [hk]; rfl
 have e6 : (t.k == 6) = false := by rw [hk]; rfl
 have e7 : (t.k == 7) = false := by rw [hk]; rfl
 have e8 : (t.k == 8) = true := by rw [hk]; rfl
 have HX : Hid (wellT (n + 1) t = ((kno t.s).isSome && decide (knA t.s ≤ (ln : Int)) && decide ((ln : Int) ≤ knB t.s) && t.l.all (argT n))) := by show _ = _; unfold wellT; simp [hk, hln]; try rfl
 have HI : Hid (IsL W P (.slice pp ln cl) t.l) := h
 have HLN : Hid (t.l.length = ln) := hln
 have HXX : Hid (∀ x ∈ t.l, ATr 23 P (wellT n) x) := hx
 have cK := fun W => rknown_any (bs t.s) W
 have es : (bs t.s).data.toList = t.s := rfl
 rw [es] at cK
 obtain ⟨ka, hka⟩ : ∃ ka, knA t.s = ka := ⟨_, rfl⟩
 obtain ⟨kb, hkb⟩ : ∃ kb, knB t.s = kb := ⟨_, rfl⟩
 obtain ⟨ks, hks⟩ : ∃ ks, (kno t.s).isSome = ks := ⟨_, rfl⟩
 rw [hka, hkb, hks] at cK HX
 clear hk hl hx h hln es hka hkb hks
 cases ks
 · have HX : Hid (wellT (n + 1) t = false) := by show _ = _; rw [HX.out]; rfl
   go_enter Try.func23, Try.ntmps23
   go_wp2_with fail
   refine (cK _).mono ?_
   rintro e w1 ⟨rfl, rfl⟩
   go_wp2_with fail
   go_ret
   exact ⟨ret_bool (by rw [HX.out]; try rfl), (Ext.refl _).alloc _⟩
 have HX : Hid (wellT (n + 1) t = (decide (ka ≤ (ln : Int)) && decide ((ln : Int) ≤ kb) && t.l.all (argT n))) := by show _ = _; rw [HX.out, Bool.true_and]
 by_cases h1 : (ln : Int) < ka
 · have HX : Hid (wellT (n + 1) t = false) := by
     show _ = _
     have : decide (ka ≤ (ln : Int)) = false := by simp; omega
     rw [HX.out, this]; rfl
   go_enter Try.func23, Try.ntmps23
   go_wp2_with fail
   refine (cK _).mono ?_
   rintro e w1 ⟨rfl, rfl⟩
   go_wp2_with fail
   go_ret
   exact ⟨ret_bool (by rw [HX.out]; try rfl), (Ext.refl _).alloc _⟩
 by_cases h2 : kb < (ln : Int)
 · have HX : Hid (wellT (n + 1) t = false) := by
     show _ = _
     have : decide ((ln : Int) ≤ kb) = false := by simp; omega
     rw [HX.out, this]; simp
   go_enter Try.func23, Try.ntmps23
   go_wp2_with fail
   refine (cK _).mono ?_
   rintro e w1 ⟨rfl, rfl⟩
   go_wp2_with fail
   go_ret
   exact ⟨ret_bool (by rw [HX.out]; try rfl), (Ext.refl _).alloc _⟩
 have HX : Hid (wellT (n + 1) t = t.l.all (argT n)) := by
   show _ = _
   have k1 : decide (ka ≤ (ln : Int)) = true := by simp; omega
   have k2 : decide ((ln : Int) ≤ kb) = true := by simp; omega
   rw [HX.out, k1, k2]; rfl
 go_enter Try.func23, Try.ntmps23
 go_wp2_with fail
 refine (cK _).mono ?_
 rintro e w1 ⟨rfl, rfl⟩
 go_wp2_with fail
 clear h1 h2 cK
 go_loopw [8] (fun iv wr => ∃ j : Nat, j ≤ ln ∧ iv = .int .i64 (j : Int) ∧ (t.l.take j).all (argT n) = true ∧ BlkX wr W.heap.size t (.slice pp ln cl) ∧ Ext W wr) (fun iv _ => ln - (intOf iv).toNat)
 case atStart => exact ⟨0, Nat.zero_le _, rfl, rfl, blk13_top rfl (Ext.refl _), (Ext.refl _).alloc _⟩
 case round =>
   obtain ⟨j, hj, rfl, hg, hB, hE⟩ := hrel
   have HE : Hid (Ext W wr ∧ (t.l.take j).all (argT n) = true) := ⟨hE, hg⟩
   have HBX : Hid (BlkX wr W.heap.size t (.slice pp ln cl)) := hB
   obtain ⟨qz, ⟨k0, k1, k2, k3, k4, k5, k6, k7, k8, k9, k10, k11, k12⟩, gz⟩ := hB
   clear hE hg gz
   by_cases hlt : j < ln
   · have hltI : (j : Int) < (ln : Int) := by omega
     have hI := HI.out.ext HE.out.1
     obtain ⟨gb, off, x, lv, hpp, hx1, hA1, hgb, hA2, hLx, hce⟩ := hI.at (i := j) (by rw [HLN.out]; exact hlt)
     clear hA1 hA2
     subst hpp
     obtain ⟨pp, cl', hlv, hcl⟩ := hLx.form
     obtain ⟨ln', hln'⟩ : ∃ ln', x.l.length = ln' := ⟨_, rfl⟩
     rw [hln'] at hlv
     subst hlv
     have HX1 : Hid (t.l[j]? = some x) := hx1
     have HLX : Hid (IsL wr P (.slice pp ln' cl') x.l) := hLx
     have HCW : Hid (∀ W', Ext wr W' → Calls Try.prog 23 #[.agg #[.int .i64 x.k, .int .i64 x.n, .string (bs x.s), .int .i64 x.e, .int .i64 x.r.1, .int .i64 x.r.2.1, .bool x.r.2.2.1, .bool x.r.2.2.2, .int .i64 x.q.1, .int .i64 x.q.2.1, .bool x.q.2.2.1, .bool x.q.2.2.2, .slice pp ln' cl']] W' fun e w' => e = .returned (.bool (wellT n x)) ∧ Ext W' w') := fun W' e => HXX.out x (List.mem_of_getElem? hx1) W' pp ln' cl' (hLx.ext e)
     have e0_ : wr.cell? ⟨gb, off + j * 13, none⟩ = some (.int .i64 x.k) := hce 0 _ rfl
     have e1_ : wr.cell? ⟨gb, off + j * 13 + 1, none⟩ = some (.int .i64 x.n) := hce 1 _ rfl
     have e2_ : wr.cell? ⟨gb, off + j * 13 + 2, none⟩ = some (.string (bs x.s)) := hce 2 _ rfl
     have e3_ : wr.cell? ⟨gb, off + j * 13 + 3, none⟩ = some (.int .i64 x.e) := hce 3 _ rfl
     have e4_ : wr.cell? ⟨gb, off + j * 13 + 4, none⟩ = some (.int .i64 x.r.1) := hce 4 _ rfl
     have e5_ : wr.cell? ⟨gb, off + j * 13 + 5, none⟩ = some (.int .i64 x.r.2.1) := hce 5 _ rfl
     have e6_ : wr.cell? ⟨gb, off + j * 13 + 6, none⟩ = some (.bool x.r.2.2.1) := hce 6 _ rfl
     have e7_ : wr.cell? ⟨gb, off + j * 13 + 7, none⟩ = some (.bool x.r.2.2.2) := hce 7 _ rfl
     have e8_ : wr.cell? ⟨gb, off + j * 13 + 8, none⟩ = some (.int .i64 x.q.1) := hce 8 _ rfl
     have e9_ : wr.cell? ⟨gb, off + j * 13 + 9, none⟩ = some (.int .i64 x.q.2.1) := hce 9 _ rfl
     have e10_ : wr.cell? ⟨gb, off + j * 13 + 10, none⟩ = some (.bool x.q.2.2.1) := hce 10 _ rfl
     have e11_ : wr.cell? ⟨gb, off + j * 13 + 11, none⟩ = some (.bool x.q.2.2.2) := hce 11 _ rfl
     have e12_ : wr.cell? ⟨gb, off + j * 13 + 12, none⟩ = some (.slice pp ln' cl') := hce 12 _ rfl
     clear hI hx1 hLx hce hcl hln'
     by_cases k5 : x.k = 5
     · have c1 := fun W => ron_any x.r.1 x.r.2.1 x.r.2.2.1 x.r.2.2.2 W
       have c2 := fun W => ron_any x.q.1 x.q.2.1 x.q.2.2.1 x.q.2.2.2 W
       have HY : Hid (argT n x = (inB x.r.1 x.r.2.1 && inB x.q.1 x.q.2.1)) := by show _ = _; unfold argT; rw [if_pos k5]
       have x5 : (x.k == 5) = true := by rw [k5]; rfl
       clear k5
       cases h1 : inB x.r.1 x.r.2.1
       · rw [h1] at c1 HY
         clear h1
         have HG : Hid ((argT n) x = false) := HY.out
         go_wp2_with fail
         refine (c1 _).mono ?_
         rintro e w1 ⟨rfl, E1⟩
         have HE1 : Hid (Ext W w1) := (HE.out.1.alloc _).trans E1
         clear E1 k0 k1 k2 k3 k4 k5 k6 k7 k8 k9 k10 k11 k12 e0_ e1_ e2_ e3_ e4_ e5_ e6_ e7_ e8_ e9_ e10_ e11_ e12_
         have HR : Hid (t.l.all (argT n) = false) := by
           show _ = _
           rw [List.all_eq_false]
           exact ⟨x, List.mem_of_getElem? HX1.out, by rw [HG.out]; simp⟩
         go_wp2_with fail
         go_ret
         exact ⟨ret_bool (by rw [HX.out, HR.out]; try simp), HE1.out⟩
       · rw [h1] at c1 HY
         clear h1
         go_wp2_with fail
         refine (c1 _).mono ?_
         rintro e w1 ⟨rfl, E1⟩
         have HE1 : Hid (Ext W w1) := (HE.out.1.alloc _).trans E1
         have HB1 : Hid (BlkX w1 W.heap.size t (.slice (some ⟨gb, off, none⟩) ln cl)) := HBX.out.ext (((Ext.refl _).alloc _).trans E1)
         obtain ⟨qx, ⟨x0, x1, x2, x3, x4, x5, x6, x7, x8, x9, x10, x11, x12⟩, gx⟩ := blk13_top (b := wr.heap.size) rfl E1
         clear E1 gx k0 k1 k2 k3 k4 k5 k6 k7 k8 k9 k10 k11 k12 e0_ e1_ e2_ e3_ e4_ e5_ e6_ e7_ e8_ e9_ e10_ e11_ e12_
         cases h2 : inB x.q.1 x.q.2.1
         · rw [h2] at c2 HY
           clear h2
           have HG : Hid ((argT n) x = false) := HY.out
           go_wp2_with fail
           refine (c2 _).mono ?_
           rintro e w2 ⟨rfl, E2⟩
           have HE2 : Hid (Ext W w2) := HE1.out.trans E2
           clear E2
           have HR : Hid (t.l.all (argT n) = false) := by
             show _ = _
             rw [List.all_eq_false]
             exact ⟨x, List.mem_of_getElem? HX1.out, by rw [HG.out]; simp⟩
           go_wp2_with fail
           go_ret
           exact ⟨ret_bool (by rw [HX.out, HR.out]; try simp), HE2.out⟩
         · rw [h2] at c2 HY
           clear h2
           have HG : Hid ((argT n) x = true) := HY.out
           go_wp2_with fail
           refine (c2 _).mono ?_
           rintro e w2 ⟨rfl, E2⟩
           have HE2 : Hid (Ext W w2) := HE1.out.trans E2
           have HB2 : Hid (BlkX w2 W.heap.size t (.slice (some ⟨gb, off, none⟩) ln cl)) := HB1.out.ext E2
           clear E2
           have HR : Hid ((t.l.take (j + 1)).all (argT n) = true) := by show _ = _; rw [allx_take9 HX1.out, HE.out.2, HG.out]; rfl
           go_wp2_with fail
           go_roundw
           case rel => exact ⟨j + 1, by omega, by go_num, HR.out, HB2.out, HE2.out⟩
           case measure => show ln - ((j : Int) + 1).toNat < ln - ((j : Int)).toNat; omega
     · have x5 : (x.k == 5) = false := by simpa using k5
       have HK5 : Hid (¬ x.k = 5) := k5
       clear k5
       go_wp2_with fail
       refine (HCW.out _ ((Ext.refl _).alloc _)).mono ?_
       rintro e w1 ⟨rfl, E1⟩
       have HE1 : Hid (Ext W w1) := (HE.out.1.alloc _).trans E1
       have HB1 : Hid (BlkX w1 W.heap.size t (.slice (some ⟨gb, off, none⟩) ln cl)) := HBX.out.ext (((Ext.refl _).alloc _).trans E1)
       clear E1 k0 k1 k2 k3 k4 k5 k6 k7 k8 k9 k10 k11 k12 e0_ e1_ e2_ e3_ e4_ e5_ e6_ e7_ e8_ e9_ e10_ e11_ e12_
       cases hgx : wellT n x
       · have HG : Hid ((argT n) x = false) := by show _ = _; unfold argT; rw [if_neg HK5.out]; exact hgx
         clear hgx
         have HR : Hid (t.l.all (argT n) = false) := by
           show _ = _
           rw [List.all_eq_false]
           exact ⟨x, List.mem_of_getElem? HX1.out, by rw [HG.out]; simp⟩
         go_wp2_with fail
         go_ret
         exact ⟨ret_bool (by rw [HX.out, HR.out]; try simp), HE1.out⟩
       · have HG : Hid ((argT n) x = true) := by show _ = _; unfold argT; rw [if_neg HK5.out]; exact hgx
         clear hgx
         have HR : Hid ((t.l.take (j + 1)).all (argT n) = true) := by show _ = _; rw [allx_take9 HX1.out, HE.out.2, HG.out]; rfl
         go_wp2_with fail
         go_roundw
         case rel => exact ⟨j + 1, by omega, by go_num, HR.out, HB1.out, HE1.out⟩
         case measure => show ln - ((j : Int) + 1).toNat < ln - ((j : Int)).toNat; omega
   · have hltI : ¬ (j : Int) < (ln : Int) := by omega
     have HR : Hid (t.l.all (argT n) = true) := by
       show _ = _
       have := HE.out.2
       rw [List.take_of_length_le (by have := HLN.out; omega)] at this
       exact this
     go_wp2_with fail
     go_ret
     exact ⟨ret_bool (by rw [HX.out, HR.out]; try rfl), HE.out.1⟩
theorem rwell_any (P : Nat → Prop) (n : Nat) (t : T) (h : Hr n t) : ATr 23 P (wellT n) t := by
 induction n generalizing t with
 | zero => cases h
 | succ n ih =>
   have hx : ∀ x ∈ t.l, ATr 23 P (wellT n) x := fun x hx => ih x (h.2 x hx)
   by_cases k6 : t.k = 6
   · exact rwell_neg P n t k6 h.1 hx
   by_cases k7 : t.k = 7
   · exact rwell_bin P n t k7 h.1 hx
   by_cases k8 : t.k = 8
   · exact rwell_call P n t k8 h.1 hx
   exact rwell_leaf P n t k6 k7 k8
end Go.Proofs.Ytcggiljlilbdfaa

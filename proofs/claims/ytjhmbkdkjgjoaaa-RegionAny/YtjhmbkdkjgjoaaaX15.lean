import Derived.Deep.RegionHeld3
import Derived.Test.YtjhmbkdkjgjoaaaX13
import Derived.Test.YtjhmbkdkjgjoaaaX14
import Derived.Laws.EntriesVeiled
import Derived.Test.YtjhmbkdkjgjoaaaX12
namespace Go.Proofs.Ytjhmbkdkjgjoaaa
open Go
section
variable {P : Program} {ops : Array Oper} {Q : Exit → Act → World → Prop} {md : Region.Mode} {B : Nat → Bool} {S : World → Prop}
def wpBar (P : Program) (md : Region.Mode) (ops : Array Oper) (Q : Exit → Act → World → Prop) (B : Nat → Bool) (S : World → Prop) : Nat → Array Bool → Act → World → Prop
 | 0, l, a, w => Region.ready md ops l = [] ∧ Q .normal a w
 | n + 1, l, a, w => (Region.ready md ops l = [] → Q .normal a w) ∧ ∀ i ∈ Region.ready md ops l, wpOp P ops Q i (fun x v => (B i = false → S v) ∧ wpBar P md ops Q B S n (l.setIfInBounds i true) x v) a w
theorem any_of_bar : ∀ (n : Nat) (l : Array Bool) (a : Act) (w : World), wpBar P md ops Q B S n l a w → wpAny P md ops Q n l a w
 | 0, _, _, _, h => h
 | n + 1, _, _, _, h => ⟨h.1, fun i hi => wpOp_mono (fun x v k => any_of_bar n _ x v k.2) (h.2 i hi)⟩
def Waits (md : Region.Mode) (ops : Array Oper) (B : Nat → Bool) (i : Nat) (l : Array Bool) : Prop :=
 ∀ j o, ops[j]? = some o → B j = true → ∃ e ∈ o.after, Region.binds md e = true ∧ (e.on = i ∨ (l.getD e.on true = false ∧ ∃ k, ops[e.on]? = some k ∧ ∃ e' ∈ k.after, Region.binds md e' = true ∧ e'.on = i))
def waitsB (md : Region.Mode) (ops : Array Oper) (B : Nat → Bool) (i : Nat) (l : Array Bool) : Bool :=
 (List.range ops.size).all fun j => !B j || (match ops[j]? with
   | none => true
   | some o => o.after.any fun e => Region.binds md e && (e.on == i || (!l.getD e.on true && (match ops[e.on]? with
     | none => false
     | some k => k.after.any fun e' => Region.binds md e' && e'.on == i))))
theorem waits_of {i : Nat} {l : Array Bool} (h : waitsB md ops B i l = true) : Waits md ops B i l := by
 intro j o ho hb
 have hj : j < ops.size := by
   rcases Nat.lt_or_ge j ops.size with h' | h'
   · exact h'
   · rw [Array.getElem?_eq_none h'] at ho; cases ho
 have h1 := List.all_eq_true.1 h j (List.mem_range.2 hj)
 rw [hb, ho] at h1
 simp only [Bool.not_true, Bool.false_or] at h1
 obtain ⟨e, he, h2⟩ := Array.any_eq_true'.1 h1
 simp only [Bool.and_eq_true, Bool.or_eq_true, beq_iff_eq, Bool.not_eq_true'] at h2
 refine ⟨e, he, h2.1, ?_⟩
 rcases h2.2 with h3 | ⟨h3, h4⟩
 · exact .inl h3
 · cases hk : ops[e.on]? with
   | none => rw [hk] at h4; cases h4
   | some k =>
     rw [hk] at h4
     obtain ⟨e', he', h5⟩ := Array.any_eq_true'.1 h4
     simp only [Bool.and_eq_true, beq_iff_eq] at h5
     exact .inr ⟨h3, k, rfl, e', he', h5.1, h5.2⟩
theorem lst {l : Array Bool} {k : Nat} (h : l.getD k false = true) : ¬ l.getD k true = false := by
 rcases Nat.lt_or_ge k l.size with h' | h'
 · simp [h'] at h ⊢; exact h
 · simp [Array.getElem?_eq_none h'] at h
theorem bar_no {i j : Nat} {l : Array Bool} (hW : Waits md ops B i l) (hi : i ∈ Region.ready md ops l) (hj : j ∈ Region.ready md ops l) : B j = false := by
 obtain ⟨_, o, ho, hall⟩ := mem_ready.1 hj
 have hu := (mem_ready.1 hi).1
 cases hb : B j
 · rfl
 · obtain ⟨e, he, hbe, h | ⟨h, _⟩⟩ := hW j o ho hb
   · exact absurd hu (lst (by rw [← h]; exact hall e he hbe))
   · exact absurd h (lst (hall e he hbe))
theorem Waits.step {i j : Nat} {l : Array Bool} (hW : Waits md ops B i l) (hi : i ∈ Region.ready md ops l) (hj : j ∈ Region.ready md ops l) : Waits md ops B i (l.setIfInBounds j true) := by
 intro k o ho hb
 obtain ⟨_, oj, hoj, hall⟩ := mem_ready.1 hj
 have hu := (mem_ready.1 hi).1
 obtain ⟨e, he, hbe, h | ⟨h, m, hm, e', he', hb', h'⟩⟩ := hW k o ho hb
 · exact ⟨e, he, hbe, .inl h⟩
 · refine ⟨e, he, hbe, .inr ⟨?_, m, hm, e', he', hb', h'⟩⟩
   have hne : j ≠ e.on := by
     intro hje
     rw [← hje, hoj] at hm
     obtain rfl := Option.some.inj hm
     exact absurd hu (lst (by rw [← h']; exact hall e' he' hb'))
   rw [getD_set_ne true hne]; exact h
theorem bar_first {i : Nat} {oi : Oper} {v : Value} (hi : ops[i]? = some oi) (hsel : ∀ (j : Nat) (o : Oper) cs b, ops[j]? = some o → o.op ≠ .select cs b)
   (hQ : ∀ c a w, Q (.panic c) (a.put oi.dst v) w → Q (.panic c) a w) : ∀ (n : Nat) (l : Array Bool) (a : Act) (w : World),
     (∀ j oj, ops[j]? = some oj → j ≠ i → l.getD j true = false → (∀ e ∈ oj.after, Region.binds md e = true → e.on ≠ i) → oi.apart ops oj = true) →
     Waits md ops B i l → i ∈ Region.ready md ops l → YieldsIf P ops S oi v a → S w →
     wpBar P md ops Q B S n (l.setIfInBounds i true) (a.put oi.dst v) w → wpBar P md ops Q B S (n + 1) l a w := by
 intro n
 induction n with
 | zero =>
   intro l a w _ _ hr hy hS H
   refine ⟨fun h => (by rw [h] at hr; cases hr), fun j hj => ?_⟩
   by_cases hji : j = i
   · subst hji; exact hy.wpOp hi hS ⟨fun _ => hS, H⟩
   · have := ready_mono hj hji
     rw [H.1] at this
     cases this
 | succ n ih =>
   intro l a w hfree hW hr hy hS H
   refine ⟨fun h => (by rw [h] at hr; cases hr), fun j hj => ?_⟩
   by_cases hji : j = i
   · subst hji; exact hy.wpOp hi hS ⟨fun _ => hS, H⟩
   · have hB := bar_no hW hr hj
     obtain ⟨hun, oj, hoj, hall⟩ := mem_ready.1 hj
     have hno : ∀ e ∈ oj.after, Region.binds md e = true → e.on ≠ i := fun e he hb heq => absurd (mem_ready.1 hr).1 (lst (by rw [← heq]; exact hall e he hb))
     have step := wpOp_putIf hoj (hfree j oj hoj hji hun hno) (fun cs b => hsel i oi cs b hi) (fun cs b => hsel j oj cs b hoj) hQ hy (H.2 j (ready_mono hj hji))
     refine wpOp_mono (fun x u k => ?_) step
     have hSu := k.2.1 hB
     refine ⟨fun _ => hSu, ih _ x u (fun m om hm hmi hmun hmno => hfree m om hm hmi ?_ hmno) (hW.step hr hj) (ready_mono hr (Ne.symm hji)) k.1 hSu ?_⟩
     · by_cases hjm : j = m
       · subst hjm; exact hun
       · rw [getD_set_ne true hjm] at hmun; exact hmun
     · rw [Array.setIfInBounds_comm _ _ hji]; exact k.2.2
theorem bar_take {i : Nat} {oi : Oper} {v : Value} {n : Nat} {l : Array Bool} {a : Act} {w : World} (hi : ops[i]? = some oi) (hs : Region.noSelect ops = true) (hf : Region.free md ops l i = true)
   (hr : (Region.ready md ops l).contains i = true) (hw : waitsB md ops B i l = true) (hQ : ∀ c a w, Q (.panic c) (a.put oi.dst v) w → Q (.panic c) a w) (hy : YieldsIf P ops S oi v a) (hS : S w)
   (h : wpBar P md ops Q B S n (l.setIfInBounds i true) (a.put oi.dst v) w) : wpBar P md ops Q B S (n + 1) l a w :=
 bar_first hi (Region.noSelect_spec hs) hQ n l a w (Region.free_spec hi hf) (waits_of hw) (by simpa using hr) hy hS h
theorem bar_one {i : Nat} {o : Oper} {n : Nat} {l : Array Bool} {a : Act} {w : World} (hr : Region.ready md ops l = [i]) (ho : ops[i]? = some o)
   (h : ∀ K : Act → World → Prop, Shut (∀ a w, (B i = false → S w) → wpBar P md ops Q B S n (l.setIfInBounds i true) a w → K a w) → if Region.wanted o (yielded ops a.tmps) = true then Oper.wp P o a w K Q else K (a.put o.dst undef) w) :
   wpBar P md ops Q B S (n + 1) l a w := by
 refine ⟨fun h0 => (by rw [hr] at h0; cases h0), fun j hj => ?_⟩
 rw [hr] at hj
 obtain rfl : j = i := by simpa using hj
 exact wpOp_step ho fun K hK => h K fun a w hS hW => hK a w ⟨hS, hW⟩
theorem bar_done {l : Array Bool} {a : Act} {w : World} (hr : Region.ready md ops l = []) (h : Q .normal a w) : ∀ n, wpBar P md ops Q B S n l a w
 | 0 => ⟨hr, h⟩
 | _ + 1 => ⟨fun _ => h, by rw [hr]; simp⟩
theorem bar_begin {id : Nat} {a : Act} {w : World} (hm : P.follows .mixedOrders = true) (h : wpBar P .any ops Q B S ops.size (Array.replicate ops.size false) a w.drew) : (Code.region id ops true).wp P Q a w :=
 wp_region_any hm (any_of_bar _ _ _ _ h)
end
open Go.RowKit
set_option maxHeartbeats 6000000
set_option maxRecDepth 100000 in
theorem hasParts_any (t : T) (lv : Value) (W : World) : Calls Try.prog 79 #[.agg #[.int .i64 t.k, .int .i64 t.n, .string (bs t.s), .int .i64 t.e, .int .i64 t.r.1, .int .i64 t.r.2.1, .bool t.r.2.2.1, .bool t.r.2.2.2, .int .i64 t.q.1, .int .i64 t.q.2.1, .bool t.q.2.2.1, .bool t.q.2.2.2, lv]] W fun e w' => e = .returned (.bool (prB t.k)) ∧ Ext W w' := by
 by_cases k6 : t.k = 6
 · have e6 : (t.k == 6) = true := by rw [k6]; rfl
   have HX : Hid (prB t.k = true) := by show _ = _; unfold prB; rw [k6]; rfl
   clear k6
   go_enter Try.func79, Try.ntmps79
   go_wp2_with fail
   go_ret
   exact ⟨ret_bool HX.out.symm, (Ext.refl _).alloc _⟩
 by_cases k7 : t.k = 7
 · have e6 : (t.k == 6) = false := by simpa using k6
   have e7 : (t.k == 7) = true := by rw [k7]; rfl
   have HX : Hid (prB t.k = true) := by show _ = _; unfold prB; rw [k7]; rfl
   clear k6 k7
   go_enter Try.func79, Try.ntmps79
   go_wp2_with fail
   go_ret
   exact ⟨ret_bool HX.out.symm, (Ext.refl _).alloc _⟩
 · have e6 : (t.k == 6) = false := by simpa using k6
   have e7 : (t.k == 7) = false := by simpa using k7
   have HX : Hid (prB t.k = (t.k == 8)) := by show _ = _; unfold prB; rw [Bool.eq_iff_iff]; simp [k6, k7]
   clear k6 k7
   go_enter Try.func79, Try.ntmps79
   go_wp2_with fail
   go_ret
   exact ⟨ret_bool HX.out.symm, (Ext.refl _).alloc _⟩
set_option maxRecDepth 100000 in
theorem same_copy (t : T) (pp : Option Addr) (ln cl : Nat) (W : World) : Calls Try.prog 80 #[.agg #[.int .i64 t.k, .int .i64 t.n, .string (bs t.s), .int .i64 t.e, .int .i64 t.r.1, .int .i64 t.r.2.1, .bool t.r.2.2.1, .bool t.r.2.2.2, .int .i64 t.q.1, .int .i64 t.q.2.1, .bool t.q.2.2.1, .bool t.q.2.2.2, .slice pp ln cl]] W fun e w' => e = .returned (aggX t (.slice pp ln cl)) ∧ Ext W w' := by
 go_enter Try.func80, Try.ntmps80
 go_wp2_with fail
 refine bodyPost_ret (v := aggX t (.slice pp ln cl)) (by simp [results, Try.results80, go_sem, aggX]) rfl ⟨rfl, ((Ext.refl _).alloc _).alloc _⟩
set_option maxRecDepth 100000 in
theorem moved1_any (r : Rf) (dr dc : Int) (rp cp : Nat) (W : World) (h1 : W.cell? ⟨rp, 0, none⟩ = some (.int .i64 dr)) (h2 : W.cell? ⟨cp, 0, none⟩ = some (.int .i64 dc)) (z1 : rp < W.heap.size) (z2 : cp < W.heap.size) :
   Calls Try.prog 81 #[.agg #[.int .i64 r.1, .int .i64 r.2.1, .bool r.2.2.1, .bool r.2.2.2], .pointer (some ⟨rp, 0, none⟩), .pointer (some ⟨cp, 0, none⟩)] W fun e w' => e = .returned (.agg #[.int .i64 (mvF dr dc r).1, .int .i64 (mvF dr dc r).2.1, .bool (mvF dr dc r).2.2.1, .bool (mvF dr dc r).2.2.2]) ∧ Ext W w' := by
 obtain ⟨a, b, x, y⟩ := r
 cases x <;> cases y
 · go_enter Try.func81, Try.ntmps81
   go_wp2_with fail
   exact bodyPost_ret (v := .agg #[.int .i64 (wrap64 (a + dr)), .int .i64 (wrap64 (b + dc)), .bool false, .bool false]) (by simp [results, Try.results81, go_sem]) rfl ⟨rfl, ((Ext.refl _).alloc _).alloc _⟩
 · go_enter Try.func81, Try.ntmps81
   go_wp2_with fail
   exact bodyPost_ret (v := .agg #[.int .i64 (wrap64 (a + dr)), .int .i64 (b), .bool false, .bool true]) (by simp [results, Try.results81, go_sem]) rfl ⟨rfl, ((Ext.refl _).alloc _).alloc _⟩
 · go_enter Try.func81, Try.ntmps81
   go_wp2_with fail
   exact bodyPost_ret (v := .agg #[.int .i64 (a), .int .i64 (wrap64 (b + dc)), .bool true, .bool false]) (by simp [results, Try.results81, go_sem]) rfl ⟨rfl, ((Ext.refl _).alloc _).alloc _⟩
 · go_enter Try.func81, Try.ntmps81
   go_wp2_with fail
   exact bodyPost_ret (v := .agg #[.int .i64 (a), .int .i64 (b), .bool true, .bool true]) (by simp [results, Try.results81, go_sem]) rfl ⟨rfl, ((Ext.refl _).alloc _).alloc _⟩
set_option maxRecDepth 100000 in
theorem moved2_4 (t : T) (pp : Option Addr) (ln cl : Nat) (dr dc : Int) (mp rp cp : Nat) (W : World) (hm : W.cell? ⟨mp, 0, none⟩ = some (.func (.func 81) #[] #[.pointer (some ⟨rp, 0, none⟩), .pointer (some ⟨cp, 0, none⟩)])) (h1 : W.cell? ⟨rp, 0, none⟩ = some (.int .i64 dr)) (h2 : W.cell? ⟨cp, 0, none⟩ = some (.int .i64 dc)) (z0 : mp < W.heap.size) (z1 : rp < W.heap.size) (z2 : cp < W.heap.size) (hk : t.k = 4) :
   Calls Try.prog 82 #[.agg #[.int .i64 t.k, .int .i64 t.n, .string (bs t.s), .int .i64 t.e, .int .i64 t.r.1, .int .i64 t.r.2.1, .bool t.r.2.2.1, .bool t.r.2.2.2, .int .i64 t.q.1, .int .i64 t.q.2.1, .bool t.q.2.2.1, .bool t.q.2.2.2, .slice pp ln cl], .pointer (some ⟨mp, 0, none⟩)] W fun e w' => e = .returned (aggX (mvE dr dc t) (.slice pp ln cl)) ∧ Ext W w' := by
 have hent : ∀ args W, (callFunc 81 args).run Try.prog W = .ok (.enter 81 args) W := enters_of Try.func81 (by kernel_rfl) rfl
 have HC : Hid (∀ (r : Rf) (V : World), Ext W V → Calls Try.prog 81 #[.agg #[.int .i64 r.1, .int .i64 r.2.1, .bool r.2.2.1, .bool r.2.2.2], .pointer (some ⟨rp, 0, none⟩), .pointer (some ⟨cp, 0, none⟩)] V fun e w' => e = .returned (.agg #[.int .i64 (mvF dr dc r).1, .int .i64 (mvF dr dc r).2.1, .bool (mvF dr dc r).2.2.1, .bool (mvF dr dc r).2.2.2]) ∧ Ext V w') := fun r V e => moved1_any r dr dc rp cp V ((e.cell.1 rp 0 z1).trans h1) ((e.cell.1 cp 0 z2).trans h2) (Nat.lt_of_lt_of_le z1 e.sz) (Nat.lt_of_lt_of_le z2 e.sz)
 have HM : Hid (∀ V, Ext W V → V.cell? ⟨mp, 0, none⟩ = some (.func (.func 81) #[] #[.pointer (some ⟨rp, 0, none⟩), .pointer (some ⟨cp, 0, none⟩)])) := fun V e => (e.cell.1 mp 0 z0).trans hm
 have e4 : (t.k == 4) = true := by rw [hk]; rfl
 have HX : Hid (mvE dr dc t = t.wR (mvF dr dc t.r)) := if_pos hk
 obtain ⟨r, hr⟩ : ∃ r, mvF dr dc t.r = r := ⟨_, rfl⟩
 have c1 := HC.out t.r
 rw [hr] at c1 HX
 clear hk h1 h2 z1 z2 HC hr
 go_enter Try.func82, Try.ntmps82
 go_wp2_with fail
 refine (c1 _ (((Ext.refl _).alloc _).alloc _)).mono ?_
 rintro e w1 ⟨rfl, E1⟩
 have HB : Hid (BlkX w1 W.heap.size t (.slice pp ln cl) ∧ BlkX w1 (W.heap.size + 1) tz (.slice none 0 0) ∧ Ext W w1) := ⟨(blk13_top rfl ((Ext.refl _).alloc _)).ext E1, (BlkX.top (by simp) (Ext.refl _)).ext E1, (((Ext.refl _).alloc _).alloc _).trans E1⟩
 have HB0 := HB.out.1
 obtain ⟨qa, ⟨la0, la1, la2, la3, la4, la5, la6, la7, la8, la9, la10, la11, la12⟩, ga0, ga1, ga2, ga3, ga4, ga5, ga6, ga7, ga8, ga9, ga10, ga11, ga12⟩ := HB0
 have HB1 := HB.out.2.1
 obtain ⟨qc, ⟨lc0, lc1, lc2, lc3, lc4, lc5, lc6, lc7, lc8, lc9, lc10, lc11, lc12⟩, gc0, gc1, gc2, gc3, gc4, gc5, gc6, gc7, gc8, gc9, gc10, gc11, gc12⟩ := HB1
 clear E1 c1
 go_wp2_with fail
 show bodyPost Try.prog _ _ _ _ (putX ((((w1.setCell ⟨W.heap.size, 4, none⟩ (.int .i64 r.1)).setCell ⟨W.heap.size, 5, none⟩ (.int .i64 r.2.1)).setCell ⟨W.heap.size, 6, none⟩ (.bool r.2.2.1)).setCell ⟨W.heap.size, 7, none⟩ (.bool r.2.2.2)) (W.heap.size + 1) (t.wR r) (.slice pp ln cl))
 rw [HX.out]
 have B2 : BlkX ((((w1.setCell ⟨W.heap.size, 4, none⟩ (.int .i64 r.1)).setCell ⟨W.heap.size, 5, none⟩ (.int .i64 r.2.1)).setCell ⟨W.heap.size, 6, none⟩ (.bool r.2.2.1)).setCell ⟨W.heap.size, 7, none⟩ (.bool r.2.2.2)) (W.heap.size + 1) tz (.slice none 0 0) := Blk13.far1 (Blk13.far1 (Blk13.far1 (Blk13.far1 HB.out.2.1 (by omega) 4 _) (by omega) 5 _) (by omega) 6 _) (by omega) 7 _
 have E2 : Ext W ((((w1.setCell ⟨W.heap.size, 4, none⟩ (.int .i64 r.1)).setCell ⟨W.heap.size, 5, none⟩ (.int .i64 r.2.1)).setCell ⟨W.heap.size, 6, none⟩ (.bool r.2.2.1)).setCell ⟨W.heap.size, 7, none⟩ (.bool r.2.2.2)) := (((HB.out.2.2.setCell (p := ⟨W.heap.size, 4, none⟩) (Nat.le_refl _) _).setCell (p := ⟨W.heap.size, 5, none⟩) (Nat.le_refl _) _).setCell (p := ⟨W.heap.size, 6, none⟩) (Nat.le_refl _) _).setCell (p := ⟨W.heap.size, 7, none⟩) (Nat.le_refl _) _
 exact endR (B2.put (t.wR r) (.slice pp ln cl)) rfl ⟨rfl, putX_E E2 (by omega) _ _⟩ (fun h0 h1 h2 h3 h4 h5 h6 h7 h8 h9 h10 h11 h12 => by simp [results, Try.results82, go_sem, h0, h1, h2, h3, h4, h5, h6, h7, h8, h9, h10, h11, h12, aggX])
set_option maxRecDepth 100000 in
theorem moved2_0 (t : T) (pp : Option Addr) (ln cl : Nat) (dr dc : Int) (mp rp cp : Nat) (W : World) (hm : W.cell? ⟨mp, 0, none⟩ = some (.func (.func 81) #[] #[.pointer (some ⟨rp, 0, none⟩), .pointer (some ⟨cp, 0, none⟩)])) (h1 : W.cell? ⟨rp, 0, none⟩ = some (.int .i64 dr)) (h2 : W.cell? ⟨cp, 0, none⟩ = some (.int .i64 dc)) (z0 : mp < W.heap.size) (z1 : rp < W.heap.size) (z2 : cp < W.heap.size) (hk4 : t.k ≠ 4) (hk5 : t.k ≠ 5) :
   Calls Try.prog 82 #[.agg #[.int .i64 t.k, .int .i64 t.n, .string (bs t.s), .int .i64 t.e, .int .i64 t.r.1, .int .i64 t.r.2.1, .bool t.r.2.2.1, .bool t.r.2.2.2, .int .i64 t.q.1, .int .i64 t.q.2.1, .bool t.q.2.2.1, .bool t.q.2.2.2, .slice pp ln cl], .pointer (some ⟨mp, 0, none⟩)] W fun e w' => e = .returned (aggX (mvE dr dc t) (.slice pp ln cl)) ∧ Ext W w' := by
 have hent : ∀ args W, (callFunc 81 args).run Try.prog W = .ok (.enter 81 args) W := enters_of Try.func81 (by kernel_rfl) rfl
 have HC : Hid (∀ (r : Rf) (V : World), Ext W V → Calls Try.prog 81 #[.agg #[.int .i64 r.1, .int .i64 r.2.1, .bool r.2.2.1, .bool r.2.2.2], .pointer (some ⟨rp, 0, none⟩), .pointer (some ⟨cp, 0, none⟩)] V fun e w' => e = .returned (.agg #[.int .i64 (mvF dr dc r).1, .int .i64 (mvF dr dc r).2.1, .bool (mvF dr dc r).2.2.1, .bool (mvF dr dc r).2.2.2]) ∧ Ext V w') := fun r V e => moved1_any r dr dc rp cp V ((e.cell.1 rp 0 z1).trans h1) ((e.cell.1 cp 0 z2).trans h2) (Nat.lt_of_lt_of_le z1 e.sz) (Nat.lt_of_lt_of_le z2 e.sz)
 have HM : Hid (∀ V, Ext W V → V.cell? ⟨mp, 0, none⟩ = some (.func (.func 81) #[] #[.pointer (some ⟨rp, 0, none⟩), .pointer (some ⟨cp, 0, none⟩)])) := fun V e => (e.cell.1 mp 0 z0).trans hm
 have e4 : (t.k == 4) = false := by simpa using hk4
 have e5 : (t.k == 5) = false := by simpa using hk5
 have HX : Hid (mvE dr dc t = t) := by show _ = _; unfold mvE; rw [if_neg hk4, if_neg hk5]
 clear hk4 hk5 h1 h2 z1 z2 HC
 go_enter Try.func82, Try.ntmps82
 go_wp2_with fail
 rw [HX.out]
 exact bodyPost_ret (v := aggX t (.slice pp ln cl)) (by simp [results, Try.results82, go_sem, aggX]) rfl ⟨rfl, ((Ext.refl _).alloc _).alloc _⟩
set_option maxRecDepth 100000 in
theorem moved2_5 (t : T) (pp : Option Addr) (ln cl : Nat) (dr dc : Int) (mp rp cp : Nat) (W : World) (hm : W.cell? ⟨mp, 0, none⟩ = some (.func (.func 81) #[] #[.pointer (some ⟨rp, 0, none⟩), .pointer (some ⟨cp, 0, none⟩)])) (h1 : W.cell? ⟨rp, 0, none⟩ = some (.int .i64 dr)) (h2 : W.cell? ⟨cp, 0, none⟩ = some (.int .i64 dc)) (z0 : mp < W.heap.size) (z1 : rp < W.heap.size) (z2 : cp < W.heap.size) (hk : t.k = 5) :
   Calls Try.prog 82 #[.agg #[.int .i64 t.k, .int .i64 t.n, .string (bs t.s), .int .i64 t.e, .int .i64 t.r.1, .int .i64 t.r.2.1, .bool t.r.2.2.1, .bool t.r.2.2.2, .int .i64 t.q.1, .int .i64 t.q.2.1, .bool t.q.2.2.1, .bool t.q.2.2.2, .slice pp ln cl], .pointer (some ⟨mp, 0, none⟩)] W fun e w' => e = .returned (aggX (mvE dr dc t) (.slice pp ln cl)) ∧ Ext W w' := by
 have hent : ∀ args W, (callFunc 81 args).run Try.prog W = .ok (.enter 81 args) W := enters_of Try.func81 (by kernel_rfl) rfl
 have HC : Hid (∀ (r : Rf) (V : World), Ext W V → Calls Try.prog 81 #[.agg #[.int .i64 r.1, .int .i64 r.2.1, .bool r.2.2.1, .bool r.2.2.2], .pointer (some ⟨rp, 0, none⟩), .pointer (some ⟨cp, 0, none⟩)] V fun e w' => e = .returned (.agg #[.int .i64 (mvF dr dc r).1, .int .i64 (mvF dr dc r).2.1, .bool (mvF dr dc r).2.2.1, .bool (mvF dr dc r).2.2.2]) ∧ Ext V w') := fun r V e => moved1_any r dr dc rp cp V ((e.cell.1 rp 0 z1).trans h1) ((e.cell.1 cp 0 z2).trans h2) (Nat.lt_of_lt_of_le z1 e.sz) (Nat.lt_of_lt_of_le z2 e.sz)
 have HM : Hid (∀ V, Ext W V → V.cell? ⟨mp, 0, none⟩ = some (.func (.func 81) #[] #[.pointer (some ⟨rp, 0, none⟩), .pointer (some ⟨cp, 0, none⟩)])) := fun V e => (e.cell.1 mp 0 z0).trans hm
 have e4 : (t.k == 4) = false := by rw [hk]; rfl
 have e5 : (t.k == 5) = true := by rw [hk]; rfl
 have HX : Hid (mvE dr dc t = t.wRQ (mvF dr dc t.r) (mvF dr dc t.q)) := by show _ = _; unfold mvE; rw [if_neg (by omega), if_pos hk]
 obtain ⟨r, hr⟩ : ∃ r, mvF dr dc t.r = r := ⟨_, rfl⟩
 obtain ⟨q, hq⟩ : ∃ q, mvF dr dc t.q = q := ⟨_, rfl⟩
 have c1 := HC.out t.r
 have c2 := HC.out t.q
 rw [hr] at c1
 rw [hq] at c2
 rw [hr, hq] at HX
 clear hk h1 h2 z1 z2 HC hr hq
 go_enter Try.func82, Try.ntmps82
 go_wp2_with fail
 have HW1 : Hid (Ext W ((W.alloc (.cells #[.int .i64 t.k, .int .i64 t.n, .string (bs t.s), .int .i64 t.e, .int .i64 t.r.1, .int .i64 t.r.2.1, .bool t.r.2.2.1, .bool t.r.2.2.2, .int .i64 t.q.1, .int .i64 t.q.2.1, .bool t.q.2.2.1, .bool t.q.2.2.2, .slice pp ln cl] 29)).alloc (.cells #[.int .i64 0, .int .i64 0, .string ⟨#[]⟩, .int .i64 0, .int .i64 0, .int .i64 0, .bool false, .bool false, .int .i64 0, .int .i64 0, .bool false, .bool false, .slice none 0 0] 29))) := ((Ext.refl _).alloc _).alloc _
 have HB : Hid (BlkX ((W.alloc (.cells #[.int .i64 t.k, .int .i64 t.n, .string (bs t.s), .int .i64 t.e, .int .i64 t.r.1, .int .i64 t.r.2.1, .bool t.r.2.2.1, .bool t.r.2.2.2, .int .i64 t.q.1, .int .i64 t.q.2.1, .bool t.q.2.2.1, .bool t.q.2.2.2, .slice pp ln cl] 29)).alloc (.cells #[.int .i64 0, .int .i64 0, .string ⟨#[]⟩, .int .i64 0, .int .i64 0, .int .i64 0, .bool false, .bool false, .int .i64 0, .int .i64 0, .bool false, .bool false, .slice none 0 0] 29)) W.heap.size t (.slice pp ln cl) ∧ BlkX ((W.alloc (.cells #[.int .i64 t.k, .int .i64 t.n, .string (bs t.s), .int .i64 t.e, .int .i64 t.r.1, .int .i64 t.r.2.1, .bool t.r.2.2.1, .bool t.r.2.2.2, .int .i64 t.q.1, .int .i64 t.q.2.1, .bool t.q.2.2.1, .bool t.q.2.2.2, .slice pp ln cl] 29)).alloc (.cells #[.int .i64 0, .int .i64 0, .string ⟨#[]⟩, .int .i64 0, .int .i64 0, .int .i64 0, .bool false, .bool false, .int .i64 0, .int .i64 0, .bool false, .bool false, .slice none 0 0] 29)) (W.heap.size + 1) tz (.slice none 0 0)) := ⟨blk13_top rfl ((Ext.refl _).alloc _), BlkX.top (by simp) (Ext.refl _)⟩
 generalize ((W.alloc (.cells #[.int .i64 t.k, .int .i64 t.n, .string (bs t.s), .int .i64 t.e, .int .i64 t.r.1, .int .i64 t.r.2.1, .bool t.r.2.2.1, .bool t.r.2.2.2, .int .i64 t.q.1, .int .i64 t.q.2.1, .bool t.q.2.2.1, .bool t.q.2.2.2, .slice pp ln cl] 29)).alloc (.cells #[.int .i64 0, .int .i64 0, .string ⟨#[]⟩, .int .i64 0, .int .i64 0, .int .i64 0, .bool false, .bool false, .int .i64 0, .int .i64 0, .bool false, .bool false, .slice none 0 0] 29)) = W1 at *
 have mkS : Hid (∀ V, Ext W1 V → (V.cell? ⟨mp, 0, none⟩ = some (.func (.func 81) #[] #[.pointer (some ⟨rp, 0, none⟩), .pointer (some ⟨cp, 0, none⟩)])) ∧ (V.cell? ⟨W.heap.size, 0, none⟩ = some (.int .i64 t.k) ∧ V.cell? ⟨W.heap.size, 1, none⟩ = some (.int .i64 t.n) ∧ V.cell? ⟨W.heap.size, 2, none⟩ = some (.string (bs t.s)) ∧ V.cell? ⟨W.heap.size, 3, none⟩ = some (.int .i64 t.e) ∧ V.cell? ⟨W.heap.size, 4, none⟩ = some (.int .i64 t.r.1) ∧ V.cell? ⟨W.heap.size, 5, none⟩ = some (.int .i64 t.r.2.1) ∧ V.cell? ⟨W.heap.size, 6, none⟩ = some (.bool t.r.2.2.1) ∧ V.cell? ⟨W.heap.size, 7, none⟩ = some (.bool t.r.2.2.2) ∧ V.cell? ⟨W.heap.size, 8, none⟩ = some (.int .i64 t.q.1) ∧ V.cell? ⟨W.heap.size, 9, none⟩ = some (.int .i64 t.q.2.1) ∧ V.cell? ⟨W.heap.size, 10, none⟩ = some (.bool t.q.2.2.1) ∧ V.cell? ⟨W.heap.size, 11, none⟩ = some (.bool t.q.2.2.2) ∧ V.cell? ⟨W.heap.size, 12, none⟩ = some (.slice pp ln cl))) := fun V e => ⟨HM.out V (HW1.out.trans e), (HB.out.1.ext e).2.1⟩
 clear hm
 refine bar_begin (B := fun i => i == 9 || i == 10 || i == 11) (S := fun V => ((V.cell? ⟨mp, 0, none⟩ = some (.func (.func 81) #[] #[.pointer (some ⟨rp, 0, none⟩), .pointer (some ⟨cp, 0, none⟩)])) ∧ (V.cell? ⟨W.heap.size, 0, none⟩ = some (.int .i64 t.k) ∧ V.cell? ⟨W.heap.size, 1, none⟩ = some (.int .i64 t.n) ∧ V.cell? ⟨W.heap.size, 2, none⟩ = some (.string (bs t.s)) ∧ V.cell? ⟨W.heap.size, 3, none⟩ = some (.int .i64 t.e) ∧ V.cell? ⟨W.heap.size, 4, none⟩ = some (.int .i64 t.r.1) ∧ V.cell? ⟨W.heap.size, 5, none⟩ = some (.int .i64 t.r.2.1) ∧ V.cell? ⟨W.heap.size, 6, none⟩ = some (.bool t.r.2.2.1) ∧ V.cell? ⟨W.heap.size, 7, none⟩ = some (.bool t.r.2.2.2) ∧ V.cell? ⟨W.heap.size, 8, none⟩ = some (.int .i64 t.q.1) ∧ V.cell? ⟨W.heap.size, 9, none⟩ = some (.int .i64 t.q.2.1) ∧ V.cell? ⟨W.heap.size, 10, none⟩ = some (.bool t.q.2.2.1) ∧ V.cell? ⟨W.heap.size, 11, none⟩ = some (.bool t.q.2.2.2) ∧ V.cell? ⟨W.heap.size, 12, none⟩ = some (.slice pp ln cl)))) (by kernel_rfl) ?_
 have hS0 := mkS.out (World.drew W1) (Ext.refl _).drew
 refine bar_take (i := 0) (v := ?v0) rfl (by kernel_rfl) (by kernel_rfl) (by kernel_rfl) (by kernel_rfl) (fun _ _ _ h => h) (Or.inl ⟨by rfl, ?hy0⟩) hS0 ?rest0
 case hy0 => (intro W hSW; (try dsimp only at hSW); go_simp; with_reducible rfl)
 simp only [Act.put, List.setIfInBounds_toArray]
 refine bar_take (i := 1) (v := ?v1) rfl (by kernel_rfl) (by kernel_rfl) (by kernel_rfl) (by kernel_rfl) (fun _ _ _ h => h) (Or.inl ⟨by rfl, ?hy1⟩) hS0 ?rest1
 case hy1 => (intro W hSW; (try dsimp only at hSW); go_simp; with_reducible rfl)
 simp only [Act.put]
 refine bar_take (i := 2) (v := ?v2) rfl (by kernel_rfl) (by kernel_rfl) (by kernel_rfl) (by kernel_rfl) (fun _ _ _ h => h) (Or.inl ⟨by rfl, ?hy2⟩) hS0 ?rest2
 case hy2 => (intro W hSW; (try dsimp only at hSW); go_simp; with_reducible rfl)
 simp only [Act.put]
 refine bar_take (i := 4) (v := ?v4) rfl (by kernel_rfl) (by kernel_rfl) (by kernel_rfl) (by kernel_rfl) (fun _ _ _ h => h) (Or.inl ⟨by rfl, ?hy4⟩) hS0 ?rest4
 case hy4 => (intro W hSW; (try dsimp only at hSW); go_simp; with_reducible rfl)
 simp only [Act.put]
 refine bar_take (i := 5) (v := ?v5) rfl (by kernel_rfl) (by kernel_rfl) (by kernel_rfl) (by kernel_rfl) (fun _ _ _ h => h) (Or.inl ⟨by rfl, ?hy5⟩) hS0 ?rest5
 case hy5 => (intro W hSW; (try dsimp only at hSW); go_simp; with_reducible rfl)
 simp only [Act.put]
 refine bar_take (i := 6) (v := ?v6) rfl (by kernel_rfl) (by kernel_rfl) (by kernel_rfl) (by kernel_rfl) (fun _ _ _ h => h) (Or.inl ⟨by rfl, ?hy6⟩) hS0 ?rest6
 case hy6 => (intro W hSW; (try dsimp only at hSW); go_simp; with_reducible rfl)
 simp only [Act.put]
 refine bar_one (i := 3) (by kernel_rfl) rfl (fun KK hKK => ?_)
 go_simp
 go_wp2_with (refine Calls.mono (c1 _ (HW1.out.trans (Ext.refl _).drew)) ?_; rintro e w5 ⟨rfl, E5⟩)
 have X5 : Ext W1 w5 := Ext.trans (Ext.refl _).drew E5
 refine hKK.out _ _ (fun _ => mkS.out _ X5) ?_
 clear hKK KK hS0
 have hS0 := mkS.out w5 X5
 refine bar_take (i := 8) (v := ?v8) rfl (by kernel_rfl) (by kernel_rfl) (by kernel_rfl) (by kernel_rfl) (fun _ _ _ h => h) (Or.inl ⟨by rfl, ?hy8⟩) hS0 ?rest8
 case hy8 => (intro W hSW; (try dsimp only at hSW); go_simp; with_reducible rfl)
 simp only [Act.put, List.setIfInBounds_toArray]
 refine bar_one (i := 7) (by kernel_rfl) rfl (fun KK hKK => ?_)
 go_simp
 go_wp2_with (refine Calls.mono (c2 _ (HW1.out.trans X5)) ?_; rintro e w6 ⟨rfl, E6⟩)
 have X6 : Ext W1 w6 := X5.trans E6
 refine hKK.out _ _ (fun _ => mkS.out _ X6) ?_
 clear hKK KK hS0 mkS
 have HB6 : Hid (BlkX w6 W.heap.size t (.slice pp ln cl) ∧ BlkX w6 (W.heap.size + 1) tz (.slice none 0 0) ∧ Ext W w6) := ⟨HB.out.1.ext X6, HB.out.2.ext X6, HW1.out.trans X6⟩
 have HB0 := HB6.out.1
 obtain ⟨qa, ⟨la0, la1, la2, la3, la4, la5, la6, la7, la8, la9, la10, la11, la12⟩, ga0, ga1, ga2, ga3, ga4, ga5, ga6, ga7, ga8, ga9, ga10, ga11, ga12⟩ := HB0
 have HB1 := HB6.out.2.1
 obtain ⟨qc, ⟨lc0, lc1, lc2, lc3, lc4, lc5, lc6, lc7, lc8, lc9, lc10, lc11, lc12⟩, gc0, gc1, gc2, gc3, gc4, gc5, gc6, gc7, gc8, gc9, gc10, gc11, gc12⟩ := HB1
 refine bar_one (i := 9) (by kernel_rfl) rfl (fun KK hKK => ?_)
 go_simp
 refine hKK.out _ _ (fun h => absurd h (by decide)) ?_
 clear hKK KK
 refine bar_one (i := 10) (by kernel_rfl) rfl (fun KK hKK => ?_)
 go_simp
 refine hKK.out _ _ (fun h => absurd h (by decide)) ?_
 clear hKK KK
 refine bar_one (i := 11) (by kernel_rfl) rfl (fun KK hKK => ?_)
 go_simp
 refine hKK.out _ _ (fun h => absurd h (by decide)) ?_
 clear hKK KK
 refine bar_done (by kernel_rfl) ?_ _
 go_wp2_with fail
 show bodyPost Try.prog _ _ _ _ (putX ((((((((w6.setCell ⟨W.heap.size, 4, none⟩ (.int .i64 r.1)).setCell ⟨W.heap.size, 5, none⟩ (.int .i64 r.2.1)).setCell ⟨W.heap.size, 6, none⟩ (.bool r.2.2.1)).setCell ⟨W.heap.size, 7, none⟩ (.bool r.2.2.2)).setCell ⟨W.heap.size, 8, none⟩ (.int .i64 q.1)).setCell ⟨W.heap.size, 9, none⟩ (.int .i64 q.2.1)).setCell ⟨W.heap.size, 10, none⟩ (.bool q.2.2.1)).setCell ⟨W.heap.size, 11, none⟩ (.bool q.2.2.2)) (W.heap.size + 1) (t.wRQ r q) (.slice pp ln cl))
 rw [HX.out]
 have B2 : BlkX ((((((((w6.setCell ⟨W.heap.size, 4, none⟩ (.int .i64 r.1)).setCell ⟨W.heap.size, 5, none⟩ (.int .i64 r.2.1)).setCell ⟨W.heap.size, 6, none⟩ (.bool r.2.2.1)).setCell ⟨W.heap.size, 7, none⟩ (.bool r.2.2.2)).setCell ⟨W.heap.size, 8, none⟩ (.int .i64 q.1)).setCell ⟨W.heap.size, 9, none⟩ (.int .i64 q.2.1)).setCell ⟨W.heap.size, 10, none⟩ (.bool q.2.2.1)).setCell ⟨W.heap.size, 11, none⟩ (.bool q.2.2.2)) (W.heap.size + 1) tz (.slice none 0 0) := Blk13.far1 (Blk13.far1 (Blk13.far1 (Blk13.far1 (Blk13.far1 (Blk13.far1 (Blk13.far1 (Blk13.far1 HB6.out.2.1 (by omega) 4 _) (by omega) 5 _) (by omega) 6 _) (by omega) 7 _) (by omega) 8 _) (by omega) 9 _) (by omega) 10 _) (by omega) 11 _
 have E2 : Ext W ((((((((w6.setCell ⟨W.heap.size, 4, none⟩ (.int .i64 r.1)).setCell ⟨W.heap.size, 5, none⟩ (.int .i64 r.2.1)).setCell ⟨W.heap.size, 6, none⟩ (.bool r.2.2.1)).setCell ⟨W.heap.size, 7, none⟩ (.bool r.2.2.2)).setCell ⟨W.heap.size, 8, none⟩ (.int .i64 q.1)).setCell ⟨W.heap.size, 9, none⟩ (.int .i64 q.2.1)).setCell ⟨W.heap.size, 10, none⟩ (.bool q.2.2.1)).setCell ⟨W.heap.size, 11, none⟩ (.bool q.2.2.2)) := (((((((HB6.out.2.2.setCell (p := ⟨W.heap.size, 4, none⟩) (Nat.le_refl _) _).setCell (p := ⟨W.heap.size, 5, none⟩) (Nat.le_refl _) _).setCell (p := ⟨W.heap.size, 6, none⟩) (Nat.le_refl _) _).setCell (p := ⟨W.heap.size, 7, none⟩) (Nat.le_refl _) _).setCell (p := ⟨W.heap.size, 8, none⟩) (Nat.le_refl _) _).setCell (p := ⟨W.heap.size, 9, none⟩) (Nat.le_refl _) _).setCell (p := ⟨W.heap.size, 10, none⟩) (Nat.le_refl _) _).setCell (p := ⟨W.heap.size, 11, none⟩) (Nat.le_refl _) _
 exact endR (B2.put (t.wRQ r q) (.slice pp ln cl)) rfl ⟨rfl, putX_E E2 (by omega) _ _⟩ (fun h0 h1 h2 h3 h4 h5 h6 h7 h8 h9 h10 h11 h12 => by simp [results, Try.results82, go_sem, h0, h1, h2, h3, h4, h5, h6, h7, h8, h9, h10, h11, h12, aggX])
theorem moved2_any (t : T) (pp : Option Addr) (ln cl : Nat) (dr dc : Int) (mp rp cp : Nat) (W : World) (hm : W.cell? ⟨mp, 0, none⟩ = some (.func (.func 81) #[] #[.pointer (some ⟨rp, 0, none⟩), .pointer (some ⟨cp, 0, none⟩)])) (h1 : W.cell? ⟨rp, 0, none⟩ = some (.int .i64 dr)) (h2 : W.cell? ⟨cp, 0, none⟩ = some (.int .i64 dc)) (z0 : mp < W.heap.size) (z1 : rp < W.heap.size) (z2 : cp < W.heap.size) :
   Calls Try.prog 82 #[.agg #[.int .i64 t.k, .int .i64 t.n, .string (bs t.s), .int .i64 t.e, .int .i64 t.r.1, .int .i64 t.r.2.1, .bool t.r.2.2.1, .bool t.r.2.2.2, .int .i64 t.q.1, .int .i64 t.q.2.1, .bool t.q.2.2.1, .bool t.q.2.2.2, .slice pp ln cl], .pointer (some ⟨mp, 0, none⟩)] W fun e w' => e = .returned (aggX (mvE dr dc t) (.slice pp ln cl)) ∧ Ext W w' := by
 by_cases h4 : t.k = 4
 · exact moved2_4 t pp ln cl dr dc mp rp cp W hm h1 h2 z0 z1 z2 h4
 by_cases h5 : t.k = 5
 · exact moved2_5 t pp ln cl dr dc mp rp cp W hm h1 h2 z0 z1 z2 h5
 · exact moved2_0 t pp ln cl dr dc mp rp cp W hm h1 h2 z0 z1 z2 h4 h5
def FnR (w : World) (v : Value) (g : T → T) : Prop := ∃ K cs, v = .func (.func K) #[] cs ∧ (∀ args W, (callFunc K args).run Try.prog W = .ok (.enter K args) W) ∧ ∀ (W : World) (t : T) (pp : Option Addr) (ln cl : Nat), Ext w W → Calls Try.prog K (#[.agg #[.int .i64 t.k, .int .i64 t.n, .string (bs t.s), .int .i64 t.e, .int .i64 t.r.1, .int .i64 t.r.2.1, .bool t.r.2.2.1, .bool t.r.2.2.2, .int .i64 t.q.1, .int .i64 t.q.2.1, .bool t.q.2.2.1, .bool t.q.2.2.2, .slice pp ln cl]] ++ cs) W fun e w' => ∃ p l c, e = .returned (aggX (g t) (.slice p l c)) ∧ Ext W w' ∧ ((p = pp ∧ l = ln ∧ c = cl ∧ (g t).l = t.l) ∨ (l = 0 ∧ (g t).l = []))
theorem FnR.ext {w w' : World} {v : Value} {g : T → T} (h : FnR w v g) (e : Ext w w') : FnR w' v g := by
 obtain ⟨K, cs, h1, h2, h3⟩ := h
 exact ⟨K, cs, h1, h2, fun W t pp ln cl e2 => h3 W t pp ln cl (e.trans e2)⟩
theorem fn_same (w : World) : FnR w (.func (.func 80) #[] #[]) id :=
 ⟨_, _, rfl, enters_of Try.func80 (by kernel_rfl) rfl, fun W t pp ln cl _ => (same_copy t pp ln cl W).mono (fun e w' h => ⟨pp, ln, cl, h.1, h.2, .inl ⟨rfl, rfl, rfl, rfl⟩⟩)⟩
theorem mvE_l (dr dc : Int) (t : T) : (mvE dr dc t).l = t.l := by unfold mvE; split; rfl; split <;> rfl
set_option maxRecDepth 100000 in
theorem moved_any (dr dc : Int) (W : World) : Calls Try.prog 67 #[.int .i64 dr, .int .i64 dc] W fun e w' => ∃ v, e = .returned v ∧ FnR w' v (mvE dr dc) ∧ Ext W w' := by
 go_enter Try.func67, Try.ntmps67
 go_wp2_with fail
 go_ret
 refine ⟨_, rfl, ⟨82, _, rfl, enters_of Try.func82 (by kernel_rfl) rfl, ?_⟩, (((Ext.refl _).alloc _).alloc _).alloc _⟩
 intro V t pp ln cl e
 have k := fun b o h => e.cell.1 b o h
 refine (moved2_any t pp ln cl dr dc (W.heap.size + 1 + 1) W.heap.size (W.heap.size + 1) V ?_ ?_ ?_ ?_ ?_ ?_).mono (fun e w' h => ⟨pp, ln, cl, h.1, h.2, .inl ⟨rfl, rfl, rfl, mvE_l dr dc t⟩⟩)
 · rw [k _ _ (by simp <;> omega)]; simp [go_sem]
 · rw [k _ _ (by simp <;> omega)]; simp [go_sem]
 · rw [k _ _ (by simp <;> omega)]; simp [go_sem]
 · exact Nat.lt_of_lt_of_le (by simp <;> omega) e.sz
 · exact Nat.lt_of_lt_of_le (by simp <;> omega) e.sz
 · exact Nat.lt_of_lt_of_le (by simp <;> omega) e.sz
open Go.RowKit
set_option maxHeartbeats 6000000
def MpQ (w : World) (t : T) (e : Ending) (w' : World) : Prop := ∃ p l c, e = .returned (aggX t (.slice p l c)) ∧ IsL w' (w.heap.size ≤ ·) (.slice p l c) t.l ∧ Ext w w'
def MpC (n : Nat) (t : T) : Prop := ∀ (g : T → T) (v : Value) (W : World) (P : Nat → Prop) (pp : Option Addr) (ln cl : Nat), FnR W v g → IsL W P (.slice pp ln cl) t.l → Calls Try.prog 66 #[.agg #[.int .i64 t.k, .int .i64 t.n, .string (bs t.s), .int .i64 t.e, .int .i64 t.r.1, .int .i64 t.r.2.1, .bool t.r.2.2.1, .bool t.r.2.2.2, .int .i64 t.q.1, .int .i64 t.q.2.1, .bool t.q.2.2.1, .bool t.q.2.2.2, .slice pp ln cl], v] W (MpQ W (mpT g n t))
theorem isL_nil {w : World} {P : Nat → Prop} {n c : Nat} {l : List T} (h : IsL w P (.slice none n c) l) : n = 0 ∧ l = [] := by
 cases h with
 | nil => exact ⟨rfl, rfl⟩
set_option maxRecDepth 100000 in
theorem mapped_nil1 (n : Nat) (t : T) (hl : t.l.length ≤ 100000) (ih : ∀ x ∈ t.l, MpC n x) (hb : prB t.k = true) (g : T → T) (v : Value) (W : World) (P : Nat → Prop) (_u : Unit) (ln cl : Nat) (hv : FnR W v g) (hL : IsL W P (.slice none ln cl) t.l) :
   Calls Try.prog 66 #[.agg #[.int .i64 t.k, .int .i64 t.n, .string (bs t.s), .int .i64 t.e, .int .i64 t.r.1, .int .i64 t.r.2.1, .bool t.r.2.2.1, .bool t.r.2.2.2, .int .i64 t.q.1, .int .i64 t.q.2.1, .bool t.q.2.2.1, .bool t.q.2.2.2, .slice none ln cl], v] W (MpQ W (mpT g (n + 1) t)) := by
 have hln : ln = t.l.length := by
   obtain ⟨p, c, h1, _⟩ := hL.form
   cases h1; rfl
 have HV : Hid (FnR W v g) := hv
 obtain ⟨K, cs, rfl, hent, hK⟩ := hv
 have HI : Hid (IsL W P (.slice none ln cl) t.l) := hL
 have HLN : Hid (ln = t.l.length) := hln
 have HIH : Hid (∀ x ∈ t.l, MpC n x) := ih
 have HFN : Hid (∀ (W' : World) (t : T) (pp : Option Addr) (ln cl : Nat), Ext W W' → Calls Try.prog K (#[.agg #[.int .i64 t.k, .int .i64 t.n, .string (bs t.s), .int .i64 t.e, .int .i64 t.r.1, .int .i64 t.r.2.1, .bool t.r.2.2.1, .bool t.r.2.2.2, .int .i64 t.q.1, .int .i64 t.q.2.1, .bool t.q.2.2.1, .bool t.q.2.2.2, .slice pp ln cl]] ++ cs) W' fun e w' => ∃ p l c, e = .returned (aggX (g t) (.slice p l c)) ∧ Ext W' w' ∧ ((p = pp ∧ l = ln ∧ c = cl ∧ (g t).l = t.l) ∨ (l = 0 ∧ (g t).l = []))) := hK
 have HX : Hid (mpT g (n + 1) t = g (t.wL (t.l.map (mpT g n)))) := by show _ = _; rw [mpT, hb]; rfl
 have hl2 : ln ≤ 100000 := by omega
 have cH := fun V => hasParts_any t (.slice none ln cl) V
 rw [hb] at cH
 clear hL hln ih hl hK hb
 obtain ⟨hn0, hn1⟩ := isL_nil HI.out
 have HN1 : Hid (t.l = []) := hn1
 have HWL : Hid (t.wL (t.l.map (mpT g n)) = t) := by
   show _ = _
   have h := wL_self t
   rw [hn1] at h
   rw [hn1, List.map_nil]
   exact h
 subst hn0
 clear hn1
 go_enter Try.func66, Try.ntmps66
 go_wp2_with fail
 refine (cH _).mono ?_
 rintro e w1 ⟨rfl, E1⟩
 have HB1 : Hid (BlkX w1 W.heap.size t (.slice none 0 cl) ∧ BlkX w1 (W.heap.size + 1) tz (.slice none 0 0) ∧ Ext W w1) := ⟨(blk13_top rfl ((Ext.refl _).alloc _)).ext E1, (BlkX.top (by simp) (Ext.refl _)).ext E1, (((Ext.refl _).alloc _).alloc _).trans E1⟩
 have hw1 : W.heap.size + 1 < w1.heap.size := HB1.out.2.1.1
 have HB0 := HB1.out.1
 obtain ⟨qa, ⟨la0, la1, la2, la3, la4, la5, la6, la7, la8, la9, la10, la11, la12⟩, ga0, ga1, ga2, ga3, ga4, ga5, ga6, ga7, ga8, ga9, ga10, ga11, ga12⟩ := HB0
 clear E1 cH
 go_wp2_with fail
 refine (HFN.out _ (t) none 0 cl HB1.out.2.2).mono ?_
 rintro e w8 ⟨p, l, c, rfl, E8, h8⟩
 have HB8 : Hid (BlkX w8 (W.heap.size + 1) tz (.slice none 0 0) ∧ Ext W w8) := ⟨(HB1.out.2.1).ext E8, Ext.trans HB1.out.2.2 E8⟩
 have HL8 : Hid (IsL w8 (W.heap.size + 1 + 1 ≤ ·) (.slice p l c) (g (t)).l) := by
   rcases h8 with ⟨q1, q2, q3, q4⟩ | ⟨q1, q2⟩
   · rw [q1, q2, q3, q4]; exact ((by rw [HN1.out]; exact .nil : IsL w1 (W.heap.size + 1 + 1 ≤ ·) (.slice none 0 cl) t.l)).ext E8
   · rw [q1, q2]; exact .nil
 have HB2 := HB8.out.1
 obtain ⟨qc, ⟨lc0, lc1, lc2, lc3, lc4, lc5, lc6, lc7, lc8, lc9, lc10, lc11, lc12⟩, gc0, gc1, gc2, gc3, gc4, gc5, gc6, gc7, gc8, gc9, gc10, gc11, gc12⟩ := HB2
 clear E8 h8
 obtain ⟨y, hy⟩ : ∃ y, g (t) = y := ⟨_, rfl⟩
 have HY : Hid (mpT g (n + 1) t = y) := by show _ = _; rw [HX.out, HWL.out, ← hy]
 rw [hy] at HL8 ⊢
 clear hy
 unfold aggX
 go_wp2_with fail
 show bodyPost Try.prog _ _ _ _ (putX w8 (W.heap.size + 1) y (.slice p l c))
 rw [HY.out]
 exact endR (HB8.out.1.put y (.slice p l c)) rfl ⟨p, l, c, rfl, (putX_L HL8.out (fun k hk => by have hk2 : W.heap.size + 1 + 1 ≤ k := hk; omega)).mono (fun k hk _ => by have hk2 : W.heap.size + 1 + 1 ≤ k := hk; omega), putX_E HB8.out.2 (by omega) _ _⟩ (fun h0 h1 h2 h3 h4 h5 h6 h7 h8 h9 h10 h11 h12 => by simp [results, Try.results66, go_sem, h0, h1, h2, h3, h4, h5, h6, h7, h8, h9, h10, h11, h12, aggX])
set_option maxRecDepth 100000 in
theorem mapped_nil0 (n : Nat) (t : T) (hl : t.l.length ≤ 100000) (ih : ∀ x ∈ t.l, MpC n x) (hb : prB t.k = false) (g : T → T) (v : Value) (W : World) (P : Nat → Prop) (_u : Unit) (ln cl : Nat) (hv : FnR W v g) (hL : IsL W P (.slice none ln cl) t.l) :
   Calls Try.prog 66 #[.agg #[.int .i64 t.k, .int .i64 t.n, .string (bs t.s), .int .i64 t.e, .int .i64 t.r.1, .int .i64 t.r.2.1, .bool t.r.2.2.1, .bool t.r.2.2.2, .int .i64 t.q.1, .int .i64 t.q.2.1, .bool t.q.2.2.1, .bool t.q.2.2.2, .slice none ln cl], v] W (MpQ W (mpT g (n + 1) t)) := by
 have hln : ln = t.l.length := by
   obtain ⟨p, c, h1, _⟩ := hL.form
   cases h1; rfl
 have HV : Hid (FnR W v g) := hv
 obtain ⟨K, cs, rfl, hent, hK⟩ := hv
 have HI : Hid (IsL W P (.slice none ln cl) t.l) := hL
 have HLN : Hid (ln = t.l.length) := hln
 have HIH : Hid (∀ x ∈ t.l, MpC n x) := ih
 have HFN : Hid (∀ (W' : World) (t : T) (pp : Option Addr) (ln cl : Nat), Ext W W' → Calls Try.prog K (#[.agg #[.int .i64 t.k, .int .i64 t.n, .string (bs t.s), .int .i64 t.e, .int .i64 t.r.1, .int .i64 t.r.2.1, .bool t.r.2.2.1, .bool t.r.2.2.2, .int .i64 t.q.1, .int .i64 t.q.2.1, .bool t.q.2.2.1, .bool t.q.2.2.2, .slice pp ln cl]] ++ cs) W' fun e w' => ∃ p l c, e = .returned (aggX (g t) (.slice p l c)) ∧ Ext W' w' ∧ ((p = pp ∧ l = ln ∧ c = cl ∧ (g t).l = t.l) ∨ (l = 0 ∧ (g t).l = []))) := hK
 have HX : Hid (mpT g (n + 1) t = g (t.wL (t.l.map (id)))) := by show _ = _; rw [mpT, hb]; rfl
 have hl2 : ln ≤ 100000 := by omega
 have cH := fun V => hasParts_any t (.slice none ln cl) V
 rw [hb] at cH
 clear hL hln ih hl hK hb
 obtain ⟨hn0, hn1⟩ := isL_nil HI.out
 have HN1 : Hid (t.l = []) := hn1
 have HWL : Hid (t.wL (t.l.map (id)) = t) := by
   show _ = _
   have h := wL_self t
   rw [hn1] at h
   rw [hn1, List.map_nil]
   exact h
 subst hn0
 clear hn1
 go_enter Try.func66, Try.ntmps66
 go_wp2_with fail
 refine (cH _).mono ?_
 rintro e w1 ⟨rfl, E1⟩
 have HB1 : Hid (BlkX w1 W.heap.size t (.slice none 0 cl) ∧ BlkX w1 (W.heap.size + 1) tz (.slice none 0 0) ∧ Ext W w1) := ⟨(blk13_top rfl ((Ext.refl _).alloc _)).ext E1, (BlkX.top (by simp) (Ext.refl _)).ext E1, (((Ext.refl _).alloc _).alloc _).trans E1⟩
 have hw1 : W.heap.size + 1 < w1.heap.size := HB1.out.2.1.1
 have HB0 := HB1.out.1
 obtain ⟨qa, ⟨la0, la1, la2, la3, la4, la5, la6, la7, la8, la9, la10, la11, la12⟩, ga0, ga1, ga2, ga3, ga4, ga5, ga6, ga7, ga8, ga9, ga10, ga11, ga12⟩ := HB0
 clear E1 cH
 go_wp2_with fail
 refine (HFN.out _ (t) none 0 cl HB1.out.2.2).mono ?_
 rintro e w8 ⟨p, l, c, rfl, E8, h8⟩
 have HB8 : Hid (BlkX w8 (W.heap.size + 1) tz (.slice none 0 0) ∧ Ext W w8) := ⟨(HB1.out.2.1).ext E8, Ext.trans HB1.out.2.2 E8⟩
 have HL8 : Hid (IsL w8 (W.heap.size + 1 + 1 ≤ ·) (.slice p l c) (g (t)).l) := by
   rcases h8 with ⟨q1, q2, q3, q4⟩ | ⟨q1, q2⟩
   · rw [q1, q2, q3, q4]; exact ((by rw [HN1.out]; exact .nil : IsL w1 (W.heap.size + 1 + 1 ≤ ·) (.slice none 0 cl) t.l)).ext E8
   · rw [q1, q2]; exact .nil
 have HB2 := HB8.out.1
 obtain ⟨qc, ⟨lc0, lc1, lc2, lc3, lc4, lc5, lc6, lc7, lc8, lc9, lc10, lc11, lc12⟩, gc0, gc1, gc2, gc3, gc4, gc5, gc6, gc7, gc8, gc9, gc10, gc11, gc12⟩ := HB2
 clear E8 h8
 obtain ⟨y, hy⟩ : ∃ y, g (t) = y := ⟨_, rfl⟩
 have HY : Hid (mpT g (n + 1) t = y) := by show _ = _; rw [HX.out, HWL.out, ← hy]
 rw [hy] at HL8 ⊢
 clear hy
 unfold aggX
 go_wp2_with fail
 show bodyPost Try.prog _ _ _ _ (putX w8 (W.heap.size + 1) y (.slice p l c))
 rw [HY.out]
 exact endR (HB8.out.1.put y (.slice p l c)) rfl ⟨p, l, c, rfl, (putX_L HL8.out (fun k hk => by have hk2 : W.heap.size + 1 + 1 ≤ k := hk; omega)).mono (fun k hk _ => by have hk2 : W.heap.size + 1 + 1 ≤ k := hk; omega), putX_E HB8.out.2 (by omega) _ _⟩ (fun h0 h1 h2 h3 h4 h5 h6 h7 h8 h9 h10 h11 h12 => by simp [results, Try.results66, go_sem, h0, h1, h2, h3, h4, h5, h6, h7, h8, h9, h10, h11, h12, aggX])
set_option maxRecDepth 100000 in
theorem mapped_some1 (n : Nat) (t : T) (hl : t.l.length ≤ 100000) (ih : ∀ x ∈ t.l, MpC n x) (hb : prB t.k = true) (g : T → T) (v : Value) (W : World) (P : Nat → Prop) (a : Addr) (ln cl : Nat) (hv : FnR W v g) (hL : IsL W P (.slice (some a) ln cl) t.l) :
   Calls Try.prog 66 #[.agg #[.int .i64 t.k, .int .i64 t.n, .string (bs t.s), .int .i64 t.e, .int .i64 t.r.1, .int .i64 t.r.2.1, .bool t.r.2.2.1, .bool t.r.2.2.2, .int .i64 t.q.1, .int .i64 t.q.2.1, .bool t.q.2.2.1, .bool t.q.2.2.2, .slice (some a) ln cl], v] W (MpQ W (mpT g (n + 1) t)) := by
 have hln : ln = t.l.length := by
   obtain ⟨p, c, h1, _⟩ := hL.form
   cases h1; rfl
 have HV : Hid (FnR W v g) := hv
 obtain ⟨K, cs, rfl, hent, hK⟩ := hv
 have HI : Hid (IsL W P (.slice (some a) ln cl) t.l) := hL
 have HLN : Hid (ln = t.l.length) := hln
 have HIH : Hid (∀ x ∈ t.l, MpC n x) := ih
 have HFN : Hid (∀ (W' : World) (t : T) (pp : Option Addr) (ln cl : Nat), Ext W W' → Calls Try.prog K (#[.agg #[.int .i64 t.k, .int .i64 t.n, .string (bs t.s), .int .i64 t.e, .int .i64 t.r.1, .int .i64 t.r.2.1, .bool t.r.2.2.1, .bool t.r.2.2.2, .int .i64 t.q.1, .int .i64 t.q.2.1, .bool t.q.2.2.1, .bool t.q.2.2.2, .slice pp ln cl]] ++ cs) W' fun e w' => ∃ p l c, e = .returned (aggX (g t) (.slice p l c)) ∧ Ext W' w' ∧ ((p = pp ∧ l = ln ∧ c = cl ∧ (g t).l = t.l) ∨ (l = 0 ∧ (g t).l = []))) := hK
 have HX : Hid (mpT g (n + 1) t = g (t.wL (t.l.map (mpT g n)))) := by show _ = _; rw [mpT, hb]; rfl
 have hl2 : ln ≤ 100000 := by omega
 have cH := fun V => hasParts_any t (.slice (some a) ln cl) V
 rw [hb] at cH
 clear hL hln ih hl hK hb
 obtain ⟨C, hC, hmk⟩ : ∃ C : World → Array Value, (∀ V, (C V).size = ln * 13) ∧ ∀ V, (Instr.makeSlice 27 (.int .i64 (ln : Int)) (.int .i64 (ln : Int))).run Try.prog V = .ok (.slice (some ⟨V.heap.size, 0, none⟩) ln ln) (V.alloc (.cells (C V) 29)) := ⟨fun V => Classical.choose (run_mk ln hl2 V), fun V => (Classical.choose_spec (run_mk ln hl2 V)).1, fun V => (Classical.choose_spec (run_mk ln hl2 V)).2⟩
 have HCZ : Hid (∀ V, (C V).size = ln * 13) := hC
 clear hC
 go_enter Try.func66, Try.ntmps66
 go_wp2_with fail
 refine (cH _).mono ?_
 rintro e w1 ⟨rfl, E1⟩
 have HB1 : Hid (BlkX w1 W.heap.size t (.slice (some a) ln cl) ∧ BlkX w1 (W.heap.size + 1) tz (.slice none 0 0) ∧ Ext W w1) := ⟨(blk13_top rfl ((Ext.refl _).alloc _)).ext E1, (BlkX.top (by simp) (Ext.refl _)).ext E1, (((Ext.refl _).alloc _).alloc _).trans E1⟩
 have hw1 : W.heap.size + 1 < w1.heap.size := HB1.out.2.1.1
 have HB0 := HB1.out.1
 obtain ⟨qa, ⟨la0, la1, la2, la3, la4, la5, la6, la7, la8, la9, la10, la11, la12⟩, ga0, ga1, ga2, ga3, ga4, ga5, ga6, ga7, ga8, ga9, ga10, ga11, ga12⟩ := HB0
 clear E1 cH
 have HR1 : Hid (Room (w1.alloc (.cells (C w1) 29)) w1.heap.size (ln * 13)) := Room.new (HCZ.out w1) rfl (Ext.refl _)
 have HE1 : Hid (Ext w1 (w1.alloc (.cells (C w1) 29))) := (Ext.refl _).alloc _
 go_wp2_with fail
 go_loopw [23] (fun iv wr => ∃ (j : Nat) (ps : List (T × Value)), j ≤ ln ∧ iv = .int .i64 (j : Int) ∧ ps.length = j ∧ ps.map Prod.fst = (t.l.take j).map (mpT g n) ∧ Room wr w1.heap.size (ln * 13) ∧ Laid wr w1.heap.size (W.heap.size + 1 + 1) ps ∧ BlkX wr W.heap.size t (.slice (some a) ln cl) ∧ BlkX wr (W.heap.size + 1) tz (.slice none 0 0) ∧ Ext W wr ∧ Ext w1 wr) (fun iv _ => ln - (intOf iv).toNat)
 case atStart => exact ⟨0, [], Nat.zero_le _, rfl, rfl, by simp, HR1.out, Laid.nil _ _ _, HB1.out.1.ext HE1.out, HB1.out.2.1.ext HE1.out, HB1.out.2.2.trans HE1.out, HE1.out⟩
 case round =>
   obtain ⟨j, ps, hj, rfl, hpl, hps, hR, hLd, hB, hB2, hE, hE1⟩ := hrel
   have HO : Hid (ps.length = j ∧ ps.map Prod.fst = (t.l.take j).map (mpT g n) ∧ Room wr w1.heap.size (ln * 13) ∧ Laid wr w1.heap.size (W.heap.size + 1 + 1) ps ∧ Ext W wr ∧ Ext w1 wr) := ⟨hpl, hps, hR, hLd, hE, hE1⟩
   have HB : Hid (BlkX wr W.heap.size t (.slice (some a) ln cl) ∧ BlkX wr (W.heap.size + 1) tz (.slice none 0 0)) := ⟨hB, hB2⟩
   have hwr : w1.heap.size < wr.heap.size := hR.1
   clear hE hE1 hps hpl hR hLd hB hB2 la0 la1 la2 la3 la4 la5 la6 la7 la8 la9 la10 la11 la12 qa ga0 ga1 ga2 ga3 ga4 ga5 ga6 ga7 ga8 ga9 ga10 ga11 ga12
   by_cases hlt : j < ln
   · have hltI : (j : Int) < (ln : Int) := by omega
     have hI := HI.out.ext HO.out.2.2.2.2.1
     obtain ⟨gb, off, x, lv, hpp, hx1, hA1, hgb, hA2, hLx, hce⟩ := hI.at (i := j) (by rw [← HLN.out]; exact hlt)
     clear hA1 hA2
     cases hpp
     obtain ⟨pp, cl', hlv, hcl⟩ := hLx.form
     obtain ⟨ln', hln'⟩ : ∃ ln', x.l.length = ln' := ⟨_, rfl⟩
     rw [hln'] at hlv
     subst hlv
     have HX1 : Hid (t.l[j]? = some x) := hx1
     have HC : Hid (∀ V, Ext wr V → Calls Try.prog 66 #[.agg #[.int .i64 x.k, .int .i64 x.n, .string (bs x.s), .int .i64 x.e, .int .i64 x.r.1, .int .i64 x.r.2.1, .bool x.r.2.2.1, .bool x.r.2.2.2, .int .i64 x.q.1, .int .i64 x.q.2.1, .bool x.q.2.2.1, .bool x.q.2.2.2, .slice pp ln' cl'], .func (.func K) #[] cs] V (MpQ V (mpT g n x))) := fun V e => HIH.out x (List.mem_of_getElem? hx1) _ _ V P pp ln' cl' (HV.out.ext (HO.out.2.2.2.2.1.trans e)) (hLx.ext e)
     have e0 : wr.cell? ⟨gb, off + j * 13, none⟩ = some (.int .i64 x.k) := hce 0 _ rfl
     have e1 : wr.cell? ⟨gb, off + j * 13 + 1, none⟩ = some (.int .i64 x.n) := hce 1 _ rfl
     have e2 : wr.cell? ⟨gb, off + j * 13 + 2, none⟩ = some (.string (bs x.s)) := hce 2 _ rfl
     have e3 : wr.cell? ⟨gb, off + j * 13 + 3, none⟩ = some (.int .i64 x.e) := hce 3 _ rfl
     have e4 : wr.cell? ⟨gb, off + j * 13 + 4, none⟩ = some (.int .i64 x.r.1) := hce 4 _ rfl
     have e5 : wr.cell? ⟨gb, off + j * 13 + 5, none⟩ = some (.int .i64 x.r.2.1) := hce 5 _ rfl
     have e6 : wr.cell? ⟨gb, off + j * 13 + 6, none⟩ = some (.bool x.r.2.2.1) := hce 6 _ rfl
     have e7 : wr.cell? ⟨gb, off + j * 13 + 7, none⟩ = some (.bool x.r.2.2.2) := hce 7 _ rfl
     have e8 : wr.cell? ⟨gb, off + j * 13 + 8, none⟩ = some (.int .i64 x.q.1) := hce 8 _ rfl
     have e9 : wr.cell? ⟨gb, off + j * 13 + 9, none⟩ = some (.int .i64 x.q.2.1) := hce 9 _ rfl
     have e10 : wr.cell? ⟨gb, off + j * 13 + 10, none⟩ = some (.bool x.q.2.2.1) := hce 10 _ rfl
     have e11 : wr.cell? ⟨gb, off + j * 13 + 11, none⟩ = some (.bool x.q.2.2.2) := hce 11 _ rfl
     have e12 : wr.cell? ⟨gb, off + j * 13 + 12, none⟩ = some (.slice pp ln' cl') := hce 12 _ rfl
     clear hI hx1 hLx hce hcl hln'
     go_wp2_with fail
     refine (HC.out _ ((Ext.refl _).alloc _)).mono ?_
     rintro e w3 ⟨p3, l3, c3, rfl, hL3, E3⟩
     obtain ⟨y, hy⟩ : ∃ y, mpT g n x = y := ⟨_, rfl⟩
     have HY : Hid (mpT g n x = y) := hy
     rw [hy] at hL3 ⊢
     have hE3 : Ext wr w3 := ((Ext.refl _).alloc _).trans E3
     have H3 : Hid (Room w3 w1.heap.size (ln * 13) ∧ Laid w3 w1.heap.size (W.heap.size + 1 + 1) ps ∧ Ext W w3 ∧ Ext w1 w3 ∧ BlkX w3 W.heap.size t (.slice (some ⟨gb, off, none⟩) ln cl) ∧ BlkX w3 (W.heap.size + 1) tz (.slice none 0 0)) := ⟨HO.out.2.2.1.ext hE3, HO.out.2.2.2.1.ext HO.out.2.2.1.1 hE3, HO.out.2.2.2.2.1.trans hE3, HO.out.2.2.2.2.2.trans hE3, HB.out.1.ext hE3, HB.out.2.ext hE3⟩
     have HL3 : Hid (IsL w3 (fun k => W.heap.size + 1 + 1 ≤ k ∧ k ≠ w1.heap.size) (.slice p3 l3 c3) y.l) := hL3.mono (fun k hk _ => by have : (wr.alloc (.cells #[.int .i64 x.k, .int .i64 x.n, .string (bs x.s), .int .i64 x.e, .int .i64 x.r.1, .int .i64 x.r.2.1, .bool x.r.2.2.1, .bool x.r.2.2.2, .int .i64 x.q.1, .int .i64 x.q.2.1, .bool x.q.2.2.1, .bool x.q.2.2.2, .slice pp ln' cl'] 29)).heap.size ≤ k := hk; simp at this; exact ⟨by omega, by omega⟩)
     have hjn : ps.length * 13 + 13 ≤ ln * 13 := by have := HO.out.1; omega
     have hjI : j * 13 + 13 ≤ ln * 13 := by omega
     obtain ⟨u0, hu0⟩ := Option.isSome_iff_exists.1 (H3.out.1.2.1 (j * 13) (by omega))
     have hf0 := H3.out.1.2.2 (j * 13)
     obtain ⟨u1, hu1⟩ := Option.isSome_iff_exists.1 (H3.out.1.2.1 (j * 13 + 1) (by omega))
     have hf1 := H3.out.1.2.2 (j * 13 + 1)
     obtain ⟨u2, hu2⟩ := Option.isSome_iff_exists.1 (H3.out.1.2.1 (j * 13 + 2) (by omega))
     have hf2 := H3.out.1.2.2 (j * 13 + 2)
     obtain ⟨u3, hu3⟩ := Option.isSome_iff_exists.1 (H3.out.1.2.1 (j * 13 + 3) (by omega))
     have hf3 := H3.out.1.2.2 (j * 13 + 3)
     obtain ⟨u4, hu4⟩ := Option.isSome_iff_exists.1 (H3.out.1.2.1 (j * 13 + 4) (by omega))
     have hf4 := H3.out.1.2.2 (j * 13 + 4)
     obtain ⟨u5, hu5⟩ := Option.isSome_iff_exists.1 (H3.out.1.2.1 (j * 13 + 5) (by omega))
     have hf5 := H3.out.1.2.2 (j * 13 + 5)
     obtain ⟨u6, hu6⟩ := Option.isSome_iff_exists.1 (H3.out.1.2.1 (j * 13 + 6) (by omega))
     have hf6 := H3.out.1.2.2 (j * 13 + 6)
     obtain ⟨u7, hu7⟩ := Option.isSome_iff_exists.1 (H3.out.1.2.1 (j * 13 + 7) (by omega))
     have hf7 := H3.out.1.2.2 (j * 13 + 7)
     obtain ⟨u8, hu8⟩ := Option.isSome_iff_exists.1 (H3.out.1.2.1 (j * 13 + 8) (by omega))
     have hf8 := H3.out.1.2.2 (j * 13 + 8)
     obtain ⟨u9, hu9⟩ := Option.isSome_iff_exists.1 (H3.out.1.2.1 (j * 13 + 9) (by omega))
     have hf9 := H3.out.1.2.2 (j * 13 + 9)
     obtain ⟨u10, hu10⟩ := Option.isSome_iff_exists.1 (H3.out.1.2.1 (j * 13 + 10) (by omega))
     have hf10 := H3.out.1.2.2 (j * 13 + 10)
     obtain ⟨u11, hu11⟩ := Option.isSome_iff_exists.1 (H3.out.1.2.1 (j * 13 + 11) (by omega))
     have hf11 := H3.out.1.2.2 (j * 13 + 11)
     obtain ⟨u12, hu12⟩ := Option.isSome_iff_exists.1 (H3.out.1.2.1 (j * 13 + 12) (by omega))
     have hf12 := H3.out.1.2.2 (j * 13 + 12)
     have hw3 : w1.heap.size < w3.heap.size := H3.out.1.1
     clear hL3 E3 hE3 hy e0 e1 e2 e3 e4 e5 e6 e7 e8 e9 e10 e11 e12
     unfold aggX
     go_wp2_with fail
     go_roundw
     case rel =>
       have hj13 : j * 13 = ps.length * 13 := by rw [HO.out.1]
       refine ⟨j + 1, ps ++ [(y, .slice p3 l3 c3)], by omega, by go_num, by rw [List.length_append, HO.out.1]; rfl, ?_, ?_⟩
       · rw [List.map_append, HO.out.2.1, List.take_add_one, HX1.out]; simp [← HY.out] 
       show Room (w3.setCells w1.heap.size (j * 13) (cellsT y (.slice p3 l3 c3))) _ _ ∧ Laid (w3.setCells w1.heap.size (j * 13) (cellsT y (.slice p3 l3 c3))) _ _ _ ∧ BlkX (w3.setCells w1.heap.size (j * 13) (cellsT y (.slice p3 l3 c3))) _ _ _ ∧ BlkX (w3.setCells w1.heap.size (j * 13) (cellsT y (.slice p3 l3 c3))) _ _ _ ∧ Ext W (w3.setCells w1.heap.size (j * 13) (cellsT y (.slice p3 l3 c3))) ∧ Ext w1 (w3.setCells w1.heap.size (j * 13) (cellsT y (.slice p3 l3 c3)))
       rw [hj13]
       exact ⟨H3.out.1.put _ _, H3.out.2.1.snoc H3.out.1 hjn HL3.out, H3.out.2.2.2.2.1.setCells (by omega) _ _, H3.out.2.2.2.2.2.setCells (by omega) _ _, H3.out.2.2.1.setCells (by omega) _ _, H3.out.2.2.2.1.setCells (Nat.le_refl _) _ _⟩
     case measure => show ln - ((j : Int) + 1).toNat < ln - ((j : Int)).toNat; omega
   · have hltI : ¬ (j : Int) < (ln : Int) := by omega
     have hjl : j = ln := by omega
     have HJL : Hid (j = ln) := hjl
     have HT : Hid (ps.map Prod.fst = t.l.map (mpT g n) ∧ ps.length = ln) := ⟨by rw [HO.out.2.1, hjl, HLN.out, List.take_length], HO.out.1.trans hjl⟩
     clear hlt hjl
     have HB0 := HB.out.1
     obtain ⟨qa, ⟨la0, la1, la2, la3, la4, la5, la6, la7, la8, la9, la10, la11, la12⟩, ga0, ga1, ga2, ga3, ga4, ga5, ga6, ga7, ga8, ga9, ga10, ga11, ga12⟩ := HB0
     go_wp2_with fail
     have hL9 : IsL wr (W.heap.size + 1 + 1 ≤ ·) (.slice (some ⟨w1.heap.size, 0, none⟩) ln ln) (t.l.map (mpT g n)) := by
       have := HO.out.2.2.2.1.isL (c := ln) HO.out.2.2.1.1 (by omega) (by rw [HT.out.2]; exact Nat.le_refl _)
       rw [HT.out.1, HT.out.2] at this
       exact this
     have hE9 : Ext W (wr.setCell ⟨W.heap.size, 12, none⟩ (.slice (some ⟨w1.heap.size, 0, none⟩) ln ln)) := HO.out.2.2.2.2.1.setCell (p := ⟨W.heap.size, 12, none⟩) (Nat.le_refl _) _
     have hB9 : BlkX (wr.setCell ⟨W.heap.size, 12, none⟩ (.slice (some ⟨w1.heap.size, 0, none⟩) ln ln)) (W.heap.size + 1) tz (.slice none 0 0) := Blk13.far1 HB.out.2 (by omega) 12 _
     have hL10 : IsL (wr.setCell ⟨W.heap.size, 12, none⟩ (.slice (some ⟨w1.heap.size, 0, none⟩) ln ln)) (W.heap.size + 1 + 1 ≤ ·) (.slice (some ⟨w1.heap.size, 0, none⟩) ln ln) (t.wL (t.l.map (mpT g n))).l := hL9.keep (by simp [World.setCell]) (fun k hk _ => Below.heap_setCell _ _ _ _ (by have hk2 : W.heap.size + 1 + 1 ≤ k := hk; simp; omega)) (fun _ h _ => h)
     have H9 : Hid (Ext W (wr.setCell ⟨W.heap.size, 12, none⟩ (.slice (some ⟨w1.heap.size, 0, none⟩) ln ln)) ∧ BlkX (wr.setCell ⟨W.heap.size, 12, none⟩ (.slice (some ⟨w1.heap.size, 0, none⟩) ln ln)) (W.heap.size + 1) tz (.slice none 0 0) ∧ IsL (wr.setCell ⟨W.heap.size, 12, none⟩ (.slice (some ⟨w1.heap.size, 0, none⟩) ln ln)) (W.heap.size + 1 + 1 ≤ ·) (.slice (some ⟨w1.heap.size, 0, none⟩) ln ln) (t.wL (t.l.map (mpT g n))).l) := ⟨hE9, hB9, hL10⟩
     clear hL9 hE9 hB9 hL10 qa la0 la1 la2 la3 la4 la5 la6 la7 la8 la9 la10 la11 la12 ga0 ga1 ga2 ga3 ga4 ga5 ga6 ga7 ga8 ga9 ga10 ga11 ga12
     refine (HFN.out _ (t.wL (t.l.map (mpT g n))) (some ⟨w1.heap.size, 0, none⟩) ln ln H9.out.1).mono ?_
     rintro e w8 ⟨p, l, c, rfl, E8, h8⟩
     have HB8 : Hid (BlkX w8 (W.heap.size + 1) tz (.slice none 0 0) ∧ Ext W w8) := ⟨(H9.out.2.1).ext E8, Ext.trans H9.out.1 E8⟩
     have HL8 : Hid (IsL w8 (W.heap.size + 1 + 1 ≤ ·) (.slice p l c) (g (t.wL (t.l.map (mpT g n)))).l) := by
       rcases h8 with ⟨q1, q2, q3, q4⟩ | ⟨q1, q2⟩
       · rw [q1, q2, q3, q4]; exact (H9.out.2.2).ext E8
       · rw [q1, q2]; exact .nil
     have HB2 := HB8.out.1
     obtain ⟨qc, ⟨lc0, lc1, lc2, lc3, lc4, lc5, lc6, lc7, lc8, lc9, lc10, lc11, lc12⟩, gc0, gc1, gc2, gc3, gc4, gc5, gc6, gc7, gc8, gc9, gc10, gc11, gc12⟩ := HB2
     clear E8 h8
     obtain ⟨y, hy⟩ : ∃ y, g (t.wL (t.l.map (mpT g n))) = y := ⟨_, rfl⟩
     have HY : Hid (mpT g (n + 1) t = y) := by show _ = _; rw [HX.out, ← hy]
     rw [hy] at HL8 ⊢
     clear hy
     unfold aggX
     go_wp2_with fail
     show bodyPost Try.prog _ _ _ _ (putX w8 (W.heap.size + 1) y (.slice p l c))
     rw [HY.out]
     exact endR (HB8.out.1.put y (.slice p l c)) rfl ⟨p, l, c, rfl, (putX_L HL8.out (fun k hk => by have hk2 : W.heap.size + 1 + 1 ≤ k := hk; omega)).mono (fun k hk _ => by have hk2 : W.heap.size + 1 + 1 ≤ k := hk; omega), putX_E HB8.out.2 (by omega) _ _⟩ (fun h0 h1 h2 h3 h4 h5 h6 h7 h8 h9 h10 h11 h12 => by simp [results, Try.results66, go_sem, h0, h1, h2, h3, h4, h5, h6, h7, h8, h9, h10, h11, h12, aggX])
set_option maxRecDepth 100000 in
theorem mapped_some0 (n : Nat) (t : T) (hl : t.l.length ≤ 100000) (ih : ∀ x ∈ t.l, MpC n x) (hb : prB t.k = false) (g : T → T) (v : Value) (W : World) (P : Nat → Prop) (a : Addr) (ln cl : Nat) (hv : FnR W v g) (hL : IsL W P (.slice (some a) ln cl) t.l) :
   Calls Try.prog 66 #[.agg #[.int .i64 t.k, .int .i64 t.n, .string (bs t.s), .int .i64 t.e, .int .i64 t.r.1, .int .i64 t.r.2.1, .bool t.r.2.2.1, .bool t.r.2.2.2, .int .i64 t.q.1, .int .i64 t.q.2.1, .bool t.q.2.2.1, .bool t.q.2.2.2, .slice (some a) ln cl], v] W (MpQ W (mpT g (n + 1) t)) := by
 have hln : ln = t.l.length := by
   obtain ⟨p, c, h1, _⟩ := hL.form
   cases h1; rfl
 have HV : Hid (FnR W v g) := hv
 obtain ⟨K, cs, rfl, hent, hK⟩ := hv
 have HI : Hid (IsL W P (.slice (some a) ln cl) t.l) := hL
 have HLN : Hid (ln = t.l.length) := hln
 have HIH : Hid (∀ x ∈ t.l, MpC n x) := ih
 have HFN : Hid (∀ (W' : World) (t : T) (pp : Option Addr) (ln cl : Nat), Ext W W' → Calls Try.prog K (#[.agg #[.int .i64 t.k, .int .i64 t.n, .string (bs t.s), .int .i64 t.e, .int .i64 t.r.1, .int .i64 t.r.2.1, .bool t.r.2.2.1, .bool t.r.2.2.2, .int .i64 t.q.1, .int .i64 t.q.2.1, .bool t.q.2.2.1, .bool t.q.2.2.2, .slice pp ln cl]] ++ cs) W' fun e w' => ∃ p l c, e = .returned (aggX (g t) (.slice p l c)) ∧ Ext W' w' ∧ ((p = pp ∧ l = ln ∧ c = cl ∧ (g t).l = t.l) ∨ (l = 0 ∧ (g t).l = []))) := hK
 have HX : Hid (mpT g (n + 1) t = g (t.wL (t.l.map (id)))) := by show _ = _; rw [mpT, hb]; rfl
 have hl2 : ln ≤ 100000 := by omega
 have cH := fun V => hasParts_any t (.slice (some a) ln cl) V
 rw [hb] at cH
 clear hL hln ih hl hK hb
 obtain ⟨C, hC, hmk⟩ : ∃ C : World → Array Value, (∀ V, (C V).size = ln * 13) ∧ ∀ V, (Instr.makeSlice 27 (.int .i64 (ln : Int)) (.int .i64 (ln : Int))).run Try.prog V = .ok (.slice (some ⟨V.heap.size, 0, none⟩) ln ln) (V.alloc (.cells (C V) 29)) := ⟨fun V => Classical.choose (run_mk ln hl2 V), fun V => (Classical.choose_spec (run_mk ln hl2 V)).1, fun V => (Classical.choose_spec (run_mk ln hl2 V)).2⟩
 have HCZ : Hid (∀ V, (C V).size = ln * 13) := hC
 clear hC
 go_enter Try.func66, Try.ntmps66
 go_wp2_with fail
 refine (cH _).mono ?_
 rintro e w1 ⟨rfl, E1⟩
 have HB1 : Hid (BlkX w1 W.heap.size t (.slice (some a) ln cl) ∧ BlkX w1 (W.heap.size + 1) tz (.slice none 0 0) ∧ Ext W w1) := ⟨(blk13_top rfl ((Ext.refl _).alloc _)).ext E1, (BlkX.top (by simp) (Ext.refl _)).ext E1, (((Ext.refl _).alloc _).alloc _).trans E1⟩
 have hw1 : W.heap.size + 1 < w1.heap.size := HB1.out.2.1.1
 have HB0 := HB1.out.1
 obtain ⟨qa, ⟨la0, la1, la2, la3, la4, la5, la6, la7, la8, la9, la10, la11, la12⟩, ga0, ga1, ga2, ga3, ga4, ga5, ga6, ga7, ga8, ga9, ga10, ga11, ga12⟩ := HB0
 clear E1 cH
 have HR1 : Hid (Room (w1.alloc (.cells (C w1) 29)) w1.heap.size (ln * 13)) := Room.new (HCZ.out w1) rfl (Ext.refl _)
 have HE1 : Hid (Ext w1 (w1.alloc (.cells (C w1) 29))) := (Ext.refl _).alloc _
 go_wp2_with fail
 go_loopw [23] (fun iv wr => ∃ (j : Nat) (ps : List (T × Value)), j ≤ ln ∧ iv = .int .i64 (j : Int) ∧ ps.length = j ∧ ps.map Prod.fst = (t.l.take j).map (id) ∧ Room wr w1.heap.size (ln * 13) ∧ Laid wr w1.heap.size (W.heap.size + 1 + 1) ps ∧ BlkX wr W.heap.size t (.slice (some a) ln cl) ∧ BlkX wr (W.heap.size + 1) tz (.slice none 0 0) ∧ Ext W wr ∧ Ext w1 wr) (fun iv _ => ln - (intOf iv).toNat)
 case atStart => exact ⟨0, [], Nat.zero_le _, rfl, rfl, by simp, HR1.out, Laid.nil _ _ _, HB1.out.1.ext HE1.out, HB1.out.2.1.ext HE1.out, HB1.out.2.2.trans HE1.out, HE1.out⟩
 case round =>
   obtain ⟨j, ps, hj, rfl, hpl, hps, hR, hLd, hB, hB2, hE, hE1⟩ := hrel
   have HO : Hid (ps.length = j ∧ ps.map Prod.fst = (t.l.take j).map (id) ∧ Room wr w1.heap.size (ln * 13) ∧ Laid wr w1.heap.size (W.heap.size + 1 + 1) ps ∧ Ext W wr ∧ Ext w1 wr) := ⟨hpl, hps, hR, hLd, hE, hE1⟩
   have HB : Hid (BlkX wr W.heap.size t (.slice (some a) ln cl) ∧ BlkX wr (W.heap.size + 1) tz (.slice none 0 0)) := ⟨hB, hB2⟩
   have hwr : w1.heap.size < wr.heap.size := hR.1
   clear hE hE1 hps hpl hR hLd hB hB2 la0 la1 la2 la3 la4 la5 la6 la7 la8 la9 la10 la11 la12 qa ga0 ga1 ga2 ga3 ga4 ga5 ga6 ga7 ga8 ga9 ga10 ga11 ga12
   by_cases hlt : j < ln
   · have hltI : (j : Int) < (ln : Int) := by omega
     have hI := HI.out.ext HO.out.2.2.2.2.1
     obtain ⟨gb, off, x, lv, hpp, hx1, hA1, hgb, hA2, hLx, hce⟩ := hI.at (i := j) (by rw [← HLN.out]; exact hlt)
     clear hA1 hA2
     cases hpp
     obtain ⟨pp, cl', hlv, hcl⟩ := hLx.form
     obtain ⟨ln', hln'⟩ : ∃ ln', x.l.length = ln' := ⟨_, rfl⟩
     rw [hln'] at hlv
     subst hlv
     have HX1 : Hid (t.l[j]? = some x) := hx1
     have HC : Hid (∀ V, Ext wr V → Calls Try.prog 66 #[.agg #[.int .i64 x.k, .int .i64 x.n, .string (bs x.s), .int .i64 x.e, .int .i64 x.r.1, .int .i64 x.r.2.1, .bool x.r.2.2.1, .bool x.r.2.2.2, .int .i64 x.q.1, .int .i64 x.q.2.1, .bool x.q.2.2.1, .bool x.q.2.2.2, .slice pp ln' cl'], .func (.func 80) #[] #[]] V (MpQ V (mpT id n x))) := fun V e => HIH.out x (List.mem_of_getElem? hx1) _ _ V P pp ln' cl' (fn_same V) (hLx.ext e)
     have e0 : wr.cell? ⟨gb, off + j * 13, none⟩ = some (.int .i64 x.k) := hce 0 _ rfl
     have e1 : wr.cell? ⟨gb, off + j * 13 + 1, none⟩ = some (.int .i64 x.n) := hce 1 _ rfl
     have e2 : wr.cell? ⟨gb, off + j * 13 + 2, none⟩ = some (.string (bs x.s)) := hce 2 _ rfl
     have e3 : wr.cell? ⟨gb, off + j * 13 + 3, none⟩ = some (.int .i64 x.e) := hce 3 _ rfl
     have e4 : wr.cell? ⟨gb, off + j * 13 + 4, none⟩ = some (.int .i64 x.r.1) := hce 4 _ rfl
     have e5 : wr.cell? ⟨gb, off + j * 13 + 5, none⟩ = some (.int .i64 x.r.2.1) := hce 5 _ rfl
     have e6 : wr.cell? ⟨gb, off + j * 13 + 6, none⟩ = some (.bool x.r.2.2.1) := hce 6 _ rfl
     have e7 : wr.cell? ⟨gb, off + j * 13 + 7, none⟩ = some (.bool x.r.2.2.2) := hce 7 _ rfl
     have e8 : wr.cell? ⟨gb, off + j * 13 + 8, none⟩ = some (.int .i64 x.q.1) := hce 8 _ rfl
     have e9 : wr.cell? ⟨gb, off + j * 13 + 9, none⟩ = some (.int .i64 x.q.2.1) := hce 9 _ rfl
     have e10 : wr.cell? ⟨gb, off + j * 13 + 10, none⟩ = some (.bool x.q.2.2.1) := hce 10 _ rfl
     have e11 : wr.cell? ⟨gb, off + j * 13 + 11, none⟩ = some (.bool x.q.2.2.2) := hce 11 _ rfl
     have e12 : wr.cell? ⟨gb, off + j * 13 + 12, none⟩ = some (.slice pp ln' cl') := hce 12 _ rfl
     clear hI hx1 hLx hce hcl hln'
     go_wp2_with fail
     refine (HC.out _ ((Ext.refl _).alloc _)).mono ?_
     rintro e w3 ⟨p3, l3, c3, rfl, hL3, E3⟩
     obtain ⟨y, hy⟩ : ∃ y, mpT id n x = y := ⟨_, rfl⟩
     have HY : Hid (mpT id n x = y) := hy
     rw [hy] at hL3 ⊢
     have hE3 : Ext wr w3 := ((Ext.refl _).alloc _).trans E3
     have H3 : Hid (Room w3 w1.heap.size (ln * 13) ∧ Laid w3 w1.heap.size (W.heap.size + 1 + 1) ps ∧ Ext W w3 ∧ Ext w1 w3 ∧ BlkX w3 W.heap.size t (.slice (some ⟨gb, off, none⟩) ln cl) ∧ BlkX w3 (W.heap.size + 1) tz (.slice none 0 0)) := ⟨HO.out.2.2.1.ext hE3, HO.out.2.2.2.1.ext HO.out.2.2.1.1 hE3, HO.out.2.2.2.2.1.trans hE3, HO.out.2.2.2.2.2.trans hE3, HB.out.1.ext hE3, HB.out.2.ext hE3⟩
     have HL3 : Hid (IsL w3 (fun k => W.heap.size + 1 + 1 ≤ k ∧ k ≠ w1.heap.size) (.slice p3 l3 c3) y.l) := hL3.mono (fun k hk _ => by have : (wr.alloc (.cells #[.int .i64 x.k, .int .i64 x.n, .string (bs x.s), .int .i64 x.e, .int .i64 x.r.1, .int .i64 x.r.2.1, .bool x.r.2.2.1, .bool x.r.2.2.2, .int .i64 x.q.1, .int .i64 x.q.2.1, .bool x.q.2.2.1, .bool x.q.2.2.2, .slice pp ln' cl'] 29)).heap.size ≤ k := hk; simp at this; exact ⟨by omega, by omega⟩)
     have hjn : ps.length * 13 + 13 ≤ ln * 13 := by have := HO.out.1; omega
     have hjI : j * 13 + 13 ≤ ln * 13 := by omega
     obtain ⟨u0, hu0⟩ := Option.isSome_iff_exists.1 (H3.out.1.2.1 (j * 13) (by omega))
     have hf0 := H3.out.1.2.2 (j * 13)
     obtain ⟨u1, hu1⟩ := Option.isSome_iff_exists.1 (H3.out.1.2.1 (j * 13 + 1) (by omega))
     have hf1 := H3.out.1.2.2 (j * 13 + 1)
     obtain ⟨u2, hu2⟩ := Option.isSome_iff_exists.1 (H3.out.1.2.1 (j * 13 + 2) (by omega))
     have hf2 := H3.out.1.2.2 (j * 13 + 2)
     obtain ⟨u3, hu3⟩ := Option.isSome_iff_exists.1 (H3.out.1.2.1 (j * 13 + 3) (by omega))
     have hf3 := H3.out.1.2.2 (j * 13 + 3)
     obtain ⟨u4, hu4⟩ := Option.isSome_iff_exists.1 (H3.out.1.2.1 (j * 13 + 4) (by omega))
     have hf4 := H3.out.1.2.2 (j * 13 + 4)
     obtain ⟨u5, hu5⟩ := Option.isSome_iff_exists.1 (H3.out.1.2.1 (j * 13 + 5) (by omega))
     have hf5 := H3.out.1.2.2 (j * 13 + 5)
     obtain ⟨u6, hu6⟩ := Option.isSome_iff_exists.1 (H3.out.1.2.1 (j * 13 + 6) (by omega))
     have hf6 := H3.out.1.2.2 (j * 13 + 6)
     obtain ⟨u7, hu7⟩ := Option.isSome_iff_exists.1 (H3.out.1.2.1 (j * 13 + 7) (by omega))
     have hf7 := H3.out.1.2.2 (j * 13 + 7)
     obtain ⟨u8, hu8⟩ := Option.isSome_iff_exists.1 (H3.out.1.2.1 (j * 13 + 8) (by omega))
     have hf8 := H3.out.1.2.2 (j * 13 + 8)
     obtain ⟨u9, hu9⟩ := Option.isSome_iff_exists.1 (H3.out.1.2.1 (j * 13 + 9) (by omega))
     have hf9 := H3.out.1.2.2 (j * 13 + 9)
     obtain ⟨u10, hu10⟩ := Option.isSome_iff_exists.1 (H3.out.1.2.1 (j * 13 + 10) (by omega))
     have hf10 := H3.out.1.2.2 (j * 13 + 10)
     obtain ⟨u11, hu11⟩ := Option.isSome_iff_exists.1 (H3.out.1.2.1 (j * 13 + 11) (by omega))
     have hf11 := H3.out.1.2.2 (j * 13 + 11)
     obtain ⟨u12, hu12⟩ := Option.isSome_iff_exists.1 (H3.out.1.2.1 (j * 13 + 12) (by omega))
     have hf12 := H3.out.1.2.2 (j * 13 + 12)
     have hw3 : w1.heap.size < w3.heap.size := H3.out.1.1
     clear hL3 E3 hE3 hy e0 e1 e2 e3 e4 e5 e6 e7 e8 e9 e10 e11 e12
     unfold aggX
     go_wp2_with fail
     go_roundw
     case rel =>
       have hj13 : j * 13 = ps.length * 13 := by rw [HO.out.1]
       refine ⟨j + 1, ps ++ [(y, .slice p3 l3 c3)], by omega, by go_num, by rw [List.length_append, HO.out.1]; rfl, ?_, ?_⟩
       · rw [List.map_append, HO.out.2.1, List.take_add_one, HX1.out]; simp [← HY.out]; rw [mpT_id]
       show Room (w3.setCells w1.heap.size (j * 13) (cellsT y (.slice p3 l3 c3))) _ _ ∧ Laid (w3.setCells w1.heap.size (j * 13) (cellsT y (.slice p3 l3 c3))) _ _ _ ∧ BlkX (w3.setCells w1.heap.size (j * 13) (cellsT y (.slice p3 l3 c3))) _ _ _ ∧ BlkX (w3.setCells w1.heap.size (j * 13) (cellsT y (.slice p3 l3 c3))) _ _ _ ∧ Ext W (w3.setCells w1.heap.size (j * 13) (cellsT y (.slice p3 l3 c3))) ∧ Ext w1 (w3.setCells w1.heap.size (j * 13) (cellsT y (.slice p3 l3 c3)))
       rw [hj13]
       exact ⟨H3.out.1.put _ _, H3.out.2.1.snoc H3.out.1 hjn HL3.out, H3.out.2.2.2.2.1.setCells (by omega) _ _, H3.out.2.2.2.2.2.setCells (by omega) _ _, H3.out.2.2.1.setCells (by omega) _ _, H3.out.2.2.2.1.setCells (Nat.le_refl _) _ _⟩
     case measure => show ln - ((j : Int) + 1).toNat < ln - ((j : Int)).toNat; omega
   · have hltI : ¬ (j : Int) < (ln : Int) := by omega
     have hjl : j = ln := by omega
     have HJL : Hid (j = ln) := hjl
     have HT : Hid (ps.map Prod.fst = t.l.map (id) ∧ ps.length = ln) := ⟨by rw [HO.out.2.1, hjl, HLN.out, List.take_length], HO.out.1.trans hjl⟩
     clear hlt hjl
     have HB0 := HB.out.1
     obtain ⟨qa, ⟨la0, la1, la2, la3, la4, la5, la6, la7, la8, la9, la10, la11, la12⟩, ga0, ga1, ga2, ga3, ga4, ga5, ga6, ga7, ga8, ga9, ga10, ga11, ga12⟩ := HB0
     go_wp2_with fail
     have hL9 : IsL wr (W.heap.size + 1 + 1 ≤ ·) (.slice (some ⟨w1.heap.size, 0, none⟩) ln ln) (t.l.map (id)) := by
       have := HO.out.2.2.2.1.isL (c := ln) HO.out.2.2.1.1 (by omega) (by rw [HT.out.2]; exact Nat.le_refl _)
       rw [HT.out.1, HT.out.2] at this
       exact this
     have hE9 : Ext W (wr.setCell ⟨W.heap.size, 12, none⟩ (.slice (some ⟨w1.heap.size, 0, none⟩) ln ln)) := HO.out.2.2.2.2.1.setCell (p := ⟨W.heap.size, 12, none⟩) (Nat.le_refl _) _
     have hB9 : BlkX (wr.setCell ⟨W.heap.size, 12, none⟩ (.slice (some ⟨w1.heap.size, 0, none⟩) ln ln)) (W.heap.size + 1) tz (.slice none 0 0) := Blk13.far1 HB.out.2 (by omega) 12 _
     have hL10 : IsL (wr.setCell ⟨W.heap.size, 12, none⟩ (.slice (some ⟨w1.heap.size, 0, none⟩) ln ln)) (W.heap.size + 1 + 1 ≤ ·) (.slice (some ⟨w1.heap.size, 0, none⟩) ln ln) (t.wL (t.l.map (id))).l := hL9.keep (by simp [World.setCell]) (fun k hk _ => Below.heap_setCell _ _ _ _ (by have hk2 : W.heap.size + 1 + 1 ≤ k := hk; simp; omega)) (fun _ h _ => h)
     have H9 : Hid (Ext W (wr.setCell ⟨W.heap.size, 12, none⟩ (.slice (some ⟨w1.heap.size, 0, none⟩) ln ln)) ∧ BlkX (wr.setCell ⟨W.heap.size, 12, none⟩ (.slice (some ⟨w1.heap.size, 0, none⟩) ln ln)) (W.heap.size + 1) tz (.slice none 0 0) ∧ IsL (wr.setCell ⟨W.heap.size, 12, none⟩ (.slice (some ⟨w1.heap.size, 0, none⟩) ln ln)) (W.heap.size + 1 + 1 ≤ ·) (.slice (some ⟨w1.heap.size, 0, none⟩) ln ln) (t.wL (t.l.map (id))).l) := ⟨hE9, hB9, hL10⟩
     clear hL9 hE9 hB9 hL10 qa la0 la1 la2 la3 la4 la5 la6 la7 la8 la9 la10 la11 la12 ga0 ga1 ga2 ga3 ga4 ga5 ga6 ga7 ga8 ga9 ga10 ga11 ga12
     refine (HFN.out _ (t.wL (t.l.map (id))) (some ⟨w1.heap.size, 0, none⟩) ln ln H9.out.1).mono ?_
     rintro e w8 ⟨p, l, c, rfl, E8, h8⟩
     have HB8 : Hid (BlkX w8 (W.heap.size + 1) tz (.slice none 0 0) ∧ Ext W w8) := ⟨(H9.out.2.1).ext E8, Ext.trans H9.out.1 E8⟩
     have HL8 : Hid (IsL w8 (W.heap.size + 1 + 1 ≤ ·) (.slice p l c) (g (t.wL (t.l.map (id)))).l) := by
       rcases h8 with ⟨q1, q2, q3, q4⟩ | ⟨q1, q2⟩
       · rw [q1, q2, q3, q4]; exact (H9.out.2.2).ext E8
       · rw [q1, q2]; exact .nil
     have HB2 := HB8.out.1
     obtain ⟨qc, ⟨lc0, lc1, lc2, lc3, lc4, lc5, lc6, lc7, lc8, lc9, lc10, lc11, lc12⟩, gc0, gc1, gc2, gc3, gc4, gc5, gc6, gc7, gc8, gc9, gc10, gc11, gc12⟩ := HB2
     clear E8 h8
     obtain ⟨y, hy⟩ : ∃ y, g (t.wL (t.l.map (id))) = y := ⟨_, rfl⟩
     have HY : Hid (mpT g (n + 1) t = y) := by show _ = _; rw [HX.out, ← hy]
     rw [hy] at HL8 ⊢
     clear hy
     unfold aggX
     go_wp2_with fail
     show bodyPost Try.prog _ _ _ _ (putX w8 (W.heap.size + 1) y (.slice p l c))
     rw [HY.out]
     exact endR (HB8.out.1.put y (.slice p l c)) rfl ⟨p, l, c, rfl, (putX_L HL8.out (fun k hk => by have hk2 : W.heap.size + 1 + 1 ≤ k := hk; omega)).mono (fun k hk _ => by have hk2 : W.heap.size + 1 + 1 ≤ k := hk; omega), putX_E HB8.out.2 (by omega) _ _⟩ (fun h0 h1 h2 h3 h4 h5 h6 h7 h8 h9 h10 h11 h12 => by simp [results, Try.results66, go_sem, h0, h1, h2, h3, h4, h5, h6, h7, h8, h9, h10, h11, h12, aggX])
theorem mapped_any (n : Nat) : ∀ t : T, Hr n t → MpC n t := by
 induction n with
 | zero => intro t h; cases h
 | succ n ih =>
   intro t hr g v W P pp ln cl hv hL
   have hi : ∀ x ∈ t.l, MpC n x := fun x hx => ih x (hr.2 x hx)
   cases hb : prB t.k with
   | true =>
     cases pp with
     | none => exact mapped_nil1 n t hr.1 hi hb g v W P () ln cl hv hL
     | some a => exact mapped_some1 n t hr.1 hi hb g v W P a ln cl hv hL
   | false =>
     cases pp with
     | none => exact mapped_nil0 n t hr.1 hi hb g v W P () ln cl hv hL
     | some a => exact mapped_some0 n t hr.1 hi hb g v W P a ln cl hv hL
open Go.RowKit
set_option maxHeartbeats 6000000
open Go.RowKit
set_option maxHeartbeats 6000000
end Go.Proofs.Ytjhmbkdkjgjoaaa

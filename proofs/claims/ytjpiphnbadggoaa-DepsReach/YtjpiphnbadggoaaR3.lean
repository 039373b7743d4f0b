/-
 What is read as places, rectangles, acts is such.
 Rows that are written into; slices.IndexFunc and slices.DeleteFunc of needs, by forget's function.
 slices.DeleteFunc of needs, by forget's function.
 Package deps: forget.
 Lists of spans in a world: slices of structs of two ints, read; Has and Same of the document's answer.
 Lists of spans that the call owns: blocks of cells known whole; append.
 A span laid behind a plain list (package span's laid).
-/
import Derived.Test.YtjpiphnbadggoaaR2
import Derived.Deep.Slices
import Derived.Lib.SliceRun
import Derived.Lib.BufferMore
import Derived.Test.YtjpiphnbadggoaaR1
import Derived.Test.YtjpiphnbadggoaaChecked
import Derived.Deep.AppendLies
import Derived.Laws.OwnMore
import Derived.WalkLawsBesides
import Derived.Deep.DeepCutAuto
import Derived.Deep.Light
import Derived.Deep.CutBlock
import Derived.Laws.StructEq
import Derived.Shelf.SlicesE.Kit
namespace Go.Proofs.Ytjpiphnbadggoaa
open Go.ChangeShapes Go.WideShapes Go.RowKit
open Go.Deep (choose_lt)
set_option maxHeartbeats 1000000

instance : Inhabited Zt := ⟨⟨((0, 0), []), .slice none 0 0, rfl⟩⟩
theorem qc_int : Try.prog.cellsOf 3 = 1 := by kernel_rfl
theorem qc_rects : Try.prog.cellsOf 29 = 1 := by kernel_rfl
section
variable {H : Type} {enc : TypeId × Value → H} {w : World} {base : Nat} {sp : Nat → Bool} {hd : Bool}
theorem open_g {TS T : TypeId} {k : Nat} (hu : Try.prog.underlying TS = some (.slice T)) (hk : Try.prog.cellsOf T = k) (hk0 : 0 < k) {α : Type} [Inhabited α] (c : α → List Value) (hc : ∀ x, (c x).length = k) (Q : α → Prop)
   (hel : ∀ fuel cs x, cs.length = k → DataW.trod enc Try.prog w base sp hd fuel T cs = some x → ∃ y, cs = c y ∧ Q y)
   {fuel : Nat} {cv : Value} {x : DataW H × List MemPlace} (h : DataW.trod enc Try.prog w base sp hd fuel TS [cv] = some x) : ∃ l : List α, RdG c k w cv l ∧ ∀ y ∈ l, Q y := by
 rcases DataW.trod_slice hu h with ⟨e6, _⟩ | ⟨a, len, cap, elems, rest, n', hn', e6, _, hb, hl, hm, hel', hx, _, _⟩
 · simp only [List.cons.injEq, and_true] at e6
   subst e6
   exact ⟨[], RdG.nil w, (fun r hr => by cases hr)⟩
 · simp only [List.cons.injEq, and_true] at e6
   subst e6
   rw [hk] at hx
   have each : ∀ i, i < len → ∃ y : α, (∀ (j : Nat) (u : Value), (c y)[j]? = some u → w.cell? ((a.add (i * k)).add j) = some u) ∧ Q y := by
     intro i hi
     have h0 := hx i hi
     rw [List.getElem?_eq_getElem (show i < elems.length by omega)] at h0
     obtain ⟨cs', h1, h2⟩ := Option.bind_eq_some_iff.1 h0
     obtain ⟨_, k1, k2⟩ := World.cells?_some h1
     obtain ⟨r, rfl, hr⟩ := hel _ _ _ (by simpa using k1) h2
     refine ⟨r, fun j u hu => ?_, hr⟩
     rw [← hu]
     refine k2 j ?_
     have := (List.getElem?_eq_some_iff.1 hu).1
     rw [← k1]; exact this
   obtain ⟨f, hf⟩ := choose_lt each
   by_cases h0 : len = 0
   · subst h0
     exact ⟨[], ⟨_, _, rfl, by omega, .inl rfl⟩, (fun r hr => by cases hr)⟩
   obtain ⟨b, off, spot⟩ := a
   obtain ⟨u, hu⟩ : ∃ u, (c (f 0))[0]? = some u := ⟨_, List.getElem?_eq_getElem (by rw [hc]; exact hk0)⟩
   have hz := (hf 0 (by omega)).1 0 _ hu
   have hspot : spot = none := by simpa [Addr.add] using World.cell?_spot hz
   subst hspot
   have hblt : b < w.heap.size := by
     have := World.block_lt_of_cell? _ _ hz
     simpa only [Addr.add_lit] using this
   have hgl : ((List.range len).map f).length = len := by simp
   refine ⟨(List.range len).map f, ⟨_, cap, by rw [hgl], by omega, .inr ⟨b, off, rfl, hblt, fun i r j u hi hj => ?_⟩⟩, ?_⟩
   · have hi' : i < len := by
       have := (List.getElem?_eq_some_iff.1 hi).1
       simpa using this
     rw [List.getElem?_map, List.getElem?_range hi'] at hi
     simp at hi
     subst hi
     have := (hf i hi').1 j u hj
     simp only [Addr.add_lit] at this
     exact this
   · intro r hr
     obtain ⟨i, hi, rfl⟩ := List.mem_map.1 hr
     exact (hf i (List.mem_range.1 hi)).2
set_option maxRecDepth 100000 in
theorem open_pl {fuel : Nat} {cs : List Value} {x : DataW H × List MemPlace} (hl : cs.length = 2) (h : DataW.trod enc Try.prog w base sp hd fuel 24 cs = some x) : ∃ y : Pl, cs = cP y ∧ (I64 y.1 ∧ I64 y.2) := by
 obtain ⟨xs, n, rfl, _, hlen, hxl, hf⟩ := DataW.trod_struct Try.underlying24 h
 match cs, hl with
 | [c0, c1], _ =>
   obtain ⟨y0, g0⟩ : ∃ y, xs[0]? = some y := ⟨_, List.getElem?_eq_getElem (by rw [hxl]; decide)⟩
   obtain ⟨y1, g1⟩ : ∃ y, xs[1]? = some y := ⟨_, List.getElem?_eq_getElem (by rw [hxl]; decide)⟩
   have f0 := (hf 0 _ rfl).trans g0
   have f1 := (hf 1 _ rfl).trans g1
   simp [qc_int] at f0 f1
   obtain ⟨a0, e0, _, w0⟩ := DataW.trod_int Try.underlying3 f0
   obtain ⟨a1, e1, _, w1⟩ := DataW.trod_int Try.underlying3 f1
   simp only [List.cons.injEq, and_true] at e0 e1
   subst e0 e1
   exact ⟨(a0, a1), rfl, i64_of_wf w0, i64_of_wf w1⟩
set_option maxRecDepth 100000 in
theorem open_rc {fuel : Nat} {cs : List Value} {x : DataW H × List MemPlace} (hl : cs.length = 4) (h : DataW.trod enc Try.prog w base sp hd fuel 32 cs = some x) : ∃ y : Rc, cs = cR y ∧ True := by
 obtain ⟨xs, n, rfl, _, hlen, hxl, hf⟩ := DataW.trod_struct Try.underlying32 h
 match cs, hl with
 | [c0, c1, c2, c3], _ =>
   obtain ⟨y0, g0⟩ : ∃ y, xs[0]? = some y := ⟨_, List.getElem?_eq_getElem (by rw [hxl]; decide)⟩
   obtain ⟨y1, g1⟩ : ∃ y, xs[1]? = some y := ⟨_, List.getElem?_eq_getElem (by rw [hxl]; decide)⟩
   obtain ⟨y2, g2⟩ : ∃ y, xs[2]? = some y := ⟨_, List.getElem?_eq_getElem (by rw [hxl]; decide)⟩
   obtain ⟨y3, g3⟩ : ∃ y, xs[3]? = some y := ⟨_, List.getElem?_eq_getElem (by rw [hxl]; decide)⟩
   have f0 := (hf 0 _ rfl).trans g0
   have f1 := (hf 1 _ rfl).trans g1
   have f2 := (hf 2 _ rfl).trans g2
   have f3 := (hf 3 _ rfl).trans g3
   simp [qc_int] at f0 f1 f2 f3
   obtain ⟨a0, e0, _, _⟩ := DataW.trod_int Try.underlying3 f0
   obtain ⟨a1, e1, _, _⟩ := DataW.trod_int Try.underlying3 f1
   obtain ⟨a2, e2, _, _⟩ := DataW.trod_int Try.underlying3 f2
   obtain ⟨a3, e3, _, _⟩ := DataW.trod_int Try.underlying3 f3
   simp only [List.cons.injEq, and_true] at e0 e1 e2 e3
   subst e0 e1 e2 e3
   exact ⟨⟨a0, a1, a2, a3⟩, rfl, trivial⟩
theorem open_rcs {fuel : Nat} {c : Value} {x : DataW H × List MemPlace} (h : DataW.trod enc Try.prog w base sp hd fuel 29 [c] = some x) : ∃ l, RdR w c l := by
 obtain ⟨l, h1, _⟩ := open_g Try.underlying29 (k := 4) (by kernel_rfl) (by decide) cR cR_len (fun _ => True) (fun _ _ _ => open_rc) h
 exact ⟨l, h1⟩
theorem open_pls {fuel : Nat} {c : Value} {x : DataW H × List MemPlace} (h : DataW.trod enc Try.prog w base sp hd fuel 34 [c] = some x) : ∃ l, RdP w c l := by
 obtain ⟨l, h1, _⟩ := open_g Try.underlying34 (k := 2) (by kernel_rfl) (by decide) cP cP_len _ (fun _ _ _ => open_pl) h
 exact ⟨l, h1⟩
set_option maxRecDepth 100000 in
theorem open_act {fuel : Nat} {cs : List Value} {x : DataW H × List MemPlace} (hl : cs.length = 3) (h : DataW.trod enc Try.prog w base sp hd fuel 52 cs = some x) : ∃ y : Zt, cs = cZ y ∧ RdR w y.v y.e.2 := by
 obtain ⟨xs, n, rfl, _, hlen, hxl, hf⟩ := DataW.trod_struct Try.underlying52 h
 match cs, hl with
 | [c0, c1, c2], _ =>
   obtain ⟨y0, g0⟩ : ∃ y, xs[0]? = some y := ⟨_, List.getElem?_eq_getElem (by rw [hxl]; decide)⟩
   obtain ⟨y1, g1⟩ : ∃ y, xs[1]? = some y := ⟨_, List.getElem?_eq_getElem (by rw [hxl]; decide)⟩
   obtain ⟨y2, g2⟩ : ∃ y, xs[2]? = some y := ⟨_, List.getElem?_eq_getElem (by rw [hxl]; decide)⟩
   have f0 := (hf 0 _ rfl).trans g0
   have f1 := (hf 1 _ rfl).trans g1
   have f2 := (hf 2 _ rfl).trans g2
   simp [qc_int, qc_rects] at f0 f1 f2
   obtain ⟨a0, e0, _, _⟩ := DataW.trod_int Try.underlying3 f0
   obtain ⟨a1, e1, _, _⟩ := DataW.trod_int Try.underlying3 f1
   obtain ⟨l, hl⟩ := open_rcs f2
   simp only [List.cons.injEq, and_true] at e0 e1
   subst e0 e1
   obtain ⟨p, cp, rfl, _⟩ := hl.form
   exact ⟨⟨((a0, a1), l), _, rfl⟩, rfl, hl⟩
theorem open_acts {fuel : Nat} {c : Value} {x : DataW H × List MemPlace} (h : DataW.trod enc Try.prog w base sp hd fuel 22 [c] = some x) : ∃ l, RdG cZ 3 w c l ∧ ∀ z ∈ l, RdR w z.v z.e.2 :=
 open_g Try.underlying22 (k := 3) (by kernel_rfl) (by decide) cZ cZ_len _ (fun _ _ _ => open_act) h
end

open Go.RowKit
set_option maxHeartbeats 1000000

theorem setCells_row {g : Nat} {T : TypeId} : ∀ (vs : List Value) (o : Nat) (w : World) (cur : Array Value), w.heap[g]? = some (.cells cur T (0, 0)) → o + vs.length ≤ cur.size →
   ∃ cur', (w.setCells g o vs).heap[g]? = some (.cells cur' T (0, 0)) ∧ cur'.size = cur.size ∧ (∀ j : Nat, cur'[j]? = if o ≤ j ∧ j < o + vs.length then vs[j - o]? else cur[j]?) ∧ w.grownBy (w.setCells g o vs) (some g)
 | [], o, w, cur, h, _ => ⟨cur, h, rfl, fun j => by rw [if_neg (by simp)], ⟨rfl, rfl, rfl, Nat.le_refl _, fun _ _ _ => rfl⟩⟩
 | v :: r, o, w, cur, h, hs => by
   simp at hs
   obtain ⟨cur', h1, h2, h3, h4⟩ := setCells_row r (o + 1) (w.setCell ⟨g, o, none⟩ v) (cur.setIfInBounds o v) (Lib.heap_setCell_same h v) (by simp; omega)
   refine ⟨cur', h1, by rw [h2]; simp, fun j => ?_, ?_⟩
   · rw [h3 j]
     by_cases hj : j = o
     · subst hj
       rw [if_neg (by omega), if_pos (by simp), Nat.sub_self, List.getElem?_cons_zero, Array.getElem?_setIfInBounds_self_of_lt (by omega)]
     · by_cases hj2 : o + 1 ≤ j ∧ j < o + 1 + r.length
       · rw [if_pos hj2, if_pos (by simp; omega)]
         obtain ⟨m, rfl⟩ : ∃ m, j = o + 1 + m := ⟨j - (o + 1), by omega⟩
         rw [show o + 1 + m - (o + 1) = m by omega, show o + 1 + m - o = m + 1 by omega]
         rfl
       · rw [if_neg hj2, if_neg (by simp; omega)]
         rw [Array.getElem?_setIfInBounds_ne (by omega)]
   · refine ⟨h4.os, h4.tape, h4.output, Nat.le_trans (by simp [World.setCell]) h4.size, fun k hk hn => ?_⟩
     refine (h4.block k (by simpa [World.setCell] using hk) hn).trans ?_
     exact heap_setCell_other w ⟨g, o, none⟩ k v (fun e => hn (by rw [e]))
/-- An element is written. -/
theorem own_set {α : Type} {c : α → List Value} {k : Nat} (hc : ∀ x, (c x).length = k) (hk : 0 < k) {W : World} {base g n cap : Nat} {T : TypeId} {M : List α} (h : W.ownsRow base T k (.slice (some ⟨g, 0, none⟩) n cap) n (M.flatMap c)) {i : Nat} (hi : i < n) (x : α) :
   (W.setCells g (i * k) (c x)).ownsRow base T k (.slice (some ⟨g, 0, none⟩) n cap) n ((M.set i x).flatMap c) ∧ W.grownBy (W.setCells g (i * k) (c x)) (some g) := by
 have hM : M.length = n := by
   have := h.1
   rw [gm_len hc] at this
   exact Nat.eq_of_mul_eq_mul_right hk this
 rcases h.2 with ⟨h0, _⟩ | ⟨g', cap', cur, e, hb, hg, hn, hcm, hs, ht⟩
 · cases h0
 · cases e
   have hle : (i + 1) * k ≤ n * k := Nat.mul_le_mul_right k hi
   have hle2 : n * k ≤ cap * k := Nat.mul_le_mul_right k hn
   rw [Nat.succ_mul] at hle
   obtain ⟨cur', h1, h2, h3, h4⟩ := setCells_row (c x) (i * k) W cur hg (by rw [hc]; omega)
   refine ⟨⟨by rw [gm_len hc, List.length_set, hM], .inr ⟨g, cap, cur', rfl, hb, h1, hn, hcm, by rw [h2]; exact hs, ?_⟩⟩, h4⟩
   refine List.ext_getElem? (fun j => ?_)
   by_cases hj : j < n * k
   · rw [List.getElem?_take, if_pos hj, Array.getElem?_toList, h3 j, hc]
     have hd : j / k < n := by rw [Nat.div_lt_iff_lt_mul hk]; exact hj
     have hdm : j / k * k + j % k = j := by rw [Nat.mul_comm]; exact Nat.div_add_mod j k
     have hml := Nat.mod_lt j hk
     obtain ⟨y, hy⟩ : ∃ y, (M.set i x)[j / k]? = some y := ⟨_, List.getElem?_eq_getElem (by rw [List.length_set]; omega)⟩
     have e2 := gm_at hc (M.set i x) (j / k) y (j % k) hy hml
     rw [hdm] at e2
     rw [e2]
     by_cases hik : j / k = i
     · rw [hik, List.getElem?_set_self (by omega)] at hy
       cases hy
       rw [if_pos (by rw [← hik]; omega), show j - i * k = j % k by rw [← hik]; omega]
     · rw [List.getElem?_set_ne (Ne.symm hik)] at hy
       have e3 := gm_at hc M (j / k) y (j % k) hy hml
       rw [hdm] at e3
       have hout : ¬ (i * k ≤ j ∧ j < i * k + k) := by
         rintro ⟨a1, a2⟩
         apply hik
         apply Nat.le_antisymm
         · exact Nat.le_of_lt_succ (by rw [Nat.div_lt_iff_lt_mul hk, Nat.succ_mul]; exact a2)
         · rw [Nat.le_div_iff_mul_le hk]; exact a1
       rw [if_neg hout, ← e3, ← ht, List.getElem?_take, if_pos hj, Array.getElem?_toList]
   · rw [List.getElem?_eq_none (by simp; omega), List.getElem?_eq_none (by rw [gm_len hc, List.length_set, hM]; omega)]
/-- The tail is written over, the slice is cut. -/
theorem own_cut {α : Type} {c : α → List Value} {k : Nat} (hc : ∀ x, (c x).length = k) (hk : 0 < k) {W : World} {base g n cap : Nat} {T : TypeId} {M : List α} (h : W.ownsRow base T k (.slice (some ⟨g, 0, none⟩) n cap) n (M.flatMap c)) {i : Nat} (hi : i ≤ n) (vs : List Value) (hv : i * k + vs.length ≤ n * k) :
   (W.setCells g (i * k) vs).ownsRow base T k (.slice (some ⟨g, 0, none⟩) i cap) i ((M.take i).flatMap c) ∧ W.grownBy (W.setCells g (i * k) vs) (some g) := by
 have hM : M.length = n := by
   have := h.1
   rw [gm_len hc] at this
   exact Nat.eq_of_mul_eq_mul_right hk this
 rcases h.2 with ⟨h0, _⟩ | ⟨g', cap', cur, e, hb, hg, hn, hcm, hs, ht⟩
 · cases h0
 · cases e
   have hle2 : n * k ≤ cap * k := Nat.mul_le_mul_right k hn
   have hle : i * k ≤ n * k := Nat.mul_le_mul_right k hi
   obtain ⟨cur', h1, h2, h3, h4⟩ := setCells_row vs (i * k) W cur hg (by omega)
   have hl : (M.take i).length = i := by simp; omega
   refine ⟨⟨by rw [gm_len hc, hl], .inr ⟨g, cap, cur', rfl, hb, h1, by omega, hcm, by rw [h2]; exact hs, ?_⟩⟩, h4⟩
   have e1 : cur'.toList.take (i * k) = cur.toList.take (i * k) := by
     refine List.ext_getElem? (fun j => ?_)
     rw [List.getElem?_take, List.getElem?_take]
     split
     · rw [Array.getElem?_toList, Array.getElem?_toList, h3 j, if_neg (by omega)]
     · rfl
   have e2 : M.flatMap c = (M.take i).flatMap c ++ (M.drop i).flatMap c := by rw [← List.flatMap_append, List.take_append_drop]
   rw [e1, show cur.toList.take (i * k) = (cur.toList.take (n * k)).take (i * k) by rw [List.take_take, Nat.min_eq_left hle], ht, e2, List.take_append_of_le_length (by rw [gm_len hc, hl]; omega), List.take_of_length_le (by rw [gm_len hc, hl]; omega)]
theorem clos_any (x : Nd) (a1 a2 : Int) (B : Nat) (W : World) (h0 : W.cell? ⟨B, 0, none⟩ = some (.int .i64 a1)) (h1 : W.cell? ⟨B, 1, none⟩ = some (.int .i64 a2)) :
   Calls Try.prog 47 #[.agg #[.int .i64 x.f, .int .i64 x.t, .int .i64 x.r, .int .i64 x.c], .pointer (some ⟨B, 0, none⟩)] W fun e w' => e = .returned (.bool (decide (x.at = (a1, a2)))) ∧ Ext W w' := by
 have qE := eq_pl x.r x.c a1 a2
 have qG := gd_pl
 have hlt : B < W.heap.size := World.block_lt_of_cell? _ _ h0
 have k := fun o => ((Ext.refl W).alloc (.cells #[.int .i64 x.f, .int .i64 x.t, .int .i64 x.r, .int .i64 x.c] 74)).cell.1 B o hlt
 have h2 := (k 0).trans h0
 have h3 := (k 1).trans h1
 have HD : Hid (decide (x.at = (a1, a2)) = (x.r == a1 && x.c == a2)) := (pl_eq x.at (a1, a2)).symm
 clear k h0 h1 hlt
 go_enter Try.func47, Try.ntmps47
 go_wp2_with fail
 go_ret
 exact ⟨ret_bool HD.out.symm, (Ext.refl _).alloc _⟩
/-- Where the first is that is the cell's, if any. -/
def FstQ (l : List Nd) (a : Pl) (e : Ending) : Prop :=
 (e = .returned (.int .i64 (-1)) ∧ ∀ x ∈ l, x.at ≠ a) ∨ ∃ k : Nat, e = .returned (.int .i64 (k : Int)) ∧ k < l.length ∧ (∀ x ∈ l.take k, x.at ≠ a) ∧ ∀ x, l[k]? = some x → x.at = a
theorem idxf_any (w : World) (v : Value) (l : List Nd) (a1 a2 : Int) (B : Nat) (h : RdN w v l) (hl : l.length ≤ 200000) (h0 : w.cell? ⟨B, 0, none⟩ = some (.int .i64 a1)) (h1 : w.cell? ⟨B, 1, none⟩ = some (.int .i64 a2)) :
   Calls Try.prog 61 #[v, .func (.func 47) #[] #[.pointer (some ⟨B, 0, none⟩)]] w fun e w' => FstQ l (a1, a2) e ∧ Ext w w' := by
 obtain ⟨p, c, rfl, _⟩ := h.form
 have eg : ∀ args w, (callFunc 47 args).run Try.prog w = .ok (.enter 47 args) w := enters_of Try.func47 (by kernel_rfl) rfl
 have HR : Hid (RdN w (.slice p l.length c) l) := h
 have HL : Hid (l.length ≤ 200000) := hl
 have hlt : B < w.heap.size := World.block_lt_of_cell? _ _ h0
 have HB : Hid (∀ W, Ext w W → W.cell? ⟨B, 0, none⟩ = some (.int .i64 a1) ∧ W.cell? ⟨B, 1, none⟩ = some (.int .i64 a2)) := fun W e => ⟨(e.cell.1 B 0 hlt).trans h0, (e.cell.1 B 1 hlt).trans h1⟩
 clear h hl h0 h1 hlt
 go_enter Try.func61, Try.ntmps61
 go_wp2_with fail
 go_loopw [8] (fun x wr => ∃ k : Nat, x = .int .i64 (k : Int) ∧ k ≤ l.length ∧ Ext w wr ∧ ∀ x ∈ l.take k, x.at ≠ (a1, a2)) (fun x _ => l.length - (intOf x).toNat)
 case atStart => exact ⟨0, rfl, Nat.zero_le _, Ext.refl _, by simp⟩
 case round =>
   obtain ⟨k, rfl, hk, hE, hn⟩ := hrel
   have HE : Hid (Ext w wr) := hE
   have HN : Hid (∀ x ∈ l.take k, x.at ≠ (a1, a2)) := hn
   clear hE hn
   rcases Nat.lt_or_ge k l.length with hlt | hge
   · have hltI : (k : Int) < (l.length : Int) := by omega
     obtain ⟨s, hs⟩ : ∃ s, l[k]? = some s := ⟨_, List.getElem?_eq_getElem hlt⟩
     obtain ⟨b, off, rfl, _, c1, c2, c3, c4⟩ := Rd4.cell (HR.out.ext HE.out) hs rfl
     have wk := wrapI k (by have := HL.out; omega)
     have HS : Hid (l[k]? = some s) := hs
     clear hs
     obtain ⟨q1, q2⟩ := HB.out _ HE.out
     have cC := clos_any s a1 a2 B wr q1 q2
     clear q1 q2
     cases he : decide (s.at = (a1, a2))
     · have HT : Hid (∀ x ∈ l.take (k + 1), x.at ≠ (a1, a2)) := by
         intro x hx
         rw [take_at HS.out] at hx
         rcases List.mem_append.1 hx with hx | hx
         · exact HN.out x hx
         · simp at hx; subst hx; simpa using he
       rw [he] at cC
       clear he
       go_wp2_with fail
       refine cC.mono ?_
       rintro e w1 ⟨rfl, E1⟩
       have HE1 : Hid (Ext w w1) := HE.out.trans E1
       clear E1 cC
       go_wp2_with fail
       go_roundw
       case rel => exact ⟨k + 1, by rw [wk], hlt, HE1.out, HT.out⟩
       case measure => rw [wk]; simp [intOf]; omega
     · have ht : s.at = (a1, a2) := of_decide_eq_true he
       have HT : Hid (s.at = (a1, a2)) := ht
       rw [he] at cC
       clear he
       go_wp2_with fail
       refine cC.mono ?_
       rintro e w1 ⟨rfl, E1⟩
       have HE1 : Hid (Ext w w1) := HE.out.trans E1
       clear E1 cC
       go_wp2_with fail
       go_ret
       exact ⟨.inr ⟨k, rfl, hlt, HN.out, fun x hx => by rw [HS.out] at hx; cases hx; exact HT.out⟩, HE1.out⟩
   · have hltI : ¬ (k : Int) < (l.length : Int) := by omega
     go_wp2_with fail
     go_ret
     exact ⟨.inl ⟨rfl, fun x hx => HN.out x (by rw [List.take_of_length_le hge]; exact hx)⟩, HE.out⟩
theorem run_clear4 (w : World) (ty : TypeId) (b o n c : Nat) (hn : 0 < n) (hc : ∀ j, j < n * 4 → (w.cell? ⟨b, o + j, none⟩).isSome = true) (hf : ∀ j, j < n * 4 → w.frozen? ⟨b, o + j, none⟩ = false) :
   (Builtin.clear_ #[55] ty #[.slice (some ⟨b, o, none⟩) n c]).run Try.prog w = .ok (.tuple #[]) (w.setCells b o (List.replicate (n * 4) (.int .i64 0))) := by
 have hv : ∀ w, (zeroValue 74).run Try.prog w = .ok (.agg #[.int .i64 0, .int .i64 0, .int .i64 0, .int .i64 0]) w := fun w => by kernel_rfl
 have hzc : (Builtin.zeroCells (Value.agg #[.int .i64 0, .int .i64 0, .int .i64 0, .int .i64 0]).cells n).toList = List.replicate (n * 4) (.int .i64 0) := by
   simp only [Value.cells, Builtin.zeroCells]
   apply List.ext_getElem
   · simp
   · intro i h1 h2
     have : i % 4 < 4 := Nat.mod_lt _ (by decide)
     simp
     match i % 4, this with
     | 0, _ => rfl
     | 1, _ => rfl
     | 2, _ => rfl
     | 3, _ => rfl
 have hst := run_storeCells_cells (P := Try.prog) b o (List.replicate (n * 4) (.int .i64 0)) 0 w (by simpa using hc) (by simpa using hf) (by intro v hv'; rw [List.eq_of_mem_replicate hv']; rfl)
 simp only [Nat.add_zero] at hst
 obtain ⟨m, rfl⟩ : ∃ m, n = m + 1 := ⟨n - 1, by omega⟩
 simp [Builtin.clear_, run_underlying Try.underlying55, hv, hzc, hst]
theorem grown_tr {w w1 w2 : World} {g : Option Nat} (h : w.grownBy w1 g) (k : w1.grownBy w2 g) : w.grownBy w2 g :=
 ⟨k.os.trans h.os, k.tape.trans h.tape, k.output.trans h.output, Nat.le_trans h.size k.size, fun q hq hn => (k.block q (Nat.lt_of_lt_of_le hq h.size) hn).trans (h.block q hq hn)⟩
theorem Ext.gr {w w1 : World} (h : Ext w w1) (g : Option Nat) : w.grownBy w1 g := ⟨h.os, h.tape, h.output, h.size, fun q hq _ => h.block q hq⟩
/-- The rounds of DeleteFunc: M lies in the row. -/
structure DlS (w : World) (base g cap n : Nat) (l : List Nd) (a : Pl) (i j : Nat) (M : List Nd) (wr : World) : Prop where
 fn : n = l.length
 fm : M.length = n
 fj : j ≤ n
 fij : i < j
 fo : wr.ownsRow base 74 4 (.slice (some ⟨g, 0, none⟩) n cap) n (M.flatMap cN)
 ft : M.take i = (l.take j).filter (notAt a)
 fd : M.drop j = l.drop j
 fg : w.grownBy wr (some g)
theorem DlS.il {w wr : World} {base g cap n : Nat} {l : List Nd} {a : Pl} {i j : Nat} {M : List Nd} (h : DlS w base g cap n l a i j M wr) : i = ((l.take j).filter (notAt a)).length := by
 have h1 := congrArg List.length h.ft
 have := h.fm; have := h.fj; have := h.fij
 simp at h1
 omega
theorem DlS.at {w wr : World} {base g cap n : Nat} {l : List Nd} {a : Pl} {i j : Nat} {M : List Nd} (h : DlS w base g cap n l a i j M wr) : M[j]? = l[j]? := by
 have h1 := congrArg (fun l : List Nd => l[0]?) h.fd
 simpa using h1
theorem DlS.ext {w wr w1 : World} {base g cap n : Nat} {l : List Nd} {a : Pl} {i j : Nat} {M : List Nd} (h : DlS w base g cap n l a i j M wr) (e : Ext wr w1) : DlS w base g cap n l a i j M w1 :=
 ⟨h.fn, h.fm, h.fj, h.fij, ownsRow_ext h.fo e, h.ft, h.fd, grown_tr h.fg (e.gr _)⟩
theorem DlS.drop {w wr : World} {base g cap n : Nat} {l : List Nd} {a : Pl} {i j : Nat} {M : List Nd} {s : Nd} (h : DlS w base g cap n l a i j M wr) (hs : l[j]? = some s) (ha : s.at = a) : DlS w base g cap n l a i (j + 1) M wr := by
 have hj : j < l.length := (List.getElem?_eq_some_iff.1 hs).1
 refine ⟨h.fn, h.fm, by have := h.fn; omega, by have := h.fij; omega, h.fo, ?_, ?_, h.fg⟩
 · rw [h.ft, take_at hs, List.filter_append]
   simp [notAt, ha]
 · rw [← List.drop_drop, h.fd, List.drop_drop]
theorem DlS.keep {w wr : World} {base g cap n : Nat} {l : List Nd} {a : Pl} {i j : Nat} {M : List Nd} {s : Nd} (h : DlS w base g cap n l a i j M wr) (hs : l[j]? = some s) (ha : s.at ≠ a) : DlS w base g cap n l a (i + 1) (j + 1) (M.set i s) (wr.setCells g (i * 4) (cN s)) := by
 have hj : j < l.length := (List.getElem?_eq_some_iff.1 hs).1
 have hij := h.fij; have hn := h.fn; have hm := h.fm
 obtain ⟨o1, g1⟩ := own_set cN_len (by decide) h.fo (i := i) (by omega) s
 refine ⟨h.fn, by simp [h.fm], by omega, by omega, o1, ?_, ?_, grown_tr h.fg g1⟩
 · rw [take_at (s := s) (List.getElem?_set_self (by omega)), List.take_set_of_le (Nat.le_refl _), h.ft, take_at hs, List.filter_append]
   simp [notAt, ha]
 · rw [List.drop_set_of_lt (by omega), ← List.drop_drop, h.fd, List.drop_drop]
theorem own_cell {W : World} {base g cap n : Nat} {M : List Nd} (h : W.ownsRow base 74 4 (.slice (some ⟨g, 0, none⟩) n cap) n (M.flatMap cN)) :
   (∀ j, j < n * 4 → (W.cell? ⟨g, j, none⟩).isSome = true) ∧ ∀ j, W.frozen? ⟨g, j, none⟩ = false := by
 rcases h.2 with ⟨h0, _⟩ | ⟨g', cap', cur, e, hb, hg, hn, hcm, hs, ht⟩
 · cases h0
 · cases e
   refine ⟨fun j hj => ?_, fun j => frozen_of_row W g j cur _ hg⟩
   rw [cell_of_row W g j cur _ (0, 0) hg]
   simp
   have : n * 4 ≤ cap * 4 := Nat.mul_le_mul_right 4 hn
   omega
theorem flt_none {l : List Nd} {a : Pl} (h : ∀ x ∈ l, x.at ≠ a) : l.filter (notAt a) = l := List.filter_eq_self.2 (fun x hx => by simp [notAt, h x hx])
theorem DlS.start {w w1 : World} {base g cap k : Nat} {l : List Nd} {a : Pl} (o : w1.ownsRow base 74 4 (.slice (some ⟨g, 0, none⟩) l.length cap) l.length (l.flatMap cN)) (hk : k < l.length) (h1 : ∀ x ∈ l.take k, x.at ≠ a) (h2 : ∀ x, l[k]? = some x → x.at = a) (hg : w.grownBy w1 (some g)) : DlS w base g cap l.length l a k (k + 1) l w1 := by
 refine ⟨rfl, rfl, hk, Nat.lt_succ_self _, o, ?_, rfl, hg⟩
 have hs := List.getElem?_eq_getElem hk
 rw [take_at hs, List.filter_append, flt_none h1]
 simp [notAt, h2 _ hs]
theorem DlS.done {w wr : World} {base g cap n : Nat} {l : List Nd} {a : Pl} {i : Nat} {M : List Nd} (h : DlS w base g cap n l a i n M wr) :
   (wr.setCells g (i * 4) (List.replicate ((n - i) * 4) (.int .i64 0))).ownsRow base 74 4 (.slice (some ⟨g, 0, none⟩) i cap) (l.filter (notAt a)).length ((l.filter (notAt a)).flatMap cN) ∧ w.grownBy (wr.setCells g (i * 4) (List.replicate ((n - i) * 4) (.int .i64 0))) (some g) := by
 have hij := h.fij
 obtain ⟨o1, g1⟩ := own_cut cN_len (by decide) h.fo (i := i) (by omega) (List.replicate ((n - i) * 4) (.int .i64 0)) (by simp; omega)
 have hi := h.il
 have ht := h.ft
 have hn := h.fn
 have et : l.take n = l := List.take_of_length_le (by omega)
 rw [et] at hi ht
 rw [ht] at o1
 rw [← hi]
 exact ⟨o1, grown_tr h.fg g1⟩
theorem wrapN (k : Nat) (h : k ≤ 1000000) : wrap64 ((k : Int) + 1) = ((k + 1 : Nat) : Int) := by unfold wrap64; omega

open Go.RowKit
set_option maxHeartbeats 1000000

set_option maxRecDepth 100000 in
theorem del_any (w : World) (base : Nat) (v : Value) (l : List Nd) (a1 a2 : Int) (B : Nat) (hO : w.ownsRow base 74 4 v l.length (l.flatMap cN)) (hl : l.length ≤ 200000) (h0 : w.cell? ⟨B, 0, none⟩ = some (.int .i64 a1)) (h1 : w.cell? ⟨B, 1, none⟩ = some (.int .i64 a2)) (hne : v.ownBlock ≠ some B) :
   Calls Try.prog 46 #[v, .func (.func 47) #[] #[.pointer (some ⟨B, 0, none⟩)]] w fun e w' => ∃ v', e = .returned v' ∧ w'.ownsRow base 74 4 v' (l.filter (notAt (a1, a2))).length ((l.filter (notAt (a1, a2))).flatMap cN) ∧ v'.ownBlock = v.ownBlock ∧ w.grownBy w' v.ownBlock := by
 have eg : ∀ args w, (callFunc 47 args).run Try.prog w = .ok (.enter 47 args) w := enters_of Try.func47 (by kernel_rfl) rfl
 have cI := idxf_any w v l a1 a2 B (own_rdG cN_len hO rfl) hl h0 h1
 have HO : Hid (w.ownsRow base 74 4 v l.length (l.flatMap cN) ∧ l.length ≤ 200000 ∧ v.ownBlock ≠ some B) := ⟨hO, hl, hne⟩
 have hlt : B < w.heap.size := World.block_lt_of_cell? _ _ h0
 have HB : Hid (∀ W, w.grownBy W v.ownBlock → W.cell? ⟨B, 0, none⟩ = some (.int .i64 a1) ∧ W.cell? ⟨B, 1, none⟩ = some (.int .i64 a2)) := fun W e => by
   have k := fun o => (cells_heap (e.block B hlt (fun e => hne e.symm)) o).1
   exact ⟨(k 0).trans h0, (k 1).trans h1⟩
 clear hO hl h0 h1 hne hlt
 go_enter Try.func46, Try.ntmps46
 go_wp2_with fail
 refine cI.mono ?_
 rintro e w1 ⟨⟨rfl, hN⟩ | ⟨k, rfl, hk, hN, hA⟩, E1⟩
 · have HQ : Hid (w1.ownsRow base 74 4 v (l.filter (notAt (a1, a2))).length ((l.filter (notAt (a1, a2))).flatMap cN) ∧ w.grownBy w1 v.ownBlock) := by
     rw [flt_none hN]
     exact ⟨ownsRow_ext HO.out.1 E1, E1.gr _⟩
   clear cI hN E1
   go_wp2_with fail
   go_ret
   exact ⟨_, rfl, HQ.out.1, rfl, HQ.out.2⟩
 · rcases HO.out.1.2 with ⟨rfl, h0⟩ | ⟨g, cap, cur, rfl, -⟩
   · omega
   · have HS : Hid (DlS w base g cap l.length l (a1, a2) k (k + 1) l w1) := DlS.start (ownsRow_ext HO.out.1 E1) hk hN hA (E1.gr _)
     obtain ⟨n, hn⟩ : ∃ n, l.length = n := ⟨_, rfl⟩
     have HN : Hid (n ≤ 200000 ∧ k < n) := ⟨by rw [← hn]; exact HO.out.2.1, by rw [← hn]; exact hk⟩
     rw [hn] at HS
     simp only [hn]
     have wk := wrapN k (by have := HN.out; omega)
     have k1 : ((k : Int) == -1) = false := beq_eq_false_iff_ne.2 (by omega)
     clear cI hN hA E1 hk hn
     go_wp2_with fail
     go_loopw [5, 6] (fun x y wr => ∃ (i j : Nat) (M : List Nd), x = .int .i64 (i : Int) ∧ y = .int .i64 (j : Int) ∧ DlS w base g cap n l (a1, a2) i j M wr) (fun _ y _ => n - (intOf y).toNat)
     case atStart => exact ⟨k, k + 1, l, rfl, by rw [wk], HS.out⟩
     case round =>
       clear HS
       obtain ⟨i, j, M, rfl, rfl, hS⟩ := hrel
       have HS : Hid (DlS w base g cap n l (a1, a2) i j M wr) := hS
       have hj := hS.fj
       have hij := hS.fij
       have wi := wrapN i (by have := HN.out; omega)
       have wj := wrapN j (by have := HN.out; omega)
       clear hS k1 wk
       rcases Nat.lt_or_ge j n with hlt | hge
       · have hltI : (j : Int) < (n : Int) := by omega
         have hltJ : (i : Int) < (n : Int) := by omega
         obtain ⟨s, hs⟩ : ∃ s, l[j]? = some s := ⟨_, List.getElem?_eq_getElem (by rw [← HS.out.fn]; exact hlt)⟩
         have HK : Hid (l[j]? = some s) := hs
         obtain ⟨b', off', hbb, _, c1, c2, c3, c4⟩ := Rd4.cell (own_rdG cN_len HS.out.fo HS.out.fm.symm) (HS.out.at.trans hs) rfl
         simp at hbb
         obtain ⟨rfl, rfl⟩ := hbb
         rw [Nat.zero_add] at c1 c2 c3 c4
         have cC : ∀ W, Ext wr W → Calls Try.prog 47 #[.agg #[.int .i64 s.f, .int .i64 s.t, .int .i64 s.r, .int .i64 s.c], .pointer (some ⟨B, 0, none⟩)] W fun e w' => e = .returned (.bool (decide (s.at = (a1, a2)))) ∧ Ext W w' := fun W e => by
           obtain ⟨q1, q2⟩ := HB.out W (grown_tr HS.out.fg (e.gr _))
           exact clos_any s a1 a2 B W q1 q2
         clear hs
         cases he : decide (s.at = (a1, a2))
         · have ha : s.at ≠ (a1, a2) := of_decide_eq_false he
           have HA : Hid (s.at ≠ (a1, a2)) := ha
           rw [he] at cC
           clear he ha
           go_wp2_with fail
           refine (cC _ ((Ext.refl _).alloc _)).mono ?_
           rintro e w2 ⟨rfl, E2⟩
           have HS2 : Hid (DlS w base g cap n l (a1, a2) i j M w2) := HS.out.ext (((Ext.refl _).alloc _).trans E2)
           obtain ⟨_, ⟨d0, d1, d2, d3⟩, _⟩ := keep4 E2
           obtain ⟨y, hy⟩ : ∃ y, M[i]? = some y := ⟨_, List.getElem?_eq_getElem (by rw [HS.out.fm]; omega)⟩
           obtain ⟨b', off', hbb, _, f1, f2, f3, f4⟩ := Rd4.cell (own_rdG cN_len HS2.out.fo HS2.out.fm.symm) hy rfl
           simp at hbb
           obtain ⟨rfl, rfl⟩ := hbb
           rw [Nat.zero_add] at f1 f2 f3 f4
           have fz := (own_cell HS2.out.fo).2
           have HK3 : Hid (DlS w base g cap n l (a1, a2) (i + 1) (j + 1) (M.set i s) (w2.setCells g (i * 4) (cN s))) := HS2.out.keep HK.out HA.out
           clear cC E2 hy c1 c2 c3 c4 HS
           go_wp2_with fail
           go_roundw
           case rel => exact ⟨i + 1, j + 1, _, by rw [wi], by rw [wj], HK3.out⟩
           case measure => rw [wj]; simp [intOf]; omega
         · have ha : s.at = (a1, a2) := of_decide_eq_true he
           have HA : Hid (s.at = (a1, a2)) := ha
           rw [he] at cC
           clear he ha
           go_wp2_with fail
           refine (cC _ ((Ext.refl _).alloc _)).mono ?_
           rintro e w2 ⟨rfl, E2⟩
           have HS2 : Hid (DlS w base g cap n l (a1, a2) i (j + 1) M w2) := (HS.out.ext (((Ext.refl _).alloc _).trans E2)).drop HK.out HA.out
           clear cC E2 c1 c2 c3 c4 HS
           go_wp2_with fail
           go_roundw
           case rel => exact ⟨i, j + 1, _, rfl, by rw [wj], HS2.out⟩
           case measure => rw [wj]; simp [intOf]; omega
       · have hjn : j = n := by omega
         subst hjn
         have hltI : ¬ (j : Int) < (j : Int) := by omega
         have HD := HS.out.done
         have cells := own_cell HS.out.fo
         have hcap : i < cap := by
           rcases HS.out.fo.2 with ⟨h0, _⟩ | ⟨_, _, _, e, _, _, h4, _⟩
           · cases h0
           · cases e; omega
         have hci : ¬ cap = i := by omega
         have hcl : ∀ ty, (Builtin.clear_ #[55] ty #[.slice (some ⟨g, i * 4, none⟩) (j - i) (cap - i)]).run Try.prog wr = .ok (.tuple #[]) (wr.setCells g (i * 4) (List.replicate ((j - i) * 4) (.int .i64 0))) := fun ty =>
           run_clear4 wr ty g (i * 4) (j - i) (cap - i) (by omega) (fun q hq => cells.1 _ (by omega)) (fun q _ => cells.2 _)
         obtain ⟨w9, hw9⟩ : ∃ w9, wr.setCells g (i * 4) (List.replicate ((j - i) * 4) (.int .i64 0)) = w9 := ⟨_, rfl⟩
         rw [hw9] at hcl HD
         have HD2 : Hid (w9.ownsRow base 74 4 (.slice (some ⟨g, 0, none⟩) i cap) (l.filter (notAt (a1, a2))).length ((l.filter (notAt (a1, a2))).flatMap cN) ∧ w.grownBy w9 (some g)) := HD
         clear HD cells hw9
         go_wp2_with fail
         go_ret
         exact ⟨_, rfl, HD2.out.1, rfl, HD2.out.2⟩

open Go.RowKit
set_option maxHeartbeats 1000000

/-- Columns below k are through. -/
noncomputable def fgF (σ : Sg) (a : Pl) (k : Nat) (c : Nat) : List Nd := if c < k then (colS σ (c : Int)).filter (notAt a) else colS σ (c : Int)
structure FgS (W2 : World) (base b : Nat) (g : Option Nat) (vs0 : List Value) (σ : Sg) (a : Pl) (k : Nat) (vs : List Value) (wr : World) : Prop where
 co : Cols wr base b g vs (fgF σ a k)
 e : ExtC base W2 wr
 s : ∀ c, k ≤ c → vs[c]? = vs0[c]?
 kl : k ≤ 53
theorem FgS.drew {W2 wr w1 : World} {base b k : Nat} {g : Option Nat} {vs0 vs : List Value} {σ : Sg} {a : Pl} (h : FgS W2 base b g vs0 σ a k vs wr) (e : Ext wr w1) : FgS W2 base b g vs0 σ a k vs w1 := ⟨h.co.ext e, h.e.trans e.toF, h.s, h.kl⟩
theorem FgS.step {W2 wr w1 w2 : World} {base b k : Nat} {g : Option Nat} {vs0 vs : List Value} {σ : Sg} {a : Pl} {v v2 : Value} (h : FgS W2 base b g vs0 σ a k vs wr) (hv : vs0[k]? = some v) (ho : w2.ownsRow base 74 4 v2 ((colS σ (k : Int)).filter (notAt a)).length (((colS σ (k : Int)).filter (notAt a)).flatMap cN)) (hn : v2.ownBlock = v.ownBlock) (hg : w1.grownBy w2 v.ownBlock) (e1 : Ext wr w1 := by first | exact Ext.refl _ | exact (Ext.refl _).drew) :
   (w2.cell? ⟨b, 1 + k, none⟩ = some v ∧ w2.frozen? ⟨b, 1 + k, none⟩ = false) ∧ FgS W2 base b g vs0 σ a (k + 1) (vs.set k v2) (w2.setCell ⟨b, 1 + k, none⟩ v2) := by
 have hv' : vs[k]? = some v := by rw [h.s k (Nat.le_refl _)]; exact hv
 have h' := h.drew e1
 obtain ⟨c1, c2⟩ := h'.co.upd hv' hg ho (.inl hn)
 have hb := (hg.block b h'.co.lt (fun e => h'.co.ne hv' e.symm))
 refine ⟨⟨(cells_heap hb _).1.trans (h'.co.cell hv'), (cells_heap hb _).2.trans (h'.co.fz _)⟩, c1.congr (fun c _ => ?_), h'.e.trans c2, fun c hc => ?_, ?_⟩
 · unfold fgF
   by_cases hc : c = k
   · subst hc; simp
   · rw [if_neg hc]
     by_cases hlt : c < k
     · rw [if_pos hlt, if_pos (by omega)]
     · rw [if_neg hlt, if_neg (by omega)]
 · rw [List.getElem?_set_ne (by omega)]; exact h.s c (by omega)
 · have := (List.getElem?_eq_some_iff.1 hv').1
   rw [h.co.len] at this
   omega
/-- What forget leaves. -/
def FgQ (W : World) (base b n : Nat) (g : Option Nat) (σ : Sg) (a : Pl) (e : Ending) (w' : World) : Prop := e = .returned (.tuple #[]) ∧ (∃ vs', Dps w' base b g n vs' (delS σ a)) ∧ ExtD base W w'
theorem Dps.same {W : World} {base b n : Nat} {g : Option Nat} {vs : List Value} {σ : Sg} (h : Dps W base b g n vs σ) {a : Pl} (ha : needS σ a = []) : Dps W base b g n vs (delS σ a) := by
 refine ⟨h.cols.congr (fun c _ => ?_), h.map.congr (fun x => ?_), sg_del h.ok a, fun e he => h.few e (List.mem_filter.1 he).1, Nat.le_trans (del_len σ a) h.n⟩
 · rw [col_del, col_same h.ok ha]
 · rw [need_del]
   by_cases hx : x = a
   · rw [if_pos hx, hx, ha]
   · rw [if_neg hx]
set_option maxRecDepth 100000 in
theorem forget0 (W : World) (base b n : Nat) (g : Option Nat) (vs : List Value) (σ : Sg) (a1 a2 : Int) (h : Dps W base b g n vs σ) (hi : pin (a1, a2) = true) (ha : needS σ (a1, a2) = []) :
   Calls Try.prog 36 #[.pointer (some ⟨b, 0, none⟩), .agg #[.int .i64 a1, .int .i64 a2]] W (FgQ W base b n g σ (a1, a2)) := by
 obtain ⟨i1, i2⟩ := pin_i hi
 have h1 := h.ext ((Ext.refl W).alloc (.cells #[.int .i64 a1, .int .i64 a2] 24))
 obtain ⟨v, k1, k2⟩ := h1.map.look a1 a2 i1 i2
 rw [ha] at k2
 obtain ⟨vp, vc, rfl, _⟩ := own_form k2
 have mkS : Hid (∀ V, Ext (W.alloc (.cells #[.int .i64 a1, .int .i64 a2] 24)) V → (fun V => V.cell? ⟨b, 0, none⟩ = some (.map g) ∧ V.cell? ⟨W.heap.size, 0, none⟩ = some (.int .i64 a1) ∧ V.cell? ⟨W.heap.size, 1, none⟩ = some (.int .i64 a2) ∧ (Instr.lookup 54 (.map g) (.agg #[.int .i64 a1, .int .i64 a2]) false).run Try.prog V = .ok (.slice vp 0 vc) V) V) := fun V e => by
   obtain ⟨q1, q2⟩ := box2 e
   exact ⟨(h1.ext e).cols.cell0, q1, q2, k1 V e⟩
 have HQ : Hid (Dps W base b g n vs (delS σ (a1, a2))) := h.same ha
 clear h1 k1 k2 h hi ha i1 i2
 go_enter Try.func36, Try.ntmps36
 go_upto_region 1 with fail
 refine wp_region_held_drew (S := (fun V => V.cell? ⟨b, 0, none⟩ = some (.map g) ∧ V.cell? ⟨W.heap.size, 0, none⟩ = some (.int .i64 a1) ∧ V.cell? ⟨W.heap.size, 1, none⟩ = some (.int .i64 a2) ∧ (Instr.lookup 54 (.map g) (.agg #[.int .i64 a1, .int .i64 a2]) false).run Try.prog V = .ok (.slice vp 0 vc) V)) (by kernel_rfl) ?_ (fun hHeld0 => ?_)
 · (refine mkS.out _ ?_; ((with_reducible (repeat (first | assumption | exact Ext.refl _ | apply Ext.drew | apply Ext.drewN | apply Ext.alloc))); done))
 refine wpAnyH_take (i := 0) (oi := ⟨some 6, .move (.tmp 0), 25, "deps.go:86", #[], none⟩) (v := ?_) rfl (by kernel_rfl) (by kernel_rfl) (by kernel_rfl) (fun _ _ _ h => h) (Or.inl ⟨by rfl, ?_⟩) (by assumption) ?_
 rotate_left
 · intro w hSw; (try dsimp only at hSw); first | (go_simp; done) | (go_simp; with_reducible rfl)
 try go_frame
 refine wpAnyH_take (i := 1) (oi := ⟨some 7, .nilCheck (.tmp 6), 0, "deps.go:86", #[⟨0, .data⟩], none⟩) (v := ?_) rfl (by kernel_rfl) (by kernel_rfl) (by kernel_rfl) (fun _ _ _ h => h) (Or.inl ⟨by rfl, ?_⟩) (by assumption) ?_
 rotate_left
 · intro w hSw; (try dsimp only at hSw); first | (go_simp; done) | (go_simp; with_reducible rfl)
 try go_frame
 refine wpAnyH_take (i := 2) (oi := ⟨some 8, .fieldAddr 58 (.tmp 7) 0, 0, "deps.go:86", #[⟨1, .data⟩], none⟩) (v := ?_) rfl (by kernel_rfl) (by kernel_rfl) (by kernel_rfl) (fun _ _ _ h => h) (Or.inl ⟨by rfl, ?_⟩) (by assumption) ?_
 rotate_left
 · intro w hSw; (try dsimp only at hSw); first | (go_simp; done) | (go_simp; with_reducible rfl)
 try go_frame
 refine wpAnyH_take (i := 3) (oi := ⟨some 9, .load 54 (.tmp 8), 54, "deps.go:86", #[⟨2, .data⟩], none⟩) (v := ?_) rfl (by kernel_rfl) (by kernel_rfl) (by kernel_rfl) (fun _ _ _ h => h) (Or.inl ⟨by rfl, ?_⟩) (by assumption) ?_
 rotate_left
 · intro w hSw; (try dsimp only at hSw); first | (go_simp; done) | (go_simp; with_reducible rfl)
 try go_frame
 refine wpAnyH_take (i := 4) (oi := ⟨some 10, .load 24 (.tmp 3), 24, "deps.go:86", #[], none⟩) (v := ?_) rfl (by kernel_rfl) (by kernel_rfl) (by kernel_rfl) (fun _ _ _ h => h) (Or.inl ⟨by rfl, ?_⟩) (by assumption) ?_
 rotate_left
 · intro w hSw; (try dsimp only at hSw); first | (go_simp; done) | (go_simp; with_reducible rfl)
 try go_frame
 refine wpAnyH_take (i := 5) (oi := ⟨some 11, .lookup 54 (.tmp 9) (.tmp 10) false, 29, "deps.go:86", #[⟨3, .data⟩, ⟨4, .data⟩], none⟩) (v := ?_) rfl (by kernel_rfl) (by kernel_rfl) (by kernel_rfl) (fun _ _ _ h => h) (Or.inl ⟨by rfl, ?_⟩) (by assumption) ?_
 rotate_left
 · intro w hSw; (try dsimp only at hSw); first | (go_simp; done) | (go_simp; with_reducible rfl)
 try go_frame
 refine wpAnyH_take (i := 6) (oi := ⟨some 12, .call { callee := .builtin .len, args := #[.tmp 11], argTypes := #[29] }, 3, "deps.go:86", #[⟨5, .data⟩], none⟩) (v := ?_) rfl (by kernel_rfl) (by kernel_rfl) (by kernel_rfl) (fun _ _ _ h => h) (Or.inl ⟨by rfl, ?_⟩) (by assumption) ?_
 rotate_left
 · intro w hSw; (try dsimp only at hSw); first | (go_simp; done) | (go_simp; with_reducible rfl)
 try go_frame
 refine wpAnyH_take (i := 7) (oi := ⟨some 13, .binOp .eql 3 (.tmp 12) (.const (.int .i64 0)) 3, 4, "deps.go:86", #[⟨6, .data⟩], none⟩) (v := ?_) rfl (by kernel_rfl) (by kernel_rfl) (by kernel_rfl) (fun _ _ _ h => h) (Or.inl ⟨by rfl, ?_⟩) (by assumption) ?_
 rotate_left
 · intro w hSw; (try dsimp only at hSw); first | (go_simp; done) | (go_simp; with_reducible rfl)
 try go_frame
 refine wpAnyH_done (by kernel_rfl) ?_ _
 go_wp2_with fail
 refine bodyPost_ret (v := .tuple #[]) (by simp [results, Try.results36, go_sem]) rfl ?_
 exact ⟨rfl, ⟨vs, HQ.out.ext (((Ext.refl W).alloc _).drew)⟩, (((Ext.refl W).alloc _).drew).toF⟩
set_option maxRecDepth 100000 in
theorem forget1 (W : World) (base b n g : Nat) (vs : List Value) (σ : Sg) (a1 a2 : Int) (hb : base ≤ W.heap.size) (h : Dps W base b (some g) n vs σ) (hn : n ≤ 1000) (hi : pin (a1, a2) = true) (ha : needS σ (a1, a2) ≠ []) :
   Calls Try.prog 36 #[.pointer (some ⟨b, 0, none⟩), .agg #[.int .i64 a1, .int .i64 a2]] W (FgQ W base b n (some g) σ (a1, a2)) := by
 obtain ⟨i1, i2⟩ := pin_i hi
 have h1 := h.ext ((Ext.refl W).alloc (.cells #[.int .i64 a1, .int .i64 a2] 24))
 obtain ⟨v, k1, k2⟩ := h1.map.look a1 a2 i1 i2
 obtain ⟨vp, vc, rfl, _⟩ := own_form k2
 obtain ⟨vn, hvn⟩ : ∃ vn, (needS σ (a1, a2)).length = vn := ⟨_, rfl⟩
 rw [hvn] at k1
 have z0 : ((vn : Int) == 0) = false := beq_eq_false_iff_ne.2 (by
   intro e
   apply ha
   exact List.eq_nil_of_length_eq_zero (by omega))
 have mkS : Hid (∀ V, Ext (W.alloc (.cells #[.int .i64 a1, .int .i64 a2] 24)) V → (fun V => V.cell? ⟨b, 0, none⟩ = some (.map (some g)) ∧ V.cell? ⟨W.heap.size, 0, none⟩ = some (.int .i64 a1) ∧ V.cell? ⟨W.heap.size, 1, none⟩ = some (.int .i64 a2) ∧ (Instr.lookup 54 (.map (some g)) (.agg #[.int .i64 a1, .int .i64 a2]) false).run Try.prog V = .ok (.slice vp vn vc) V) V) := fun V e => by
   obtain ⟨q1, q2⟩ := box2 e
   exact ⟨(h1.ext e).cols.cell0, q1, q2, k1 V e⟩
 have H : Hid (Dps W base b (some g) n vs σ ∧ I64 a1 ∧ I64 a2 ∧ base ≤ W.heap.size ∧ n ≤ 1000) := ⟨h, i1, i2, hb, hn⟩
 clear h1 k1 k2 h hi ha i1 i2 hvn hb hn
 go_enter Try.func36, Try.ntmps36
 go_upto_region 1 with fail
 refine wp_region_held_drew (S := (fun V => V.cell? ⟨b, 0, none⟩ = some (.map (some g)) ∧ V.cell? ⟨W.heap.size, 0, none⟩ = some (.int .i64 a1) ∧ V.cell? ⟨W.heap.size, 1, none⟩ = some (.int .i64 a2) ∧ (Instr.lookup 54 (.map (some g)) (.agg #[.int .i64 a1, .int .i64 a2]) false).run Try.prog V = .ok (.slice vp vn vc) V)) (by kernel_rfl) ?_ (fun hHeld0 => ?_)
 · (refine mkS.out _ ?_; ((with_reducible (repeat (first | assumption | exact Ext.refl _ | apply Ext.drew | apply Ext.drewN | apply Ext.alloc))); done))
 refine wpAnyH_take (i := 0) (oi := ⟨some 6, .move (.tmp 0), 25, "deps.go:86", #[], none⟩) (v := ?_) rfl (by kernel_rfl) (by kernel_rfl) (by kernel_rfl) (fun _ _ _ h => h) (Or.inl ⟨by rfl, ?_⟩) (by assumption) ?_
 rotate_left
 · intro w hSw; (try dsimp only at hSw); first | (go_simp; done) | (go_simp; with_reducible rfl)
 try go_frame
 refine wpAnyH_take (i := 1) (oi := ⟨some 7, .nilCheck (.tmp 6), 0, "deps.go:86", #[⟨0, .data⟩], none⟩) (v := ?_) rfl (by kernel_rfl) (by kernel_rfl) (by kernel_rfl) (fun _ _ _ h => h) (Or.inl ⟨by rfl, ?_⟩) (by assumption) ?_
 rotate_left
 · intro w hSw; (try dsimp only at hSw); first | (go_simp; done) | (go_simp; with_reducible rfl)
 try go_frame
 refine wpAnyH_take (i := 2) (oi := ⟨some 8, .fieldAddr 58 (.tmp 7) 0, 0, "deps.go:86", #[⟨1, .data⟩], none⟩) (v := ?_) rfl (by kernel_rfl) (by kernel_rfl) (by kernel_rfl) (fun _ _ _ h => h) (Or.inl ⟨by rfl, ?_⟩) (by assumption) ?_
 rotate_left
 · intro w hSw; (try dsimp only at hSw); first | (go_simp; done) | (go_simp; with_reducible rfl)
 try go_frame
 refine wpAnyH_take (i := 3) (oi := ⟨some 9, .load 54 (.tmp 8), 54, "deps.go:86", #[⟨2, .data⟩], none⟩) (v := ?_) rfl (by kernel_rfl) (by kernel_rfl) (by kernel_rfl) (fun _ _ _ h => h) (Or.inl ⟨by rfl, ?_⟩) (by assumption) ?_
 rotate_left
 · intro w hSw; (try dsimp only at hSw); first | (go_simp; done) | (go_simp; with_reducible rfl)
 try go_frame
 refine wpAnyH_take (i := 4) (oi := ⟨some 10, .load 24 (.tmp 3), 24, "deps.go:86", #[], none⟩) (v := ?_) rfl (by kernel_rfl) (by kernel_rfl) (by kernel_rfl) (fun _ _ _ h => h) (Or.inl ⟨by rfl, ?_⟩) (by assumption) ?_
 rotate_left
 · intro w hSw; (try dsimp only at hSw); first | (go_simp; done) | (go_simp; with_reducible rfl)
 try go_frame
 refine wpAnyH_take (i := 5) (oi := ⟨some 11, .lookup 54 (.tmp 9) (.tmp 10) false, 29, "deps.go:86", #[⟨3, .data⟩, ⟨4, .data⟩], none⟩) (v := ?_) rfl (by kernel_rfl) (by kernel_rfl) (by kernel_rfl) (fun _ _ _ h => h) (Or.inl ⟨by rfl, ?_⟩) (by assumption) ?_
 rotate_left
 · intro w hSw; (try dsimp only at hSw); first | (go_simp; done) | (go_simp; with_reducible rfl)
 try go_frame
 refine wpAnyH_take (i := 6) (oi := ⟨some 12, .call { callee := .builtin .len, args := #[.tmp 11], argTypes := #[29] }, 3, "deps.go:86", #[⟨5, .data⟩], none⟩) (v := ?_) rfl (by kernel_rfl) (by kernel_rfl) (by kernel_rfl) (fun _ _ _ h => h) (Or.inl ⟨by rfl, ?_⟩) (by assumption) ?_
 rotate_left
 · intro w hSw; (try dsimp only at hSw); first | (go_simp; done) | (go_simp; with_reducible rfl)
 try go_frame
 refine wpAnyH_take (i := 7) (oi := ⟨some 13, .binOp .eql 3 (.tmp 12) (.const (.int .i64 0)) 3, 4, "deps.go:86", #[⟨6, .data⟩], none⟩) (v := ?_) rfl (by kernel_rfl) (by kernel_rfl) (by kernel_rfl) (fun _ _ _ h => h) (Or.inl ⟨by rfl, ?_⟩) (by assumption) ?_
 rotate_left
 · intro w hSw; (try dsimp only at hSw); first | (go_simp; done) | (go_simp; with_reducible rfl)
 try go_frame
 refine wpAnyH_done (by kernel_rfl) ?_ _
 clear mkS
 go_upto_region 2 with fail
 have E2 : Ext (W.alloc (.cells #[.int .i64 a1, .int .i64 a2] 24)) ((W.alloc (.cells #[.int .i64 a1, .int .i64 a2] 24)).drew) := (Ext.refl _).drew
 generalize ((W.alloc (.cells #[.int .i64 a1, .int .i64 a2] 24)).drew) = wq at *
 have EW : Ext W wq := ((Ext.refl W).alloc _).trans E2
 obtain ⟨hD, iR, iC, hb, hn⟩ := H.out
 have hq := hD.ext EW
 obtain ⟨hbg, D, own, rel⟩ : base ≤ g ∧ ∃ D, wq.ownsMap Try.prog 24 hR g n D ∧ RelN wq base D (needS σ) := hq.map
 obtain ⟨w9, hrun, own9, turn⟩ : ∃ w9, (∀ ty, (Builtin.delete_ #[54, 24] ty #[.map (some g), .agg #[.int .i64 a1, .int .i64 a2]]).run Try.prog wq.drew = .ok (.tuple #[]) w9) ∧ w9.ownsMap Try.prog 24 hR g n (D.del (kl a1 a2)) ∧ wq.drew.mapTurned w9 g := by
   obtain ⟨w9, h1, h2, h3⟩ := World.ownsMap.drop (w := wq.drew) own kLaw Try.underlying54 (key_mk a1 a2 iR iC) 0
   exact ⟨w9, fun _ => h1, h2, h3⟩
 have HR2 : Hid (∀ ty, (Builtin.delete_ #[54, 24] ty #[.map (some g), .agg #[.int .i64 a1, .int .i64 a2]]).run Try.prog wq.drew = .ok (.tuple #[]) w9) := hrun
 have tg : wq.grownBy w9 (some g) := grown_drew turn.grown
 obtain ⟨_, es, cl, hgm⟩ := map_block hq.map
 have eD : ExtD base wq w9 := ExtF.grown tg (fun q hq => by cases hq; exact ⟨hbg, by rw [hgm]; rfl⟩)
 have hbox := Ext.top E2
 have hbox9 : w9.heap[W.heap.size]? = some (.cells #[.int .i64 a1, .int .i64 a2] 24) := (tg.block _ (heap_lt hbox) (fun e => by cases e; rw [hbox] at hgm; cases hgm)).trans hbox
 have hc9 : Cols w9 base b (some g) vs (fun c => colS σ (c : Int)) := hq.cols.turn tg (by rw [hgm]; rfl)
 have hm9 : MapS w9 base n (some g) (needS (delS σ (a1, a2))) := ⟨hbg, _, own9, by
   have := (rel.keep eD (fun _ => rfl)).del a1 a2 iR iC
   have e : putM (needS σ) (a1, a2) [] = needS (delS σ (a1, a2)) := by funext x; rw [need_del]; rfl
   rw [← e]; exact this⟩
 have H9 : Hid (Cols w9 base b (some g) vs (fun c => colS σ (c : Int)) ∧ MapS w9 base n (some g) (needS (delS σ (a1, a2))) ∧ ExtD base W w9 ∧ w9.heap[W.heap.size]? = some (.cells #[.int .i64 a1, .int .i64 a2] 24) ∧ w9.cell? ⟨W.heap.size, 0, none⟩ = some (.int .i64 a1) ∧ w9.cell? ⟨W.heap.size, 1, none⟩ = some (.int .i64 a2)) :=
   ⟨hc9, hm9, (EW.toF).trans eD, hbox9, by rw [cell_of_row _ _ _ _ _ _ hbox9]; rfl, by rw [cell_of_row _ _ _ _ _ _ hbox9]; rfl⟩
 have HB : Hid (w9.cell? ⟨b, 0, none⟩ = some (.map (some g)) ∧ w9.cell? ⟨W.heap.size, 0, none⟩ = some (.int .i64 a1) ∧ w9.cell? ⟨W.heap.size, 1, none⟩ = some (.int .i64 a2)) := ⟨hc9.cell0, H9.out.2.2.2.2⟩
 have HA : Hid (wq.drew.cell? ⟨b, 0, none⟩ = some (.map (some g)) ∧ wq.drew.cell? ⟨W.heap.size, 0, none⟩ = some (.int .i64 a1) ∧ wq.drew.cell? ⟨W.heap.size, 1, none⟩ = some (.int .i64 a2)) := ⟨hq.cols.cell0, (cell_of_row wq.drew _ 0 _ _ _ hbox).trans rfl, (cell_of_row wq.drew _ 1 _ _ _ hbox).trans rfl⟩
 clear hrun own own9 turn tg hgm hbox hbox9 hc9 hm9 hq eD rel EW E2 iR iC hD hb hn hbg
 obtain ⟨A, hA⟩ : ∃ A, W.heap.size = A := ⟨_, rfl⟩
 have HAW : Hid (W.heap.size = A) := hA
 rw [hA] at HA HB H9 ⊢
 clear hA
 refine wp_region_held_drew (S := (fun V => V.cell? ⟨b, 0, none⟩ = some (.map (some g)) ∧ V.cell? ⟨A, 0, none⟩ = some (.int .i64 a1) ∧ V.cell? ⟨A, 1, none⟩ = some (.int .i64 a2))) (by kernel_rfl) ?_ (fun hHeld0 => ?_)
 · (first | exact HA.out | exact HB.out)
 refine wpAnyH_take (i := 0) (oi := ⟨some 14, .move (.tmp 0), 25, "deps.go:89", #[], none⟩) (v := ?_) rfl (by kernel_rfl) (by kernel_rfl) (by kernel_rfl) (fun _ _ _ h => h) (Or.inl ⟨by rfl, ?_⟩) (by assumption) ?_
 rotate_left
 · intro w hSw; (try dsimp only at hSw); first | (go_simp; done) | (go_simp; with_reducible rfl)
 try go_frame
 refine wpAnyH_take (i := 1) (oi := ⟨some 15, .nilCheck (.tmp 14), 0, "deps.go:89", #[⟨0, .data⟩], none⟩) (v := ?_) rfl (by kernel_rfl) (by kernel_rfl) (by kernel_rfl) (fun _ _ _ h => h) (Or.inl ⟨by rfl, ?_⟩) (by assumption) ?_
 rotate_left
 · intro w hSw; (try dsimp only at hSw); first | (go_simp; done) | (go_simp; with_reducible rfl)
 try go_frame
 refine wpAnyH_take (i := 2) (oi := ⟨some 16, .fieldAddr 58 (.tmp 15) 0, 0, "deps.go:89", #[⟨1, .data⟩], none⟩) (v := ?_) rfl (by kernel_rfl) (by kernel_rfl) (by kernel_rfl) (fun _ _ _ h => h) (Or.inl ⟨by rfl, ?_⟩) (by assumption) ?_
 rotate_left
 · intro w hSw; (try dsimp only at hSw); first | (go_simp; done) | (go_simp; with_reducible rfl)
 try go_frame
 refine wpAnyH_take (i := 3) (oi := ⟨some 17, .load 54 (.tmp 16), 54, "deps.go:89", #[⟨2, .data⟩], none⟩) (v := ?_) rfl (by kernel_rfl) (by kernel_rfl) (by kernel_rfl) (fun _ _ _ h => h) (Or.inl ⟨by rfl, ?_⟩) (by assumption) ?_
 rotate_left
 · intro w hSw; (try dsimp only at hSw); first | (go_simp; done) | (go_simp; with_reducible rfl)
 try go_frame
 refine wpAnyH_take (i := 4) (oi := ⟨some 18, .load 24 (.tmp 3), 24, "deps.go:89", #[], none⟩) (v := ?_) rfl (by kernel_rfl) (by kernel_rfl) (by kernel_rfl) (fun _ _ _ h => h) (Or.inl ⟨by rfl, ?_⟩) (by assumption) ?_
 rotate_left
 · intro w hSw; (try dsimp only at hSw); first | (go_simp; done) | (go_simp; with_reducible rfl)
 try go_frame
 refine wpAnyH_ready (rs := [5]) (by kernel_rfl) (by simp) ?_
 refine AllReadyH.cons (o := ⟨none, .call { callee := .builtin .delete, args := #[.tmp 17, .tmp 18], argTypes := #[54, 24] }, 0, "deps.go:89", #[⟨3, .data⟩, ⟨4, .data⟩], none⟩) rfl (fun K hK => ?_) AllReadyH.nil
 refine step_delete rfl _ _ _ _ rfl _ _ rfl rfl _ (HR2.out _) ?_
 refine hK.out _ _ ?_ (fun hHeld1 => ?_)
 · (try dsimp only); (first | exact HA.out | exact HB.out)
 clear hK K hHeld0
 try go_frame
 refine wpAnyH_done (by kernel_rfl) ?_ _
 have HLD : Hid ((Instr.loadAt 56 (.pointer (some ⟨b, 1, none⟩))).run Try.prog w9 = .ok (.agg vs.toArray) w9) := H9.out.1.load
 clear HA HB HR2
 go_wp2_with (refine wpList_loadT _ rfl _ 56 rfl _ _ rfl HLD.out ?_)
 have HS0 : Hid (FgS w9 base b (some g) vs σ (a1, a2) 0 vs w9) := ⟨H9.out.1.congr (fun c _ => by unfold fgF; rw [if_neg (by omega)]), ExtF.refl _, fun _ _ => rfl, by omega⟩
 clear HLD
 go_loopw [23] (fun x wr => ∃ (k : Nat) (vs' : List Value), x = .int .i64 (k : Int) ∧ FgS w9 base b (some g) vs σ (a1, a2) k vs' wr) (fun x _ => 53 - (intOf x).toNat)
 case atStart => exact ⟨0, vs, rfl, HS0.out⟩
 case round =>
   clear HS0 z0
   obtain ⟨k, vs', rfl, hS⟩ := hrel
   have HS : Hid (FgS w9 base b (some g) vs σ (a1, a2) k vs' wr) := hS
   have hkl := hS.kl
   clear hS
   rcases Nat.lt_or_ge k 53 with hlt | hge
   · have hltI : (k : Int) < 53 := by omega
     obtain ⟨v, hv⟩ : ∃ v, vs[k]? = some v := ⟨_, List.getElem?_eq_getElem (by rw [H9.out.1.len]; exact hlt)⟩
     have HV : Hid (vs[k]? = some v) := hv
     have HIX : Hid (∀ W', (Instr.index 56 (.agg vs.toArray) (.int .i64 (k : Int))).run Try.prog W' = .ok v W') := fun W' => run_idx53 W' vs H9.out.1.len k v hv
     have cD : ∀ W', Ext wr W' → Calls Try.prog 46 #[v, .func (.func 47) #[] #[.pointer (some ⟨A, 0, none⟩)]] W' fun e w' => ∃ v', e = .returned v' ∧ w'.ownsRow base 74 4 v' ((colS σ (k : Int)).filter (notAt (a1, a2))).length (((colS σ (k : Int)).filter (notAt (a1, a2))).flatMap cN) ∧ v'.ownBlock = v.ownBlock ∧ W'.grownBy w' v.ownBlock := fun W' e => by
       have hS := HS.out.drew e
       have hv' : vs'[k]? = some v := by rw [hS.s k (Nat.le_refl _)]; exact hv
       have hr := hS.co.row k v hv'
       rw [show fgF σ (a1, a2) k k = colS σ (k : Int) by unfold fgF; rw [if_neg (by omega)]] at hr
       have hbx : W'.heap[A]? = some (.cells #[.int .i64 a1, .int .i64 a2] 24) := (hS.e.block A (heap_lt H9.out.2.2.2.1) (.inl (by rw [H9.out.2.2.2.1]; rfl))).trans H9.out.2.2.2.1
       refine del_any W' base v (colS σ (k : Int)) a1 a2 A hr ?_ ((cell_of_row W' _ 0 _ _ _ hbx).trans rfl) ((cell_of_row W' _ 1 _ _ _ hbx).trans rfl) (fun e => ?_)
       · have h1 := col_len (nice σ) (m := 20) H.out.1.few (k : Int)
         have h2 := H.out.1.n
         have h3 := H.out.2.2.2.2
         omega
       · obtain ⟨_, cur, h3⟩ := own_heap hr e
         rw [hbx] at h3
         cases h3
     clear hv
     go_upto_region 6 with (refine wpList_idxT _ rfl _ _ 56 rfl _ _ _ rfl rfl (HIX.out _) ?_)
     refine wp_region_held_drew (S := (fun _ => True)) (by kernel_rfl) ?_ (fun hHeld0 => ?_)
     · first | done | trivial
     refine wpAnyH_take (i := 0) (oi := ⟨some 27, .move (.tmp 0), 25, "deps.go:91", #[], none⟩) (v := ?_) rfl (by kernel_rfl) (by kernel_rfl) (by kernel_rfl) (fun _ _ _ h => h) (Or.inl ⟨by rfl, ?_⟩) (by assumption) ?_
     rotate_left
     · intro w hSw; (try dsimp only at hSw); first | (go_simp; done) | (go_simp; with_reducible rfl)
     try go_frame
     refine wpAnyH_take (i := 1) (oi := ⟨some 28, .move (.tmp 4), 3, "deps.go:91", #[], none⟩) (v := ?_) rfl (by kernel_rfl) (by kernel_rfl) (by kernel_rfl) (fun _ _ _ h => h) (Or.inl ⟨by rfl, ?_⟩) (by assumption) ?_
     rotate_left
     · intro w hSw; (try dsimp only at hSw); first | (go_simp; done) | (go_simp; with_reducible rfl)
     try go_frame
     refine wpAnyH_take (i := 2) (oi := ⟨some 29, .move (.tmp 5), 55, "deps.go:91", #[], none⟩) (v := ?_) rfl (by kernel_rfl) (by kernel_rfl) (by kernel_rfl) (fun _ _ _ h => h) (Or.inl ⟨by rfl, ?_⟩) (by assumption) ?_
     rotate_left
     · intro w hSw; (try dsimp only at hSw); first | (go_simp; done) | (go_simp; with_reducible rfl)
     try go_frame
     refine wpAnyH_take (i := 3) (oi := ⟨some 30, .makeFunc (Fn.func 47) #[] #[.tmp 3], 83, "deps.go:91", #[], none⟩) (v := ?_) rfl (by kernel_rfl) (by kernel_rfl) (by kernel_rfl) (fun _ _ _ h => h) (Or.inl ⟨by rfl, ?_⟩) (by assumption) ?_
     rotate_left
     · intro w hSw; (try dsimp only at hSw); first | (go_simp; done) | (go_simp; with_reducible rfl)
     try go_frame
     refine wpAnyH_take (i := 5) (oi := ⟨some 32, .nilCheck (.tmp 27), 0, "deps.go:91", #[⟨0, .data⟩], none⟩) (v := ?_) rfl (by kernel_rfl) (by kernel_rfl) (by kernel_rfl) (fun _ _ _ h => h) (Or.inl ⟨by rfl, ?_⟩) (by assumption) ?_
     rotate_left
     · intro w hSw; (try dsimp only at hSw); first | (go_simp; done) | (go_simp; with_reducible rfl)
     try go_frame
     refine wpAnyH_take (i := 6) (oi := ⟨some 33, .fieldAddr 58 (.tmp 32) 1, 0, "deps.go:91", #[⟨5, .data⟩], none⟩) (v := ?_) rfl (by kernel_rfl) (by kernel_rfl) (by kernel_rfl) (fun _ _ _ h => h) (Or.inl ⟨by rfl, ?_⟩) (by assumption) ?_
     rotate_left
     · intro w hSw; (try dsimp only at hSw); first | (go_simp; done) | (go_simp; with_reducible rfl)
     try go_frame
     refine wpAnyH_ready (rs := [4]) (by kernel_rfl) (by simp) ?_
     refine AllReadyH.cons (o := ⟨some 31, .call { callee := .value (.func 46), args := #[.tmp 29, .tmp 30], argTypes := #[55, 83] }, 55, "deps.go:91", #[⟨2, .data⟩, ⟨3, .data⟩], none⟩) rfl (fun K hK => ?_) AllReadyH.nil
     go_simp
     refine (cD _ (by first | exact Ext.refl _ | exact (Ext.refl _).drew)).mono ?_; rintro e w2 ⟨v2, rfl, O2, N2, G2⟩; obtain ⟨p2, c2, rfl, _⟩ := own_form O2; have H2 : Hid _ := HS.out.step HV.out O2 N2 G2; obtain ⟨f1, f2⟩ := H2.out.1; clear O2 N2 G2
     try go_wp2_with fail
     refine hK.out _ _ ?_ (fun hHeld1 => ?_)
     · (try dsimp only); first | done | trivial
     clear hK K hHeld0
     try go_frame
     refine wpAnyH_take (i := 7) (oi := ⟨some 34, .indexAddr 56 (.tmp 33) (.tmp 28), 0, "deps.go:91", #[⟨6, .data⟩, ⟨1, .data⟩, ⟨0, .phase⟩, ⟨1, .phase⟩, ⟨2, .phase⟩, ⟨3, .phase⟩, ⟨4, .phase⟩], none⟩) (v := ?_) rfl (by kernel_rfl) (by kernel_rfl) (by kernel_rfl) (fun _ _ _ h => h) (Or.inl ⟨by rfl, ?_⟩) (by assumption) ?_
     rotate_left
     · intro w hSw; (try dsimp only at hSw); first | (go_simp; done) | (go_simp; with_reducible rfl)
     try go_frame
     refine wpAnyH_ready (rs := [8]) (by kernel_rfl) (by simp) ?_
     refine AllReadyH.cons (o := ⟨none, .store 55 (.tmp 34) (.tmp 31), 0, "deps.go:91", #[⟨7, .data⟩, ⟨4, .data⟩, ⟨4, .chain⟩, ⟨0, .phase⟩, ⟨1, .phase⟩, ⟨2, .phase⟩, ⟨3, .phase⟩, ⟨4, .phase⟩], none⟩) rfl (fun K hK => ?_) AllReadyH.nil
     go_simp
     skip
     try go_wp2_with fail
     refine hK.out _ _ ?_ (fun hHeld2 => ?_)
     · (try dsimp only); first | done | trivial
     clear hK K hHeld1
     try go_frame
     refine wpAnyH_done (by kernel_rfl) ?_ _
     go_wp2_with fail
     go_roundw
     case rel => exact ⟨k + 1, _, by simp, H2.out.2.drew (by first | exact Ext.refl _ | exact (Ext.refl _).drew)⟩
     case measure => simp [intOf]; omega
   · have hk : k = 53 := by omega
     subst hk
     have hltI : ¬ ((53 : Nat) : Int) < 53 := by omega
     have HQ : Hid (FgQ W base b n (some g) σ (a1, a2) (.returned (.tuple #[])) wr) := by
       refine ⟨rfl, ⟨vs', HS.out.co.congr (fun c hc => ?_), H9.out.2.1.keep HS.out.e, sg_del H.out.1.ok _, fun e he => H.out.1.few e (List.mem_filter.1 he).1, Nat.le_trans (del_len σ _) H.out.1.n⟩, H9.out.2.2.1.trans (HS.out.e.mono (fun _ h => dc_dk h))⟩
       unfold fgF
       rw [if_pos hc, col_del]
     go_wp2_with fail
     refine bodyPost_ret (v := .tuple #[]) (by simp [results, Try.results36, go_sem]) rfl ?_
     exact HQ.out
theorem forget_any (W : World) (base b n : Nat) (g : Option Nat) (vs : List Value) (σ : Sg) (a1 a2 : Int) (hb : base ≤ W.heap.size) (h : Dps W base b g n vs σ) (hn : n ≤ 1000) (hi : pin (a1, a2) = true) :
   Calls Try.prog 36 #[.pointer (some ⟨b, 0, none⟩), .agg #[.int .i64 a1, .int .i64 a2]] W (FgQ W base b n g σ (a1, a2)) := by
 by_cases ha : needS σ (a1, a2) = []
 · exact forget0 W base b n g vs σ a1 a2 h hi ha
 · cases g with
   | none => exact absurd (h.map _) ha
   | some g => exact forget1 W base b n g vs σ a1 a2 hb h hn hi ha

open Go.RowKit
set_option maxHeartbeats 1000000

/-- v holds the spans l. -/
def Rd (w : World) (v : Value) (l : List Sp) : Prop :=
 (v = .slice none 0 0 ∧ l = []) ∨ ∃ b off c, v = .slice (some ⟨b, off, none⟩) l.length c ∧ l.length ≤ c ∧ b < w.heap.size ∧
   ∀ i s, l[i]? = some s → w.cell? ⟨b, off + i * 2, none⟩ = some (.int .i64 s.1) ∧ w.cell? ⟨b, off + i * 2 + 1, none⟩ = some (.int .i64 s.2)
theorem Rd.ext {w w' : World} {v : Value} {l : List Sp} (h : Rd w v l) (e : Ext w w') : Rd w' v l := by
 rcases h with h | ⟨b, off, c, rfl, h1, h2, h3⟩
 · exact .inl h
 · exact .inr ⟨b, off, c, rfl, h1, Nat.lt_of_lt_of_le h2 e.size, fun i s hs => ⟨(e.cell.1 b _ h2).trans (h3 i s hs).1, (e.cell.1 b _ h2).trans (h3 i s hs).2⟩⟩
theorem Rd.nil (w : World) : Rd w (.slice none 0 0) [] := .inl ⟨rfl, rfl⟩
/-- The form of what is read. -/
theorem Rd.form {w : World} {v : Value} {l : List Sp} (h : Rd w v l) : ∃ p c, v = .slice p l.length c := by
 rcases h with ⟨rfl, rfl⟩ | ⟨b, off, c, rfl, _⟩
 · exact ⟨_, _, rfl⟩
 · exact ⟨_, _, rfl⟩
theorem Rd.at {w : World} {p : Option Addr} {c n : Nat} {l : List Sp} (h : Rd w (.slice p n c) l) {k : Nat} (hk : k < l.length) :
   ∃ b off s, p = some ⟨b, off, none⟩ ∧ l[k]? = some s ∧ n = l.length ∧ l.length ≤ c ∧ ∀ w', Ext w w' → w'.cell? ⟨b, off + k * 2, none⟩ = some (.int .i64 s.1) ∧ w'.cell? ⟨b, off + k * 2 + 1, none⟩ = some (.int .i64 s.2) := by
 rcases h with ⟨_, h2⟩ | ⟨b, off, c', h1, h2, h3, h4⟩
 · rw [h2] at hk; simp at hk
 · simp at h1
   obtain ⟨rfl, rfl, rfl⟩ := h1
   refine ⟨b, off, l[k], rfl, List.getElem?_eq_getElem hk, rfl, h2, fun w' e => ?_⟩
   have := h4 k l[k] (List.getElem?_eq_getElem hk)
   exact ⟨(e.cell.1 b _ h3).trans this.1, (e.cell.1 b _ h3).trans this.2⟩
/-- What is handed in: nothing may lie anywhere. -/
def Ra (w : World) (v : Value) (l : List Sp) : Prop := Rd w v l ∨ (l = [] ∧ ∃ p, v = .slice (some p) 0 0)
theorem Ra.ext {w w' : World} {v : Value} {l : List Sp} (h : Ra w v l) (e : Ext w w') : Ra w' v l := h.imp (fun h => h.ext e) id
theorem Ra.form {w : World} {v : Value} {l : List Sp} (h : Ra w v l) : ∃ p c, v = .slice p l.length c := by
 rcases h with h | ⟨rfl, p, rfl⟩
 · exact h.form
 · exact ⟨_, _, rfl⟩
theorem Ra.at {w : World} {p : Option Addr} {c n : Nat} {l : List Sp} (h : Ra w (.slice p n c) l) {k : Nat} (hk : k < l.length) :
   ∃ b off s, p = some ⟨b, off, none⟩ ∧ l[k]? = some s ∧ n = l.length ∧ l.length ≤ c ∧ ∀ w', Ext w w' → w'.cell? ⟨b, off + k * 2, none⟩ = some (.int .i64 s.1) ∧ w'.cell? ⟨b, off + k * 2 + 1, none⟩ = some (.int .i64 s.2) := by
 rcases h with h | ⟨rfl, _⟩
 · exact h.at hk
 · simp at hk
theorem take_snoc {l : List Sp} {k : Nat} {s : Sp} (h : l[k]? = some s) : l.take (k + 1) = l.take k ++ [s] := by
 rw [List.take_add_one, h]; rfl
theorem wrap_succ (k : Nat) (h : k ≤ 1000000) : wrap64 ((k : Int) + 1) = ((k + 1 : Nat) : Int) := by unfold wrap64; omega
theorem hasB_one (s : Sp) (n : Int) : hasB [s] n = spB s n := by simp [hasB]

open Go.RowKit
set_option maxHeartbeats 1000000

def flat : List Sp → List Value
 | [] => []
 | s :: r => .int .i64 s.1 :: .int .i64 s.2 :: flat r
theorem flat_append (a b : List Sp) : flat (a ++ b) = flat a ++ flat b := by
 induction a with
 | nil => rfl
 | cons s r ih => simp [flat, ih]
theorem flat_length (a : List Sp) : (flat a).length = a.length * 2 := by
 induction a with
 | nil => rfl
 | cons s r ih => simp [flat, ih]; omega
theorem flat_one (a : List Sp) : ∀ u ∈ flat a, u.oneCell' = true := by
 induction a with
 | nil => simp [flat]
 | cons s r ih => intro u hu; simp [flat] at hu; rcases hu with rfl | rfl | hu; rfl; rfl; exact ih u hu
theorem flat_at : ∀ (a : List Sp) (i : Nat) (s : Sp), a[i]? = some s → (flat a)[i * 2]? = some (.int .i64 s.1) ∧ (flat a)[i * 2 + 1]? = some (.int .i64 s.2)
 | [], _, _, h => by simp at h
 | t :: r, 0, s, h => by simp at h; subst h; simp [flat]
 | t :: r, i + 1, s, h => by
   have ih := flat_at r i s (by simpa using h)
   have e : (i + 1) * 2 = i * 2 + 1 + 1 := by omega
   have e' : (i + 1) * 2 + 1 = i * 2 + 1 + 1 + 1 := by omega
   rw [e', e]
   simpa [flat] using ih
theorem flat_get (a : List Sp) (j : Nat) (u : Value) (h : (flat a)[j]? = some u) : ∃ s, a[j / 2]? = some s ∧ u = .int .i64 (if j % 2 = 0 then s.1 else s.2) := by
 have hj : j < (flat a).length := (List.getElem?_eq_some_iff.mp h).1
 rw [flat_length] at hj
 have hk : j / 2 < a.length := by omega
 refine ⟨a[j / 2], List.getElem?_eq_getElem hk, ?_⟩
 obtain ⟨k1, k2⟩ := flat_at a (j / 2) a[j / 2] (List.getElem?_eq_getElem hk)
 by_cases hm : j % 2 = 0
 · rw [if_pos hm]
   have e : j / 2 * 2 = j := by omega
   rw [e, h] at k1; exact Option.some.inj k1
 · rw [if_neg hm]
   have e : j / 2 * 2 + 1 = j := by omega
   rw [e, h] at k2; exact Option.some.inj k2

theorem info_sp : ∃ i, Try.prog.info? 72 = some i ∧ i.zero = some (.agg #[.int .i64 0, .int .i64 0]) ∧ i.size = 2 ∧ i.bytes = 16 := by
 have h1 : (Try.prog.info? 72).isSome = true := by kernel_rfl
 have h2 : (Try.prog.info? 72).bind (fun i => i.zero) = some (.agg #[.int .i64 0, .int .i64 0]) := by kernel_rfl
 have h3 : (Try.prog.info? 72).map (fun i => (i.size, i.bytes)) = some (2, 16) := by kernel_rfl
 cases h : Try.prog.info? 72 with
 | none => rw [h] at h1; cases h1
 | some i =>
   rw [h] at h2 h3
   simp at h2 h3
   exact ⟨i, rfl, h2, h3.1, h3.2⟩

/-- v holds the spans l in a block of the call's own that holds rst behind them. -/
def Bk (w : World) (base : Nat) (v : Value) (l : List Sp) (rst : List Value) : Prop :=
 (v = .slice none 0 0 ∧ l = [] ∧ rst = []) ∨ ∃ g cap cur, v = .slice (some ⟨g, 0, none⟩) l.length cap ∧ base ≤ g ∧ w.heap[g]? = some (.cells cur 72 (0, 0)) ∧ cap ≤ maxLen ∧ cur.size = cap * 2 ∧ cur.toList = flat l ++ rst
/-- .. whatever lies behind them. -/
def Ow (w : World) (base : Nat) (v : Value) (l : List Sp) : Prop := ∃ rst, Bk w base v l rst
theorem blk_lt {w : World} {g : Nat} {o : Obj} (h : w.heap[g]? = some o) : g < w.heap.size := by
 rcases Nat.lt_or_ge g w.heap.size with k | k
 · exact k
 · rw [Array.getElem?_eq_none k] at h; cases h
theorem Bk.ext {w w' : World} {base : Nat} {v : Value} {l : List Sp} {rst : List Value} (h : Bk w base v l rst) (e : Ext w w') : Bk w' base v l rst := by
 rcases h with h | ⟨g, cap, cur, h1, h2, h3, h4⟩
 · exact .inl h
 · exact .inr ⟨g, cap, cur, h1, h2, (e.block g (blk_lt h3)).trans h3, h4⟩
theorem Bk.mono {w : World} {base base' : Nat} {v : Value} {l : List Sp} {rst : List Value} (h : Bk w base v l rst) (e : base' ≤ base) : Bk w base' v l rst := by
 rcases h with h | ⟨g, cap, cur, h1, h2, h3⟩
 · exact .inl h
 · exact .inr ⟨g, cap, cur, h1, Nat.le_trans e h2, h3⟩
theorem Bk.owns {w : World} {base : Nat} {v : Value} {l : List Sp} {rst : List Value} (h : Bk w base v l rst) : w.ownsRow base 72 2 v l.length (flat l) := by
 refine ⟨flat_length l, ?_⟩
 rcases h with ⟨rfl, rfl, rfl⟩ | ⟨g, cap, cur, rfl, h2, h3, h4, h5, h6⟩
 · exact .inl ⟨rfl, rfl⟩
 · have e := congrArg List.length h6
   simp [flat_length] at e
   refine .inr ⟨g, cap, cur, rfl, h2, h3, by omega, h4, h5, ?_⟩
   rw [h6, ← flat_length]; exact List.take_left
theorem Ow.of {w : World} {base n : Nat} {v : Value} {l : List Sp} {xs : List Value} (h : w.ownsRow base 72 2 v n xs) (hn : n = l.length) (hx : xs = flat l) : Ow w base v l := by
 subst hn hx
 rcases h.2 with ⟨h1, h2⟩ | ⟨g, cap, cur, h1, h2, h3, h4, h5, h6, h7⟩
 · exact ⟨[], .inl ⟨h1, List.eq_nil_of_length_eq_zero h2, rfl⟩⟩
 · refine ⟨cur.toList.drop (l.length * 2), .inr ⟨g, cap, cur, h1, h2, h3, h5, h6, ?_⟩⟩
   rw [← h7]; exact (List.take_append_drop _ _).symm
theorem Ow.ext {w w' : World} {base : Nat} {v : Value} {l : List Sp} (h : Ow w base v l) (e : Ext w w') : Ow w' base v l := by
 obtain ⟨rst, h⟩ := h; exact ⟨rst, h.ext e⟩
theorem Ow.mono {w : World} {base base' : Nat} {v : Value} {l : List Sp} (h : Ow w base v l) (e : base' ≤ base) : Ow w base' v l := by
 obtain ⟨rst, h⟩ := h; exact ⟨rst, h.mono e⟩
theorem Bk.rd {w : World} {base : Nat} {v : Value} {l : List Sp} {rst : List Value} (h : Bk w base v l rst) : Rd w v l := by
 rcases h with ⟨h1, h2, _⟩ | ⟨g, cap, cur, rfl, h2, h3, h4, h5, h6⟩
 · exact .inl ⟨h1, h2⟩
 · have e := congrArg List.length h6
   simp [flat_length] at e
   refine .inr ⟨g, 0, cap, rfl, by omega, blk_lt h3, fun i s hs => ?_⟩
   have hl : i < l.length := (List.getElem?_eq_some_iff.mp hs).1
   obtain ⟨k1, k2⟩ := flat_at l i s hs
   rw [cell_of_row w g _ cur _ (0, 0) h3, cell_of_row w g _ cur _ (0, 0) h3]
   have f1 : cur[0 + i * 2]? = cur.toList[i * 2]? := by rw [Nat.zero_add, Array.getElem?_toList]
   have f2 : cur[0 + i * 2 + 1]? = cur.toList[i * 2 + 1]? := by rw [Nat.zero_add, Array.getElem?_toList]
   rw [f1, f2, h6, List.getElem?_append_left (by rw [flat_length]; omega), List.getElem?_append_left (by rw [flat_length]; omega)]
   exact ⟨k1, k2⟩
theorem Ow.rd {w : World} {base : Nat} {v : Value} {l : List Sp} (h : Ow w base v l) : Rd w v l := by
 obtain ⟨rst, h⟩ := h; exact h.rd
theorem Rd.news {w : World} {b off n c : Nat} {l : List Sp} (h : Rd w (.slice (some ⟨b, off, none⟩) n c) l) : n = l.length ∧ ∀ j u, (flat l)[j]? = some u → w.cell? ((⟨b, off, none⟩ : Addr).add j) = some u := by
 rcases h with ⟨h1, _⟩ | ⟨b', off', c', h1, h2, h3, h4⟩
 · cases h1
 · simp at h1
   obtain ⟨⟨rfl, rfl⟩, rfl, rfl⟩ := h1
   refine ⟨rfl, fun j u hu => ?_⟩
   rw [Addr.add_lit]
   obtain ⟨s, hs, rfl⟩ := flat_get l j u hu
   obtain ⟨k1, k2⟩ := h4 _ s hs
   by_cases hm : j % 2 = 0
   · rw [if_pos hm]
     have e : off + j / 2 * 2 = off + j := by omega
     rw [← e]; exact k1
   · rw [if_neg hm]
     have e : off + j / 2 * 2 + 1 = off + j := by omega
     rw [← e]; exact k2
theorem ext_grown {w W W' : World} {base : Nat} {v : Value} {l : List Sp} {rst : List Value} (hB : Bk W base v l rst) (hb : w.heap.size ≤ base) (hE : Ext w W) (hg : W.grownBy W' v.ownBlock) : Ext w W' := by
 refine ⟨hg.os.trans hE.os, hg.tape.trans hE.tape, hg.output.trans hE.output, Nat.le_trans hE.size hg.size, fun k hk => ?_⟩
 refine (hg.block k (Nat.lt_of_lt_of_le hk hE.size) ?_).trans (hE.block k hk)
 intro e
 rcases hB with ⟨rfl, _⟩ | ⟨g, cap, cur, rfl, h2, _⟩
 · cases e
 · simp [Value.ownBlock] at e; omega

set_option maxRecDepth 100000 in
/-- append, at the operation: behind it the spans lie in the same block, if there was room. -/
theorem bk_append {ops : Array Oper} {rest : List Oper} {o : Oper} {a : Act} {Q : Exit → Act → World → Prop} (W w : World) (s x : Operand) (v : Value) (b off n c : Nat) (l m : List Sp) (rst : List Value) (hgd : o.guard = none)
   (ho : o.op = .call { callee := .builtin .append, args := #[s, x], argTypes := #[84, 84] })
   (hs : a.eval s = v) (hx : a.eval x = .slice (some ⟨b, off, none⟩) n c) (hB : Bk W w.heap.size v l rst) (hR : Rd W (.slice (some ⟨b, off, none⟩) n c) m) (hlen : l.length + m.length ≤ 100000) (hE : Ext w W)
   (h : ∀ v' rst' W', Bk W' w.heap.size v' (l ++ m) rst' → (0 < m.length → m.length * 2 ≤ rst.length → v'.ownBlock = v.ownBlock ∧ (∃ p n1 n2 cap, v = .slice p n1 cap ∧ v' = .slice p n2 cap) ∧ rst' = rst.drop (m.length * 2)) → Ext w W' → W.grownBy W' v.ownBlock → wpList Try.prog ops Q rest (a.put o.dst v') W') : wpList Try.prog ops Q (o :: rest) a W := by
 obtain ⟨i, hi, hz, h1, h2⟩ := info_sp
 obtain ⟨rfl, hnews⟩ := hR.news
 by_cases hroom : m.length * 2 ≤ rst.length ∧ 0 < m.length
 · rcases hB with ⟨rfl, rfl, rfl⟩ | ⟨g, cap, cur, rfl, k2, k3, k4, k5, k6⟩
   · simp at hroom; omega
   · have e := congrArg List.length k6
     simp [flat_length] at e
     have hr := run_append_room (P := Try.prog) W 84 o.type 72 i Try.underlying84 hi g l.length cap cur k3 ⟨b, off, none⟩ m.length c (flat m) (by rw [flat_length, h1]) hnews (flat_one m) (by omega) (by rw [flat_length, h1]; omega)
     rw [h1] at hr
     refine wpList_plain hgd fun K hK => ?_
     unfold Oper.wp execOp
     simp only [ho, resolve, invoke, builtin, Sem.run_bind, Sem.run_pure, Result.andThen_ok, List.map_toArray, List.map_cons, List.map_nil, hs, hx, hr]
     refine hK _ _ (h _ (rst.drop (m.length * 2)) _ ?_ (fun _ _ => ⟨rfl, ⟨_, _, _, _, rfl, rfl⟩, rfl⟩) ?_ ?_)
     · refine .inr ⟨g, cap, _, by rw [List.length_append], k2, setRow_heap W g cur _ _ _ k3, k4, ?_, ?_⟩
       · simp [flat_length]; omega
       · simp only []
         rw [k6, ← flat_length l, List.take_left, flat_append]
         congr 1
         rw [← List.drop_drop, List.drop_left, flat_length]
     · refine ext_grown (v := .slice (some ⟨g, 0, none⟩) l.length cap) (l := l) (rst := rst) (.inr ⟨g, cap, cur, rfl, k2, k3, k4, k5, k6⟩) (Nat.le_refl _) hE ?_
       exact ⟨rfl, rfl, rfl, by simp, fun k _ hk => setRow_other W g k _ (fun e => hk (by simp [Value.ownBlock, e]))⟩
     · exact ⟨rfl, rfl, rfl, by simp, fun k _ hk => setRow_other W g k _ (fun e => hk (by simp [Value.ownBlock, e]))⟩
 · refine wpList_append_own_at W hgd s x 84 ho w.heap.size 72 i _ 2 16 Try.underlying84 hi hz h1 h2 rfl (by decide) v l.length (flat l) hs hB.owns ⟨b, off, none⟩ m.length c (flat m) hx (flat_length m) hnews (flat_one m) (by unfold maxLen; omega) (by omega) hE.size ?_
   intro v' W' h3 h4 _ _
   obtain ⟨rst', h6⟩ := Ow.of h3 (List.length_append).symm (flat_append l m).symm
   exact h v' rst' W' h6 (fun h7 h8 => absurd ⟨h8, h7⟩ hroom) (ext_grown hB (Nat.le_refl _) hE h4) h4

open Go.RowKit
set_option maxHeartbeats 1000000

theorem Bk.grow {w : World} {base : Nat} {g cap : Nat} {q : List Sp} {t : Sp} {rst : List Value} (h : Bk w base (.slice (some ⟨g, 0, none⟩) (q.length + 1) cap) (q ++ [t]) rst) (x : Int) :
   Bk (w.setCell ⟨g, q.length * 2 + 1, none⟩ (.int .i64 x)) base (.slice (some ⟨g, 0, none⟩) (q.length + 1) cap) (q ++ [(t.1, x)]) rst ∧ w.grownBy (w.setCell ⟨g, q.length * 2 + 1, none⟩ (.int .i64 x)) (some g) := by
 rcases h with ⟨h', _⟩ | ⟨g', cap', cur, h', hb, hg, hcm, hcs, hl⟩
 · simp at h'
 · simp at h'
   obtain ⟨rfl, rfl⟩ := h'
   refine ⟨.inr ⟨g, cap, cur.setIfInBounds (q.length * 2 + 1) (.int .i64 x), by simp, hb, heap_setCell_same w g _ cur _ _ hg, hcm, by simpa using hcs, ?_⟩,
     ⟨rfl, rfl, rfl, by simp, fun k _ hk => heap_setCell_other w ⟨g, _, none⟩ k _ (fun e => hk (by simp [e]))⟩⟩
   rw [Array.toList_setIfInBounds, hl, flat_append, flat_append, List.append_assoc, List.append_assoc, List.set_append]
   rw [if_neg (by rw [flat_length]; omega), flat_length]
   have e : q.length * 2 + 1 - q.length * 2 = 1 := by omega
   rw [e]
   rfl
theorem Bk.top {w : World} {base : Nat} {p : Option Addr} {c n : Nat} {q : List Sp} {t : Sp} {rst : List Value} (h : Bk w base (.slice p n c) (q ++ [t]) rst) :
   ∃ g, p = some ⟨g, 0, none⟩ ∧ n = q.length + 1 ∧ base ≤ g ∧ g < w.heap.size ∧ w.cell? ⟨g, q.length * 2 + 1, none⟩ = some (.int .i64 t.2) ∧ w.frozen? ⟨g, q.length * 2 + 1, none⟩ = false := by
 have hr := h.rd
 rcases h with ⟨h', h2, _⟩ | ⟨g', cap', cur, h', hb, hg, hcm, hcs, hl⟩
 · simp at h2
 · simp at h'
   obtain ⟨rfl, rfl, rfl⟩ := h'
   rcases hr with ⟨h', _⟩ | ⟨b, off, c', h', _, _, hc⟩
   · cases h'
   · simp at h'
     obtain ⟨⟨rfl, rfl⟩, rfl⟩ := h'
     have := (hc q.length t (by simp)).2
     rw [Nat.zero_add] at this
     exact ⟨g', rfl, rfl, hb, blk_lt hg, this, frozen_of_row w g' _ cur _ hg⟩
theorem rd_one (W : World) (s1 s2 : Int) : Rd (W.alloc (.cells #[.int .i64 s1, .int .i64 s2] 72)) (.slice (some ⟨W.heap.size, 0, none⟩) 1 1) [(s1, s2)] := by
 refine .inr ⟨W.heap.size, 0, 1, rfl, Nat.le_refl _, by simp, fun i s hs => ?_⟩
 cases i with
 | zero => simp at hs; subst hs; constructor <;> simp [go_sem]
 | succ i => simp at hs

theorem far_of {w W W' : World} {nq : Nat} {ob : Obj} {v : Value} (hW : Ext w W) (hg : ((W.drewN nq).alloc ob).grownBy W' v.ownBlock) : ∀ b o, b < w.heap.size → v.ownBlock ≠ some b → W'.cell? ⟨b, o, none⟩ = w.cell? ⟨b, o, none⟩ := by
 intro b o hb hne
 have e1 : Ext w ((W.drewN nq).alloc ob) := (hW.drewN nq).alloc ob
 exact (hg.cell_far ⟨b, o, none⟩ (Nat.lt_of_lt_of_le hb e1.size) (fun e => hne e.symm)).trans (e1.cell.1 b o hb)
/-- What laid leaves: the list, owned; in the same block, if there was room. -/
def LaidQ (w0 w : World) (v : Value) (l : List Sp) (rst : List Value) (s : Sp) (e : Ending) (w' : World) : Prop :=
 ∃ v' rst', e = .returned v' ∧ Bk w' w0.heap.size v' (lay l s) rst' ∧ Ext w0 w' ∧
   (2 ≤ rst.length → (∃ p n1 n2 cap, v = .slice p n1 cap ∧ v' = .slice p n2 cap) ∧ rst' = rst.drop (((lay l s).length - l.length) * 2)) ∧ ∀ b o, b < w.heap.size → v.ownBlock ≠ some b → w'.cell? ⟨b, o, none⟩ = w.cell? ⟨b, o, none⟩
set_option maxRecDepth 100000 in
theorem laid_any (w0 w : World) (v : Value) (l : List Sp) (rst : List Value) (s1 s2 : Int) (hB : Bk w w0.heap.size v l rst) (hE : Ext w0 w) (hl : l.length ≤ 10000) :
   Calls Try.prog 71 #[v, .agg #[.int .i64 s1, .int .i64 s2]] w (LaidQ w0 w v l rst (s1, s2)) := by
 obtain ⟨p, c, rfl⟩ := hB.rd.form
 have HB : Hid (Bk w w0.heap.size (.slice p l.length c) l rst) := hB
 have HE : Hid (Ext w0 w) := hE
 have HL : Hid (l.length ≤ 10000) := hl
 clear hB hE hl
 go_enter Try.func71, Try.ntmps71
 by_cases h0 : s2 ≤ s1
 · go_wp2
   go_ret
   unfold LaidQ
   refine ⟨_, rst, rfl, ?_, HE.out.alloc _, fun _ => ⟨⟨_, _, _, _, rfl, rfl⟩, ?_⟩, fun b o hb _ => ((Ext.refl w).alloc _).cell.1 b o hb⟩
   · rw [lay_empty h0]; exact HB.out.ext ((Ext.refl _).alloc _)
   · rw [lay_empty h0]; simp
 · have H0 : Hid (s1 < s2) := by show s1 < s2; omega
   rcases snoc_cases l with rfl | ⟨q, t, rfl⟩
   · have e1 : wrap64 (0 - 1) = -1 := by unfold wrap64; omega
     go_upto_region 4 with fail
     have b0 : (w.alloc (.cells #[.int .i64 s1, .int .i64 s2] 72)).cell? ⟨w.heap.size, 0, none⟩ = some (.int .i64 s1) := by simp [go_sem]
     have b1 : (w.alloc (.cells #[.int .i64 s1, .int .i64 s2] 72)).cell? ⟨w.heap.size, 1, none⟩ = some (.int .i64 s2) := by simp [go_sem]
     have HW : Hid (Ext w (w.alloc (.cells #[.int .i64 s1, .int .i64 s2] 72))) := (Ext.refl _).alloc _
     generalize w.alloc (.cells #[.int .i64 s1, .int .i64 s2] 72) = W at *
     go_quiet (fail)
     go_wp2_with (at_builtin; refine bk_append _ w0 _ _ _ _ _ _ _ [] [(s1, s2)] rst rfl rfl (by rfl) (by rfl) (HB.out.ext ((HW.out.drewN _).alloc _)) (rd_one _ _ _) (by simp) ((HE.out.trans (HW.out.drewN _)).alloc _) ?_; intro v' rst' W' k1 k2 k3 k4)
     go_wp2
     go_ret
     unfold LaidQ
     rw [lay_first (s := (s1, s2)) (by have := H0.out; show ¬ s2 ≤ s1; omega)]
     exact ⟨v', rst', rfl, k1, k3, fun k => ⟨(k2 (by simp) (by simpa using k)).2.1, (k2 (by simp) (by simpa using k)).2.2⟩, far_of HW.out k4⟩
   · have e0 : (q ++ [t]).length = q.length + 1 := by simp
     rw [e0] at HB ⊢
     obtain ⟨g, rfl, _, hb, hg, hc, hf⟩ := HB.out.top
     have HM : Hid (q.length + 1 ≤ 10000) := by have := HL.out; rw [e0] at this; exact this
     clear HL e0
     generalize hk : q.length = k at *
     have HK : Hid (q.length = k) := hk
     clear hk
     have e1 : wrap64 (((k + 1 : Nat) : Int) - 1) = (k : Int) := by have := HM.out; unfold wrap64; omega
     have e2 : wrap64 ((k : Int) + 1 - 1) = (k : Int) := by have := HM.out; unfold wrap64; omega
     have e5 : wrap64 (k : Int) = (k : Int) := by have := HM.out; unfold wrap64; omega
     have e3 : (0 : Int) ≤ (k : Int) := by omega
     have e4 : (k : Int) < (k : Int) + 1 := by omega
     go_upto_region 4 with fail
     have b0 : (w.alloc (.cells #[.int .i64 s1, .int .i64 s2] 72)).cell? ⟨w.heap.size, 0, none⟩ = some (.int .i64 s1) := by simp [go_sem]
     have b1 : (w.alloc (.cells #[.int .i64 s1, .int .i64 s2] 72)).cell? ⟨w.heap.size, 1, none⟩ = some (.int .i64 s2) := by simp [go_sem]
     have HW : Hid (Ext w (w.alloc (.cells #[.int .i64 s1, .int .i64 s2] 72))) := (Ext.refl _).alloc _
     have c0 := (HW.out.cell.1 g _ hg).trans hc
     have f0 := (HW.out.cell.2 g _ hg).trans hf
     generalize w.alloc (.cells #[.int .i64 s1, .int .i64 s2] 72) = W at *
     clear hc hf
     by_cases h2 : s1 ≤ t.2
     · have H2 : Hid (s1 ≤ t.2) := h2
       have h2b : decide (s1 ≤ t.2) = true := by simp [h2]
       go_quiet (fail)
       go_upto_region 5 with fail
       have HW2 : Hid (Ext w (W.drewN nq)) := HW.out.drewN _
       replace c0 : (W.drewN nq).cell? ⟨g, k * 2 + 1, none⟩ = some (.int .i64 t.2) := c0
       replace f0 : (W.drewN nq).frozen? ⟨g, k * 2 + 1, none⟩ = false := f0
       replace b0 : (W.drewN nq).cell? ⟨w.heap.size, 0, none⟩ = some (.int .i64 s1) := b0
       replace b1 : (W.drewN nq).cell? ⟨w.heap.size, 1, none⟩ = some (.int .i64 s2) := b1
       generalize W.drewN nq = W2 at *
       go_region_with fail
       all_goals
         go_wp2
         go_ret
         unfold LaidQ
         rw [lay_grow (s := (s1, s2)) (by have := H0.out; show ¬ s2 ≤ s1; omega) H2.out]
         have k0 := HK.out
         have k1 := HB.out.ext HW2.out
         subst k0
         have k2 := k1.grow (max t.2 s2)
         refine ⟨_, rst, rfl, k2.1.ext (Ext.refl _).drew, (ext_grown k1 (Nat.le_refl _) (HE.out.trans HW2.out) k2.2).drew, fun _ => ⟨⟨_, _, _, _, rfl, rfl⟩, ?_⟩, fun b o hb hne => (k2.2.cell_far ⟨b, o, none⟩ (Nat.lt_of_lt_of_le hb HW2.out.size) (fun e => hne e.symm)).trans (HW2.out.cell.1 b o hb)⟩
         simp
     · have H2 : Hid (t.2 < s1) := by show t.2 < s1; omega
       have h2b : decide (s1 ≤ t.2) = false := by simp [h2]
       go_quiet (fail)
       go_wp2_with (at_builtin; refine bk_append _ w0 _ _ _ _ _ _ _ (q ++ [t]) [(s1, s2)] rst rfl rfl (by rfl) (by rfl) (HB.out.ext ((HW.out.drewN _).alloc _)) (rd_one _ _ _) (by have := HM.out; have := HK.out; simp; omega) ((HE.out.trans (HW.out.drewN _)).alloc _) ?_; intro v' rst' W' k1 k2 k3 k4)
       go_wp2
       go_ret
       unfold LaidQ
       rw [lay_more (s := (s1, s2)) (by have := H0.out; show ¬ s2 ≤ s1; omega) (by have := H2.out; show ¬ s1 ≤ t.2; omega)]
       refine ⟨v', rst', rfl, k1, k3, fun k => ⟨(k2 (by simp) (by simpa using k)).2.1, ?_⟩, far_of HW.out k4⟩
       rw [(k2 (by simp) (by simpa using k)).2.2]
       simp
end Go.Proofs.Ytjpiphnbadggoaa

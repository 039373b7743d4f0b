/-
 The document's Small: a tree with not too many parts, and not too deep.
 The document's Own: a tree in memory of its own.
 The document's Well, of any tree not too deep.
-/
import Derived.Test.YtffgidihaggpbaaGreatDoorQ12
import Derived.Test.YtffgidihaggpbaaGreatDoorQ21
import Derived.Test.YtffgidihaggpbaaGreatDoorQ17
namespace Go.Proofs.YtffgidihaggpbaaGreatDoor
open Go.RowKit
set_option maxHeartbeats 6000000

def SmQ (n : Nat) (t : T) (most : Int) (W : World) (e : Ending) (w' : World) : Prop :=
 ∃ (m : Int) (ok : Bool), e = .returned (.tuple #[.int .i64 m, .bool ok]) ∧ Ext W w' ∧ 1 ≤ m ∧ m ≤ 2000 + n ∧ m ≤ max most 1 + n ∧ (ok = true → m = szT n t ∧ Hr n t ∧ m ≤ max most 1)
def Sml (n : Nat) (t : T) : Prop := ∀ (W : World) (P : Nat → Prop) (pp : Option Addr) (ln cl : Nat) (most : Int), (n : Int) - 402 ≤ most → most ≤ 2000 → IsL W P (.slice pp ln cl) t.l →
 Calls Tryz.prog 14 #[.agg #[.int .i64 t.k, .int .i64 t.n, .string (bs t.s), .int .i64 t.e, .int .i64 t.r.1, .int .i64 t.r.2.1, .bool t.r.2.2.1, .bool t.r.2.2.2, .int .i64 t.q.1, .int .i64 t.q.2.1, .bool t.q.2.2.1, .bool t.q.2.2.2, .slice pp ln cl], .int .i64 most, .int .i64 (401 - (n : Int))] W (SmQ n t most W)
theorem sum_take {l : List T} {n j : Nat} {x : T} (h : l[j]? = some x) : ((l.take (j + 1)).map (szT n)).sum = ((l.take j).map (szT n)).sum + szT n x := by
 rw [List.take_add_one, h]; simp
set_option maxRecDepth 100000 in
theorem small_deep (t : T) : Sml 0 t := by
 intro W P pp ln cl most _ _ _
 have hd : (401 : Int) - ((0 : Nat) : Int) = 401 := rfl
 rw [hd]
 clear hd
 go_enter Tryz.func14, Tryz.ntmps14
 go_wp2_with fail
 go_ret2
 exact ⟨1, false, rfl, (Ext.refl _).alloc _, by omega, by omega, by omega, fun h => by cases h⟩
set_option maxRecDepth 100000 in
theorem small_step (n : Nat) (hn : n ≤ 400) (ih : ∀ x, Sml n x) (t : T) : Sml (n + 1) t := by
 intro W P pp ln cl most hm1 hm2 hL
 have hln : ln = t.l.length := by
   obtain ⟨p, c, h1, _⟩ := hL.form
   cases h1; rfl
 obtain ⟨d, hd⟩ : ∃ d : Int, 401 - ((n + 1 : Nat) : Int) = d := ⟨_, rfl⟩
 have HD : Hid (401 - (n : Int) = d + 1) := by show _ = _; omega
 have hd0 : 0 ≤ d := by omega
 have hd1 : d ≤ 400 := by omega
 rw [hd]
 have HI : Hid (IsL W P (.slice pp ln cl) t.l) := hL
 have HLN : Hid (ln = t.l.length) := hln
 have HN : Hid (n ≤ 400 ∧ ((n + 1 : Nat) : Int) - 402 ≤ most ∧ most ≤ 2000) := ⟨hn, hm1, hm2⟩
 have HIH : Hid (∀ x, Sml n x) := ih
 have hmA : -1000 ≤ most := by omega
 clear hL hln hd ih hn hm1
 go_enter Tryz.func14, Tryz.ntmps14
 go_wp2_with fail
 go_loopw [8, 9] (fun nv iv wr => ∃ (j : Nat) (a : Int), j ≤ ln ∧ nv = .int .i64 a ∧ iv = .int .i64 (j : Int) ∧ (j : Int) + 1 ≤ a ∧ a ≤ max most 1 ∧ a = 1 + (((t.l.take j).map (szT n)).sum : Nat) ∧ (∀ x ∈ t.l.take j, Hr n x) ∧ BlkX wr W.heap.size t (.slice pp ln cl) ∧ Ext W wr) (fun _ iv _ => ln - (intOf iv).toNat)
 case atStart => exact ⟨0, 1, Nat.zero_le _, rfl, rfl, by omega, by omega, by simp, fun x hx => by simp at hx, blk13_top rfl (Ext.refl _), (Ext.refl _).alloc _⟩
 case round =>
   obtain ⟨j, a, hj, rfl, rfl, ha1, ha2, ha3, hg, hB, hE⟩ := hrel
   have HE : Hid (Ext W wr ∧ (∀ x ∈ t.l.take j, Hr n x) ∧ a = 1 + (((t.l.take j).map (szT n)).sum : Nat)) := ⟨hE, hg, ha3⟩
   have HBX : Hid (BlkX wr W.heap.size t (.slice pp ln cl)) := hB
   have HA2 : Hid (a ≤ max most 1) := ha2
   have ha4 : a ≤ 2000 := by omega
   obtain ⟨qz, ⟨k0, k1, k2, k3, k4, k5, k6, k7, k8, k9, k10, k11, k12⟩, gz⟩ := hB
   clear hE hg ha3 ha2 gz
   by_cases hlt : j < ln
   · have hltI : (j : Int) < (ln : Int) := by omega
     have hI := HI.out.ext HE.out.1
     obtain ⟨gb, off, x, lv, hpp, hx1, hA1, hgb, hA2, hLx, hce⟩ := hI.at (i := j) (by rw [← HLN.out]; exact hlt)
     clear hA1 hA2
     subst hpp
     obtain ⟨pp, cl', hlv, hcl⟩ := hLx.form
     obtain ⟨ln', hln'⟩ : ∃ ln', x.l.length = ln' := ⟨_, rfl⟩
     rw [hln'] at hlv
     subst hlv
     have HX1 : Hid (t.l[j]? = some x) := hx1
     have HC : Hid (Calls Tryz.prog 14 #[.agg #[.int .i64 x.k, .int .i64 x.n, .string (bs x.s), .int .i64 x.e, .int .i64 x.r.1, .int .i64 x.r.2.1, .bool x.r.2.2.1, .bool x.r.2.2.2, .int .i64 x.q.1, .int .i64 x.q.2.1, .bool x.q.2.2.1, .bool x.q.2.2.2, .slice pp ln' cl'], .int .i64 (most - a), .int .i64 (d + 1)] wr (SmQ n x (most - a) wr)) := by
       have := HIH.out x wr P pp ln' cl' (most - a) (by have := HN.out; have := HA2.out; omega) (by omega) hLx
       rw [HD.out] at this
       exact this
     have e0 : wr.cell? ⟨gb, off + j * 13, none⟩ = some (.int .i64 x.k) := hce 0 _ rfl
     have e1 : wr.cell? ⟨gb, off + j * 13 + 1, none⟩ = some (.int .i64 x.n) := hce 1 _ rfl
     have e2 : wr.cell? ⟨gb, off + j * 13 + 2, none⟩ = some (.string (bs x.s)) := hce 2 _ rfl
     have e3 : wr.cell? ⟨gb, off + j * 13 + 3, none⟩ = some (.int .i64 x.e) := hce 3 _ rfl
     have e4 : wr.cell? ⟨gb, off + j * 13 + 4, none⟩ = some (.int .i64 x.r.1) := hce 4 _ rfl
     have e5 : wr.cell? ⟨gb, off + j * 13 + 5, none⟩ = some (.int .i64 x.r.2.1) := hce 5 _ rfl
     have e6 : wr.cell? ⟨gb, off + j * 13 + 6, none⟩ = some (.bool x.r.2.2.1) := hce 6 _ rfl
     have e7 : wr.cell? ⟨gb, off + j * 13 + 7, none⟩ = some (.bool x.r.2.2.2) := hce 7 _ rfl
     have e8 : wr.cell? ⟨gb, off + j * 13 + 8, none⟩ = some (.int .i64 x.q.1) := hce 8 _ rfl
     have e9 : wr.cell? ⟨gb, off + j * 13 + 9, none⟩ = some (.int .i64 x.q.2.1) := hce 9 _ rfl
     have e10 : wr.cell? ⟨gb, off + j * 13 + 10, none⟩ = some (.bool x.q.2.2.1) := hce 10 _ rfl
     have e11 : wr.cell? ⟨gb, off + j * 13 + 11, none⟩ = some (.bool x.q.2.2.2) := hce 11 _ rfl
     have e12 : wr.cell? ⟨gb, off + j * 13 + 12, none⟩ = some (.slice pp ln' cl') := hce 12 _ rfl
     clear hI hx1 hLx hce hcl hln'
     go_wp2_with fail
     refine HC.out.mono ?_
     rintro e w1 ⟨m, ok, rfl, E1, hm1, hm2', hm3, hok⟩
     have HR : Hid (Ext W w1 ∧ m ≤ max (most - a) 1 + n ∧ (ok = true → m = szT n x ∧ Hr n x ∧ m ≤ max (most - a) 1)) := ⟨HE.out.1.trans E1, hm3, hok⟩
     have HBX1 : Hid (BlkX w1 W.heap.size t (.slice (some ⟨gb, off, none⟩) ln cl)) := HBX.out.ext E1
     have hmm : m ≤ 3000 := by have := HN.out; omega
     clear hm3 hok hm2' E1 k0 k1 k2 k3 k4 k5 k6 k7 k8 k9 k10 k11 k12 e0 e1 e2 e3 e4 e5 e6 e7 e8 e9 e10 e11 e12
     cases ok
     · go_wp2_with fail
       go_ret2
       have q1 := HR.out.2.1
       have q2 := HA2.out
       have q3 := HN.out
       exact ⟨a + m, false, rfl, HR.out.1, by omega, by omega, by omega, fun h => by cases h⟩
     · by_cases hgt : most < a + m
       · go_wp2_with fail
         go_ret2
         have q1 := HR.out.2.1
         have q2 := HA2.out
         have q3 := HN.out
         exact ⟨a + m, false, rfl, HR.out.1, by omega, by omega, by omega, fun h => by cases h⟩
       · go_wp2_with fail
         go_roundw
         case rel =>
           obtain ⟨y1, y2, y3⟩ := HR.out.2.2 trivial
           refine ⟨j + 1, a + m, by omega, rfl, by go_num, by omega, by omega, ?_, ?_, HBX1.out, HR.out.1⟩
           · rw [sum_take HX1.out, y1, HE.out.2.2]; omega
           · intro z hz
             rw [List.take_add_one, HX1.out] at hz
             rcases List.mem_append.1 hz with hz | hz
             · exact HE.out.2.1 z hz
             · simp at hz; subst hz; exact y2
         case measure => show ln - ((j : Int) + 1).toNat < ln - ((j : Int)).toNat; omega
   · have hltI : ¬ (j : Int) < (ln : Int) := by omega
     have hjl : j = ln := by omega
     have HT : Hid (t.l.take j = t.l) := by show _ = _; rw [hjl, HLN.out]; exact List.take_length
     clear hlt hjl
     go_wp2_with fail
     go_ret2
     have q1 := HE.out.2.2
     have q2 := HE.out.2.1
     rw [HT.out] at q1 q2
     have q3 := HA2.out
     refine ⟨a, true, rfl, HE.out.1, by omega, by omega, by omega, fun _ => ⟨?_, ⟨?_, q2⟩, q3⟩⟩
     · rw [q1, szT]; omega
     · have h1 : ∀ l : List T, l.length ≤ (l.map (szT n)).sum := by
         intro l
         induction l with
         | nil => simp
         | cons y r ih => simp only [List.map_cons, List.sum_cons, List.length_cons]; have := szT_pos n y; omega
       have := h1 t.l
       omega
theorem small_any (n : Nat) (hn : n ≤ 401) (t : T) : Sml n t := by
 induction n generalizing t with
 | zero => exact small_deep t
 | succ n ih => exact small_step n (by omega) (fun x => ih (by omega) x) t

open Go.RowKit
set_option maxHeartbeats 6000000

def OwnQ (w : World) (t : T) (e : Ending) (w' : World) : Prop := ∃ lv, e = .returned (aggX t lv) ∧ IsL w' (w.heap.size ≤ ·) lv t.l ∧ Ext w w'
def OwnC (t : T) : Prop := ∀ (W : World) (P : Nat → Prop) (pp : Option Addr) (ln cl : Nat), IsL W P (.slice pp ln cl) t.l → Calls Tryz.prog 10 #[.agg #[.int .i64 t.k, .int .i64 t.n, .string (bs t.s), .int .i64 t.e, .int .i64 t.r.1, .int .i64 t.r.2.1, .bool t.r.2.2.1, .bool t.r.2.2.2, .int .i64 t.q.1, .int .i64 t.q.2.1, .bool t.q.2.2.1, .bool t.q.2.2.2, .slice pp ln cl]] W (OwnQ W t)
theorem endO {fn : Func} {a : Act} {w W : World} {g : Nat} {t : T} {lv : Value} {P : Nat → Prop} (B : BlkX W g t lv) (hd : a.defers = []) (hL : IsL W P lv t.l) (hP : ∀ k, P k → w.heap.size ≤ k) (hE : Ext w W)
   (hr : W.cell? ⟨g, 0, none⟩ = some (.int .i64 t.k) → W.cell? ⟨g, 1, none⟩ = some (.int .i64 t.n) → W.cell? ⟨g, 2, none⟩ = some (.string (bs t.s)) → W.cell? ⟨g, 3, none⟩ = some (.int .i64 t.e) → W.cell? ⟨g, 4, none⟩ = some (.int .i64 t.r.1) → W.cell? ⟨g, 5, none⟩ = some (.int .i64 t.r.2.1) → W.cell? ⟨g, 6, none⟩ = some (.bool t.r.2.2.1) → W.cell? ⟨g, 7, none⟩ = some (.bool t.r.2.2.2) → W.cell? ⟨g, 8, none⟩ = some (.int .i64 t.q.1) → W.cell? ⟨g, 9, none⟩ = some (.int .i64 t.q.2.1) → W.cell? ⟨g, 10, none⟩ = some (.bool t.q.2.2.1) → W.cell? ⟨g, 11, none⟩ = some (.bool t.q.2.2.2) → W.cell? ⟨g, 12, none⟩ = some lv → (results fn a.tmps).run Tryz.prog W = .ok (aggX t lv) W) :
   bodyPost Tryz.prog fn (OwnQ w t) .ret a W := by
 obtain ⟨z, ⟨k0, k1, k2, k3, k4, k5, k6, k7, k8, k9, k10, k11, k12⟩, f⟩ := B
 exact bodyPost_ret (hr k0 k1 k2 k3 k4 k5 k6 k7 k8 k9 k10 k11 k12) hd ⟨lv, rfl, hL.mono (fun k hk _ => hP k hk), hE⟩
/-- An empty list in a new block. -/
theorem OwX.zero {W W' : World} {base g : Nat} (hW : W' = W.alloc (.cells #[] 26)) (hg : g = W.heap.size) (hb : base ≤ g) : OwX W' base (.slice (some ⟨g, 0, none⟩) 0 0) [] := by
 subst hW hg
 refine ⟨⟨rfl, .inr ⟨W.heap.size, 0, #[], rfl, hb, ?_, Nat.le_refl _, Nat.zero_le _, rfl, rfl⟩⟩, fun p hp => by cases hp⟩
 show (W.heap.push _)[W.heap.size]? = _; simp
theorem OwX.ext {w w' : World} {base : Nat} {v : Value} {ps : List (T × Value)} (h : OwX w base v ps) (e : Ext w w') : OwX w' base v ps := by
 refine ⟨⟨h.1.1, ?_⟩, fun p hp => (h.2 p hp).ext e⟩
 rcases h.1.2 with h2 | ⟨g, cap, cur, h1, h2, h3, h4⟩
 · exact .inl h2
 · exact .inr ⟨g, cap, cur, h1, h2, (e.block g (heap_lt h3)).trans h3, h4⟩
theorem ext_grown {w W W' : World} {base : Nat} {v : Value} {ps : List (T × Value)} (h : W.grownBy W' v.ownBlock) (hB : OwX W base v ps) (hE : Ext w W) (hb : w.heap.size ≤ base) : Ext w W' :=
 ⟨h.os.trans hE.os, h.tape.trans hE.tape, h.output.trans hE.output, Nat.le_trans hE.size h.size, fun k hk =>
   (h.block k (Nat.lt_of_lt_of_le hk hE.size) (fun e => hB.far (Nat.lt_of_lt_of_le hk hb) e.symm)).trans (hE.block k hk)⟩
theorem BlkX.grown {W W' : World} {base g : Nat} {v lv : Value} {t : T} {ps : List (T × Value)} (B : BlkX W g t lv) (h : W.grownBy W' v.ownBlock) (hB : OwX W base v ps) (hg : g < base) : BlkX W' g t lv := by
 have hz := B.1
 have hb := h.block g hz (fun e => hB.far hg e.symm)
 obtain ⟨z, ⟨k0, k1, k2, k3, k4, k5, k6, k7, k8, k9, k10, k11, k12⟩, f0, f1, f2, f3, f4, f5, f6, f7, f8, f9, f10, f11, f12⟩ := B
 have k := fun o => World.cell?_of_block (a := ⟨g, o, none⟩) hb
 have f := fun o => World.frozen?_of_block (a := ⟨g, o, none⟩) hb
 exact ⟨Nat.lt_of_lt_of_le z h.size, ⟨(k 0).trans k0, (k 1).trans k1, (k 2).trans k2, (k 3).trans k3, (k 4).trans k4, (k 5).trans k5, (k 6).trans k6, (k 7).trans k7, (k 8).trans k8, (k 9).trans k9, (k 10).trans k10, (k 11).trans k11, (k 12).trans k12⟩, (f 0).trans f0, (f 1).trans f1, (f 2).trans f2, (f 3).trans f3, (f 4).trans f4, (f 5).trans f5, (f 6).trans f6, (f 7).trans f7, (f 8).trans f8, (f 9).trans f9, (f 10).trans f10, (f 11).trans f11, (f 12).trans f12⟩
set_option maxRecDepth 100000 in
theorem own_step (t : T) (hl : t.l.length ≤ 100000) (ih : ∀ x ∈ t.l, OwnC x) : OwnC t := by
 intro W P pp ln cl hL
 have hln : ln = t.l.length := by
   obtain ⟨p, c, h1, _⟩ := hL.form
   cases h1; rfl
 have HI : Hid (IsL W P (.slice pp ln cl) t.l) := hL
 have HLN : Hid (ln = t.l.length) := hln
 have HIH : Hid (∀ x ∈ t.l, OwnC x) := ih
 have hl2 : ln ≤ 100000 := by omega
 clear hL hln ih hl
 go_enter Tryz.func10, Tryz.ntmps10
 go_wp2_with fail
 go_loopw [3, 4] (fun xv iv wr => ∃ (j g cap : Nat) (ps : List (T × Value)), j ≤ ln ∧ xv = .slice (some ⟨g, 0, none⟩) j cap ∧ iv = .int .i64 (j : Int) ∧ ps.length = j ∧ OwX wr (W.heap.size + 1 + 1) (.slice (some ⟨g, 0, none⟩) ps.length cap) ps ∧ ps.map Prod.fst = t.l.take j ∧ BlkX wr W.heap.size t (.slice pp ln cl) ∧ BlkX wr (W.heap.size + 1) tz (.slice none 0 0) ∧ Ext W wr) (fun _ iv _ => ln - (intOf iv).toNat)
 case atStart => exact ⟨0, W.heap.size + 1 + 1, 0, [], Nat.zero_le _, rfl, rfl, rfl, OwX.zero rfl (by simp) (Nat.le_refl _), by simp, blk13_top rfl (((Ext.refl _).alloc _).alloc _), BlkX.top (by simp) ((Ext.refl _).alloc _), (((Ext.refl _).alloc _).alloc _).alloc _⟩
 case round =>
   obtain ⟨j, g, cap, ps, hj, rfl, rfl, hpl, hO, hps, hB, hB2, hE⟩ := hrel
   have HO : Hid (OwX wr (W.heap.size + 1 + 1) (.slice (some ⟨g, 0, none⟩) ps.length cap) ps ∧ ps.map Prod.fst = t.l.take j ∧ Ext W wr ∧ ps.length = j) := ⟨hO, hps, hE, hpl⟩
   have HB : Hid (BlkX wr W.heap.size t (.slice pp ln cl) ∧ BlkX wr (W.heap.size + 1) tz (.slice none 0 0)) := ⟨hB, hB2⟩
   obtain ⟨qz, ⟨k0, k1, k2, k3, k4, k5, k6, k7, k8, k9, k10, k11, k12⟩, f0, f1, f2, f3, f4, f5, f6, f7, f8, f9, f10, f11, f12⟩ := hB
   have hwr : W.heap.size + 1 < wr.heap.size := hB2.1
   clear hE hps hO hpl hB2 f0 f1 f2 f3 f4 f5 f6 f7 f8 f9 f10 f11
   by_cases hlt : j < ln
   · have hltI : (j : Int) < (ln : Int) := by omega
     have hI := HI.out.ext HO.out.2.2.1
     obtain ⟨gb, off, x, lv, hpp, hx1, hA1, hgb, hA2, hLx, hce⟩ := hI.at (i := j) (by rw [← HLN.out]; exact hlt)
     clear hA1 hA2
     subst hpp
     obtain ⟨pp, cl', hlv, hcl⟩ := hLx.form
     obtain ⟨ln', hln'⟩ : ∃ ln', x.l.length = ln' := ⟨_, rfl⟩
     rw [hln'] at hlv
     subst hlv
     have HX1 : Hid (t.l[j]? = some x) := hx1
     have HC : Hid (Calls Tryz.prog 10 #[.agg #[.int .i64 x.k, .int .i64 x.n, .string (bs x.s), .int .i64 x.e, .int .i64 x.r.1, .int .i64 x.r.2.1, .bool x.r.2.2.1, .bool x.r.2.2.2, .int .i64 x.q.1, .int .i64 x.q.2.1, .bool x.q.2.2.1, .bool x.q.2.2.2, .slice pp ln' cl']] wr (OwnQ wr x)) := HIH.out x (List.mem_of_getElem? hx1) wr P pp ln' cl' hLx
     have e0 : wr.cell? ⟨gb, off + j * 13, none⟩ = some (.int .i64 x.k) := hce 0 _ rfl
     have e1 : wr.cell? ⟨gb, off + j * 13 + 1, none⟩ = some (.int .i64 x.n) := hce 1 _ rfl
     have e2 : wr.cell? ⟨gb, off + j * 13 + 2, none⟩ = some (.string (bs x.s)) := hce 2 _ rfl
     have e3 : wr.cell? ⟨gb, off + j * 13 + 3, none⟩ = some (.int .i64 x.e) := hce 3 _ rfl
     have e4 : wr.cell? ⟨gb, off + j * 13 + 4, none⟩ = some (.int .i64 x.r.1) := hce 4 _ rfl
     have e5 : wr.cell? ⟨gb, off + j * 13 + 5, none⟩ = some (.int .i64 x.r.2.1) := hce 5 _ rfl
     have e6 : wr.cell? ⟨gb, off + j * 13 + 6, none⟩ = some (.bool x.r.2.2.1) := hce 6 _ rfl
     have e7 : wr.cell? ⟨gb, off + j * 13 + 7, none⟩ = some (.bool x.r.2.2.2) := hce 7 _ rfl
     have e8 : wr.cell? ⟨gb, off + j * 13 + 8, none⟩ = some (.int .i64 x.q.1) := hce 8 _ rfl
     have e9 : wr.cell? ⟨gb, off + j * 13 + 9, none⟩ = some (.int .i64 x.q.2.1) := hce 9 _ rfl
     have e10 : wr.cell? ⟨gb, off + j * 13 + 10, none⟩ = some (.bool x.q.2.2.1) := hce 10 _ rfl
     have e11 : wr.cell? ⟨gb, off + j * 13 + 11, none⟩ = some (.bool x.q.2.2.2) := hce 11 _ rfl
     have e12 : wr.cell? ⟨gb, off + j * 13 + 12, none⟩ = some (.slice pp ln' cl') := hce 12 _ rfl
     clear hI hx1 hLx hce hcl hln'
     go_wp2_with fail
     refine HC.out.mono ?_
     rintro e w3 ⟨lv, rfl, hL, E3⟩
     obtain ⟨qq, cm, hlv, hcm⟩ := hL.form
     obtain ⟨lm, hlm⟩ : ∃ lm, x.l.length = lm := ⟨_, rfl⟩
     rw [hlm] at hlv
     subst hlv
     have hgw : g < wr.heap.size := by
       rcases HO.out.1.1.2 with ⟨q1, _⟩ | ⟨g', cap', cur, q1, _, q3, _⟩
       · cases q1
       · cases q1; exact heap_lt q3
     have HL3 : Hid (IsL w3 (fun k => W.heap.size + 1 + 1 ≤ k ∧ (Value.slice (some ⟨g, 0, none⟩) ps.length cap).ownBlock ≠ some k) (.slice qq lm cm) x.l) := hL.mono (fun k hk hs => ⟨by omega, by simp [Value.ownBlock]; omega⟩)
     have HO3 : Hid (OwX w3 (W.heap.size + 1 + 1) (.slice (some ⟨g, 0, none⟩) ps.length cap) ps ∧ Ext W w3 ∧ BlkX w3 W.heap.size t (.slice (some ⟨gb, off, none⟩) ln cl) ∧ BlkX w3 (W.heap.size + 1) tz (.slice none 0 0)) := ⟨HO.out.1.ext E3, HO.out.2.2.1.trans E3, HB.out.1.ext E3, HB.out.2.ext E3⟩
     have hw3 : W.heap.size + 1 < w3.heap.size := HO3.out.2.2.2.1
     clear hL hcm hlm E3 hgw f12 k0 k1 k2 k3 k4 k5 k6 k7 k8 k9 k10 k11 k12 e0 e1 e2 e3 e4 e5 e6 e7 e8 e9 e10 e11 e12
     unfold aggX
     go_wp2_with (at_builtin; refine x_append _ (W.heap.size + 1 + 1) _ _ _ w3.heap.size ps x qq lm cm rfl rfl (by rfl) (by rfl) (by rw [← HO.out.2.2.2]; exact HO3.out.1.ext ((Ext.refl _).alloc _)) (by rw [← HO.out.2.2.2]; exact HL3.out.ext ((Ext.refl _).alloc _)) ?cR (by rw [HO.out.2.2.2]; omega) (by simp; omega) ?_)
     case cR =>
       intro j u hu
       rw [Addr.add_lit, cell_of_row _ _ _ _ _ (0, 0) (new_top w3 _), Nat.zero_add]
       rw [← hu, ← Array.getElem?_toList]; rfl
     intro v' w4 k1 k2 g4 cap4 hv4
     subst hv4
     have HB4 : Hid (OwX (w3.alloc (.cells #[.int .i64 x.k, .int .i64 x.n, .string (bs x.s), .int .i64 x.e, .int .i64 x.r.1, .int .i64 x.r.2.1, .bool x.r.2.2.1, .bool x.r.2.2.2, .int .i64 x.q.1, .int .i64 x.q.2.1, .bool x.q.2.2.1, .bool x.q.2.2.2, .slice qq lm cm] 26)) (W.heap.size + 1 + 1) (.slice (some ⟨g, 0, none⟩) ps.length cap) ps) := HO3.out.1.ext ((Ext.refl _).alloc _)
     rw [← HO.out.2.2.2] at k2
     have HG : Hid (OwX w4 (W.heap.size + 1 + 1) (.slice (some ⟨g4, 0, none⟩) (ps.length + 1) cap4) (ps ++ [(x, .slice qq lm cm)]) ∧ Ext W w4 ∧ BlkX w4 W.heap.size t (.slice (some ⟨gb, off, none⟩) ln cl) ∧ BlkX w4 (W.heap.size + 1) tz (.slice none 0 0)) :=
       ⟨k1, ext_grown k2 HB4.out (HO3.out.2.1.alloc _) (by omega), (HO3.out.2.2.1.ext ((Ext.refl _).alloc _)).grown k2 HB4.out (by omega), (HO3.out.2.2.2.ext ((Ext.refl _).alloc _)).grown k2 HB4.out (by omega)⟩
     clear k1 k2 HB4
     go_wp2_with fail
     go_roundw
     case rel =>
       refine ⟨j + 1, g4, cap4, ps ++ [(x, .slice qq lm cm)], by omega, by rw [HO.out.2.2.2], by go_num, by rw [List.length_append, HO.out.2.2.2]; rfl, ?_, ?_, HG.out.2.2.1, HG.out.2.2.2, HG.out.2.1⟩
       · rw [List.length_append]; exact HG.out.1
       · rw [List.map_append, HO.out.2.1, List.take_add_one, HX1.out]; rfl
     case measure => show ln - ((j : Int) + 1).toNat < ln - ((j : Int)).toNat; omega
   · have hltI : ¬ (j : Int) < (ln : Int) := by omega
     have hjl : j = ln := by omega
     have HT : Hid (t.l.take j = t.l) := by show _ = _; rw [hjl, HLN.out]; exact List.take_length
     clear hlt hjl
     obtain ⟨qy, ⟨y0, y1, y2, y3, y4, y5, y6, y7, y8, y9, y10, y11, y12⟩, g0, g1, g2, g3, g4, g5, g6, g7, g8, g9, g10, g11, g12⟩ := HB.out.2
     go_wp2_with fail
     have hLL := HO.out.1.isL
     rw [HO.out.2.1, HT.out, HO.out.2.2.2] at hLL
     have HLL : Hid (IsL wr (W.heap.size + 1 + 1 ≤ ·) (.slice (some ⟨g, 0, none⟩) j cap) t.l) := hLL
     clear hLL
     show bodyPost Tryz.prog _ _ _ _ (putX (wr.setCell ⟨W.heap.size, 12, none⟩ (.slice (some ⟨g, 0, none⟩) j cap)) (W.heap.size + 1) t (.slice (some ⟨g, 0, none⟩) j cap))
     have hB6 : BlkX (wr.setCell ⟨W.heap.size, 12, none⟩ (.slice (some ⟨g, 0, none⟩) j cap)) (W.heap.size + 1) tz (.slice none 0 0) := Blk13.far1 HB.out.2 (by omega) 12 _
     have hL6 : IsL (wr.setCell ⟨W.heap.size, 12, none⟩ (.slice (some ⟨g, 0, none⟩) j cap)) (W.heap.size + 1 + 1 ≤ ·) (.slice (some ⟨g, 0, none⟩) j cap) t.l := HLL.out.keep (by simp [World.setCell]) (fun k hk _ => Below.heap_setCell _ _ _ _ (by simp; omega)) (fun _ h _ => h)
     have hE6 : Ext W (wr.setCell ⟨W.heap.size, 12, none⟩ (.slice (some ⟨g, 0, none⟩) j cap)) := HO.out.2.2.1.setCell (Nat.le_refl _) _
     generalize wr.setCell ⟨W.heap.size, 12, none⟩ (.slice (some ⟨g, 0, none⟩) j cap) = W6 at hB6 hL6 hE6 ⊢
     exact endO (hB6.put t _) rfl (putX_L hL6 (fun k hk => by omega)) (fun k hk => by omega) (putX_E hE6 (by omega) _ _) (fun h0 h1 h2 h3 h4 h5 h6 h7 h8 h9 h10 h11 h12 => by simp [results, Tryz.results10, go_sem, h0, h1, h2, h3, h4, h5, h6, h7, h8, h9, h10, h11, h12, aggX])
theorem own_any (n : Nat) (t : T) (h : Hr n t) : OwnC t := by
 induction n generalizing t with
 | zero => cases h
 | succ n ih => exact own_step t h.1 (fun x hx => ih x (h.2 x hx))

open Go.RowKit
set_option maxHeartbeats 6000000

theorem ron_any (r0 r1 : Int) (r2 r3 : Bool) (w : World) : Calls Tryz.prog 15 #[.agg #[.int .i64 r0, .int .i64 r1, .bool r2, .bool r3]] w fun e w' => e = .returned (.bool (inB r0 r1)) ∧ Ext w w' := by
 have c1 := fun W => rin_any r0 r1 W
 obtain ⟨bb, hbb⟩ : ∃ bb, inB r0 r1 = bb := ⟨_, rfl⟩
 rw [hbb] at c1 ⊢
 clear hbb
 go_enter Tryz.func15, Tryz.ntmps15
 go_wp2_with fail
 refine (c1 _).mono ?_
 rintro e w1 ⟨rfl, rfl⟩
 go_wp2_with fail
 go_ret
 exact ⟨rfl, (Ext.refl _).alloc _⟩
set_option maxRecDepth 100000 in
theorem rwell_leaf (P : Nat → Prop) (n : Nat) (t : T) (hk6 : t.k ≠ 6) (hk7 : t.k ≠ 7) (hk8 : t.k ≠ 8) : ATr 6 P (wellT (n + 1)) t := by
 intro W pp ln cl _
 by_cases hk : t.k = 0
 · have e0 : (t.k == 0) = true := by rw [hk]; rfl
   have HX : Hid (wellT (n + 1) t = decide (0 ≤ t.n)) := by show _ = _; unfold wellT; simp [hk]
   clear hk hk6 hk7 hk8
   go_enter Tryz.func6, Tryz.ntmps6
   go_wp2_with fail
   go_ret
   exact ⟨ret_bool HX.out.symm, (Ext.refl _).alloc _⟩
 have k0 := hk
 clear hk
 by_cases hk : t.k = 1
 · have e0 : (t.k == 0) = false := by rw [hk]; rfl
   have e1 : (t.k == 1) = true := by rw [hk]; rfl
   have HX : Hid (wellT (n + 1) t = decide (t.s.length ≤ 300)) := by show _ = _; unfold wellT; simp [hk]
   have HB : Hid ((bs t.s).size = t.s.length) := bs_size _
   generalize bs t.s = q at *
   clear hk hk6 hk7 hk8 k0
   go_enter Tryz.func6, Tryz.ntmps6
   go_wp2_with fail
   go_ret
   refine ⟨ret_bool ?_, (Ext.refl _).alloc _⟩
   rw [HX.out, ← HB.out]
   simp
   omega
 have k1 := hk
 clear hk
 by_cases hk : t.k = 2
 · have e0 : (t.k == 0) = false := by rw [hk]; rfl
   have e1 : (t.k == 1) = false := by rw [hk]; rfl
   have e2 : (t.k == 2) = true := by rw [hk]; rfl
   have HX : Hid (wellT (n + 1) t = (t.n == 0 || t.n == 1)) := by show _ = _; unfold wellT; simp [hk]
   clear hk hk6 hk7 hk8 k0 k1
   cases hn : (t.n == 0)
   · rw [hn] at HX
     go_enter Tryz.func6, Tryz.ntmps6
     go_wp2_with fail
     go_ret
     exact ⟨ret_bool HX.out.symm, (Ext.refl _).alloc _⟩
   · rw [hn] at HX
     go_enter Tryz.func6, Tryz.ntmps6
     go_wp2_with fail
     go_ret
     exact ⟨ret_bool HX.out.symm, (Ext.refl _).alloc _⟩
 have k2 := hk
 clear hk
 by_cases hk : t.k = 3
 · have e0 : (t.k == 0) = false := by rw [hk]; rfl
   have e1 : (t.k == 1) = false := by rw [hk]; rfl
   have e2 : (t.k == 2) = false := by rw [hk]; rfl
   have e3 : (t.k == 3) = true := by rw [hk]; rfl
   have HX : Hid (wellT (n + 1) t = (decide (1 ≤ t.e) && decide (t.e ≤ 5))) := by show _ = _; unfold wellT; simp [hk]
   clear hk hk6 hk7 hk8 k0 k1 k2
   by_cases h1 : 1 ≤ t.e
   · have d1 : decide (1 ≤ t.e) = true := by simpa using h1
     rw [d1] at HX
     go_enter Tryz.func6, Tryz.ntmps6
     go_wp2_with fail
     go_ret
     exact ⟨ret_bool HX.out.symm, (Ext.refl _).alloc _⟩
   · have d1 : decide (1 ≤ t.e) = false := by simpa using h1
     rw [d1] at HX
     go_enter Tryz.func6, Tryz.ntmps6
     go_wp2_with fail
     go_ret
     exact ⟨ret_bool HX.out.symm, (Ext.refl _).alloc _⟩
 have k3 := hk
 clear hk
 by_cases hk : t.k = 4
 · have e0 : (t.k == 0) = false := by rw [hk]; rfl
   have e1 : (t.k == 1) = false := by rw [hk]; rfl
   have e2 : (t.k == 2) = false := by rw [hk]; rfl
   have e3 : (t.k == 3) = false := by rw [hk]; rfl
   have e4 : (t.k == 4) = true := by rw [hk]; rfl
   have HX : Hid (wellT (n + 1) t = inB t.r.1 t.r.2.1) := by show _ = _; unfold wellT; simp [hk]
   have c1 := fun W => ron_any t.r.1 t.r.2.1 t.r.2.2.1 t.r.2.2.2 W
   clear hk hk6 hk7 hk8 k0 k1 k2 k3
   go_enter Tryz.func6, Tryz.ntmps6
   go_wp2_with fail
   refine (c1 _).mono ?_
   rintro e w1 ⟨rfl, E1⟩
   have HE : Hid (Ext W w1) := ((Ext.refl _).alloc _).trans E1
   clear E1
   go_wp2_with fail
   go_ret
   exact ⟨ret_bool HX.out.symm, HE.out⟩
 have k4 := hk
 clear hk
 have HX : Hid (wellT (n + 1) t = false) := by show _ = _; unfold wellT; simp [k0, k1, k2, k3, k4, hk6, hk7, hk8]
 have e0 : (t.k == 0) = false := by simpa using k0
 have e1 : (t.k == 1) = false := by simpa using k1
 have e2 : (t.k == 2) = false := by simpa using k2
 have e3 : (t.k == 3) = false := by simpa using k3
 have e4 : (t.k == 4) = false := by simpa using k4
 have e6 : (t.k == 6) = false := by simpa using hk6
 have e7 : (t.k == 7) = false := by simpa using hk7
 have e8 : (t.k == 8) = false := by simpa using hk8
 clear hk6 hk7 hk8 k0 k1 k2 k3 k4
 go_enter Tryz.func6, Tryz.ntmps6
 go_wp2_with fail
 go_ret
 exact ⟨ret_bool HX.out.symm, (Ext.refl _).alloc _⟩
theorem allx_take9 {l : List T} {g : T → Bool} {j : Nat} {x : T} (h : l[j]? = some x) : (l.take (j + 1)).all g = ((l.take j).all g && g x) := by
 rw [List.take_add_one, h, List.all_append]; simp
set_option maxRecDepth 100000 in
theorem rwell_neg (P : Nat → Prop) (n : Nat) (t : T) (hk : t.k = 6) (hl : t.l.length ≤ 100000) (hx : ∀ x ∈ t.l, ATr 6 P (wellT n) x) : ATr 6 P (wellT (n + 1)) t := by
 intro W pp ln cl h
 have hln : t.l.length = ln := by
   obtain ⟨p, c, h1, _⟩ := h.form
   cases h1; rfl
 have hl2 : ln ≤ 100000 := by omega
 have e0 : (t.k == 0) = false := by rw [hk]; rfl
 have e1 : (t.k == 1) = false := by rw [hk]; rfl
 have e2 : (t.k == 2) = false := by rw [hk]; rfl
 have e3 : (t.k == 3) = false := by rw [hk]; rfl
 have e4 : (t.k == 4) = false := by rw [hk]; rfl
 have e6 : (t.k == 6) = true := by rw [hk]; rfl
 have e7 : (t.k == 7) = false := by rw [hk]; rfl
 have e8 : (t.k == 8) = false := by rw [hk]; rfl
 have HX : Hid (wellT (n + 1) t = (ln == 1 && t.l.all (wellT n))) := by show _ = _; unfold wellT; simp [hk, hln]; try rfl
 have HI : Hid (IsL W P (.slice pp ln cl) t.l) := h
 have HLN : Hid (t.l.length = ln) := hln
 have HXX : Hid (∀ x ∈ t.l, ATr 6 P (wellT n) x) := hx
 clear hk hl hx h hln
 by_cases h1 : ln = 1
 · have d1 : ¬ (ln : Int) < 1 := by omega
   have d2 : ¬ 1 < (ln : Int) := by omega
   have HX : Hid (wellT (n + 1) t = t.l.all (wellT n)) := by show _ = _; rw [HX.out, h1]; rfl
   clear h1
   go_enter Tryz.func6, Tryz.ntmps6
   go_wp2_with fail
   go_loopw [8] (fun iv wr => ∃ j : Nat, j ≤ ln ∧ iv = .int .i64 (j : Int) ∧ (t.l.take j).all (wellT n) = true ∧ BlkX wr W.heap.size t (.slice pp ln cl) ∧ Ext W wr) (fun iv _ => ln - (intOf iv).toNat)
   case atStart => exact ⟨0, Nat.zero_le _, rfl, rfl, blk13_top rfl (Ext.refl _), (Ext.refl _).alloc _⟩
   case round =>
     obtain ⟨j, hj, rfl, hg, hB, hE⟩ := hrel
     have HE : Hid (Ext W wr ∧ (t.l.take j).all (wellT n) = true) := ⟨hE, hg⟩
     have HBX : Hid (BlkX wr W.heap.size t (.slice pp ln cl)) := hB
     obtain ⟨qz, ⟨k0, k1, k2, k3, k4, k5, k6, k7, k8, k9, k10, k11, k12⟩, gz⟩ := hB
     clear hE hg gz
     by_cases hlt : j < ln
     · have hltI : (j : Int) < (ln : Int) := by omega
       have hI := HI.out.ext HE.out.1
       obtain ⟨gb, off, x, lv, hpp, hx1, hA1, hgb, hA2, hLx, hce⟩ := hI.at (i := j) (by rw [HLN.out]; exact hlt)
       clear hA1 hA2
       subst hpp
       obtain ⟨pp, cl', hlv, hcl⟩ := hLx.form
       obtain ⟨ln', hln'⟩ : ∃ ln', x.l.length = ln' := ⟨_, rfl⟩
       rw [hln'] at hlv
       subst hlv
       have HX1 : Hid (t.l[j]? = some x) := hx1
       have HLX : Hid (IsL wr P (.slice pp ln' cl') x.l) := hLx
       have HCW : Hid (∀ W', Ext wr W' → Calls Tryz.prog 6 #[.agg #[.int .i64 x.k, .int .i64 x.n, .string (bs x.s), .int .i64 x.e, .int .i64 x.r.1, .int .i64 x.r.2.1, .bool x.r.2.2.1, .bool x.r.2.2.2, .int .i64 x.q.1, .int .i64 x.q.2.1, .bool x.q.2.2.1, .bool x.q.2.2.2, .slice pp ln' cl']] W' fun e w' => e = .returned (.bool (wellT n x)) ∧ Ext W' w') := fun W' e => HXX.out x (List.mem_of_getElem? hx1) W' pp ln' cl' (hLx.ext e)
       have e0_ : wr.cell? ⟨gb, off + j * 13, none⟩ = some (.int .i64 x.k) := hce 0 _ rfl
       have e1_ : wr.cell? ⟨gb, off + j * 13 + 1, none⟩ = some (.int .i64 x.n) := hce 1 _ rfl
       have e2_ : wr.cell? ⟨gb, off + j * 13 + 2, none⟩ = some (.string (bs x.s)) := hce 2 _ rfl
       have e3_ : wr.cell? ⟨gb, off + j * 13 + 3, none⟩ = some (.int .i64 x.e) := hce 3 _ rfl
       have e4_ : wr.cell? ⟨gb, off + j * 13 + 4, none⟩ = some (.int .i64 x.r.1) := hce 4 _ rfl
       have e5_ : wr.cell? ⟨gb, off + j * 13 + 5, none⟩ = some (.int .i64 x.r.2.1) := hce 5 _ rfl
       have e6_ : wr.cell? ⟨gb, off + j * 13 + 6, none⟩ = some (.bool x.r.2.2.1) := hce 6 _ rfl
       have e7_ : wr.cell? ⟨gb, off + j * 13 + 7, none⟩ = some (.bool x.r.2.2.2) := hce 7 _ rfl
       have e8_ : wr.cell? ⟨gb, off + j * 13 + 8, none⟩ = some (.int .i64 x.q.1) := hce 8 _ rfl
       have e9_ : wr.cell? ⟨gb, off + j * 13 + 9, none⟩ = some (.int .i64 x.q.2.1) := hce 9 _ rfl
       have e10_ : wr.cell? ⟨gb, off + j * 13 + 10, none⟩ = some (.bool x.q.2.2.1) := hce 10 _ rfl
       have e11_ : wr.cell? ⟨gb, off + j * 13 + 11, none⟩ = some (.bool x.q.2.2.2) := hce 11 _ rfl
       have e12_ : wr.cell? ⟨gb, off + j * 13 + 12, none⟩ = some (.slice pp ln' cl') := hce 12 _ rfl
       clear hI hx1 hLx hce hcl hln'
       go_wp2_with fail
       refine (HCW.out _ ((Ext.refl _).alloc _)).mono ?_
       rintro e w1 ⟨rfl, E1⟩
       have HE1 : Hid (Ext W w1) := (HE.out.1.alloc _).trans E1
       have HB1 : Hid (BlkX w1 W.heap.size t (.slice (some ⟨gb, off, none⟩) ln cl)) := HBX.out.ext (((Ext.refl _).alloc _).trans E1)
       clear E1 k0 k1 k2 k3 k4 k5 k6 k7 k8 k9 k10 k11 k12 e0_ e1_ e2_ e3_ e4_ e5_ e6_ e7_ e8_ e9_ e10_ e11_ e12_
       cases hgx : wellT n x
       · have HG : Hid ((wellT n) x = false) := by show _ = _; skip; exact hgx
         clear hgx
         have HR : Hid (t.l.all (wellT n) = false) := by
           show _ = _
           rw [List.all_eq_false]
           exact ⟨x, List.mem_of_getElem? HX1.out, by rw [HG.out]; simp⟩
         go_wp2_with fail
         go_ret
         exact ⟨ret_bool (by rw [HX.out, HR.out]; try simp), HE1.out⟩
       · have HG : Hid ((wellT n) x = true) := by show _ = _; skip; exact hgx
         clear hgx
         have HR : Hid ((t.l.take (j + 1)).all (wellT n) = true) := by show _ = _; rw [allx_take9 HX1.out, HE.out.2, HG.out]; rfl
         go_wp2_with fail
         go_roundw
         case rel => exact ⟨j + 1, by omega, by go_num, HR.out, HB1.out, HE1.out⟩
         case measure => show ln - ((j : Int) + 1).toNat < ln - ((j : Int)).toNat; omega
     · have hltI : ¬ (j : Int) < (ln : Int) := by omega
       have HR : Hid (t.l.all (wellT n) = true) := by
         show _ = _
         have := HE.out.2
         rw [List.take_of_length_le (by have := HLN.out; omega)] at this
         exact this
       go_wp2_with fail
       go_ret
       exact ⟨ret_bool (by rw [HX.out, HR.out]; try rfl), HE.out.1⟩
 · have HX : Hid (wellT (n + 1) t = false) := by show _ = _; rw [HX.out]; simp [h1]
   rcases Nat.lt_or_gt_of_ne h1 with h2 | h2
   · have d1 : (ln : Int) < 1 := by omega
     clear h1 h2
     go_enter Tryz.func6, Tryz.ntmps6
     go_wp2_with fail
     go_ret
     exact ⟨ret_bool (by rw [HX.out]; try rfl), (Ext.refl _).alloc _⟩
   · have d1 : ¬ (ln : Int) < 1 := by omega
     have d2 : 1 < (ln : Int) := by omega
     clear h1 h2
     go_enter Tryz.func6, Tryz.ntmps6
     go_wp2_with fail
     go_ret
     exact ⟨ret_bool (by rw [HX.out]; try rfl), (Ext.refl _).alloc _⟩
set_option maxRecDepth 100000 in
theorem rwell_bin (P : Nat → Prop) (n : Nat) (t : T) (hk : t.k = 7) (hl : t.l.length ≤ 100000) (hx : ∀ x ∈ t.l, ATr 6 P (wellT n) x) : ATr 6 P (wellT (n + 1)) t := by
 intro W pp ln cl h
 have hln : t.l.length = ln := by
   obtain ⟨p, c, h1, _⟩ := h.form
   cases h1; rfl
 have hl2 : ln ≤ 100000 := by omega
 have e0 : (t.k == 0) = false := by rw [hk]; rfl
 have e1 : (t.k == 1) = false := by rw [hk]; rfl
 have e2 : (t.k == 2) = false := by rw [hk]; rfl
 have e3 : (t.k == 3) = false := by rw [hk]; rfl
 have e4 : (t.k == 4) = false := by rw [hk]; rfl
 have e6 : (t.k == 6) = false := by rw [hk]; rfl
 have e7 : (t.k == 7) = true := by rw [hk]; rfl
 have e8 : (t.k == 8) = false := by rw [hk]; rfl
 have HX : Hid (wellT (n + 1) t = (bnd t.s != 0 && ln == 2 && t.l.all (wellT n))) := by show _ = _; unfold wellT; simp [hk, hln]; try rfl
 have HI : Hid (IsL W P (.slice pp ln cl) t.l) := h
 have HLN : Hid (t.l.length = ln) := hln
 have HXX : Hid (∀ x ∈ t.l, ATr 6 P (wellT n) x) := hx
 have cB := fun W => rpower_any (bs t.s) W
 have es : (bs t.s).data.toList = t.s := rfl
 rw [es] at cB
 obtain ⟨bb, hbb⟩ : ∃ bb, bnd t.s = bb := ⟨_, rfl⟩
 rw [hbb] at cB HX
 clear hk hl hx h hln es hbb
 by_cases h0 : bb = 0
 · have b1 : ((bb : Int) == 0) = true := by rw [h0]; rfl
   have HX : Hid (wellT (n + 1) t = false) := by show _ = _; rw [HX.out, h0]; rfl
   clear h0
   go_enter Tryz.func6, Tryz.ntmps6
   go_wp2_with fail
   refine (cB _).mono ?_
   rintro e w1 ⟨rfl, rfl⟩
   go_wp2_with fail
   go_ret
   exact ⟨ret_bool (by rw [HX.out]; try rfl), (Ext.refl _).alloc _⟩
 have b1 : ((bb : Int) == 0) = false := by simp; omega
 have HX : Hid (wellT (n + 1) t = (ln == 2 && t.l.all (wellT n))) := by
   show _ = _
   have h1 : (bb != 0) = true := by simpa using h0
   rw [HX.out, h1]; rfl
 clear h0
 by_cases h1 : ln = 2
 · have d1 : ¬ (ln : Int) < 2 := by omega
   have d2 : ¬ 2 < (ln : Int) := by omega
   have HX : Hid (wellT (n + 1) t = t.l.all (wellT n)) := by show _ = _; rw [HX.out, h1]; rfl
   clear h1
   go_enter Tryz.func6, Tryz.ntmps6
   go_wp2_with fail
   refine (cB _).mono ?_
   rintro e w1 ⟨rfl, rfl⟩
   go_wp2_with fail
   go_loopw [8] (fun iv wr => ∃ j : Nat, j ≤ ln ∧ iv = .int .i64 (j : Int) ∧ (t.l.take j).all (wellT n) = true ∧ BlkX wr W.heap.size t (.slice pp ln cl) ∧ Ext W wr) (fun iv _ => ln - (intOf iv).toNat)
   case atStart => exact ⟨0, Nat.zero_le _, rfl, rfl, blk13_top rfl (Ext.refl _), (Ext.refl _).alloc _⟩
   case round =>
     obtain ⟨j, hj, rfl, hg, hB, hE⟩ := hrel
     have HE : Hid (Ext W wr ∧ (t.l.take j).all (wellT n) = true) := ⟨hE, hg⟩
     have HBX : Hid (BlkX wr W.heap.size t (.slice pp ln cl)) := hB
     obtain ⟨qz, ⟨k0, k1, k2, k3, k4, k5, k6, k7, k8, k9, k10, k11, k12⟩, gz⟩ := hB
     clear hE hg gz
     by_cases hlt : j < ln
     · have hltI : (j : Int) < (ln : Int) := by omega
       have hI := HI.out.ext HE.out.1
       obtain ⟨gb, off, x, lv, hpp, hx1, hA1, hgb, hA2, hLx, hce⟩ := hI.at (i := j) (by rw [HLN.out]; exact hlt)
       clear hA1 hA2
       subst hpp
       obtain ⟨pp, cl', hlv, hcl⟩ := hLx.form
       obtain ⟨ln', hln'⟩ : ∃ ln', x.l.length = ln' := ⟨_, rfl⟩
       rw [hln'] at hlv
       subst hlv
       have HX1 : Hid (t.l[j]? = some x) := hx1
       have HLX : Hid (IsL wr P (.slice pp ln' cl') x.l) := hLx
       have HCW : Hid (∀ W', Ext wr W' → Calls Tryz.prog 6 #[.agg #[.int .i64 x.k, .int .i64 x.n, .string (bs x.s), .int .i64 x.e, .int .i64 x.r.1, .int .i64 x.r.2.1, .bool x.r.2.2.1, .bool x.r.2.2.2, .int .i64 x.q.1, .int .i64 x.q.2.1, .bool x.q.2.2.1, .bool x.q.2.2.2, .slice pp ln' cl']] W' fun e w' => e = .returned (.bool (wellT n x)) ∧ Ext W' w') := fun W' e => HXX.out x (List.mem_of_getElem? hx1) W' pp ln' cl' (hLx.ext e)
       have e0_ : wr.cell? ⟨gb, off + j * 13, none⟩ = some (.int .i64 x.k) := hce 0 _ rfl
       have e1_ : wr.cell? ⟨gb, off + j * 13 + 1, none⟩ = some (.int .i64 x.n) := hce 1 _ rfl
       have e2_ : wr.cell? ⟨gb, off + j * 13 + 2, none⟩ = some (.string (bs x.s)) := hce 2 _ rfl
       have e3_ : wr.cell? ⟨gb, off + j * 13 + 3, none⟩ = some (.int .i64 x.e) := hce 3 _ rfl
       have e4_ : wr.cell? ⟨gb, off + j * 13 + 4, none⟩ = some (.int .i64 x.r.1) := hce 4 _ rfl
       have e5_ : wr.cell? ⟨gb, off + j * 13 + 5, none⟩ = some (.int .i64 x.r.2.1) := hce 5 _ rfl
       have e6_ : wr.cell? ⟨gb, off + j * 13 + 6, none⟩ = some (.bool x.r.2.2.1) := hce 6 _ rfl
       have e7_ : wr.cell? ⟨gb, off + j * 13 + 7, none⟩ = some (.bool x.r.2.2.2) := hce 7 _ rfl
       have e8_ : wr.cell? ⟨gb, off + j * 13 + 8, none⟩ = some (.int .i64 x.q.1) := hce 8 _ rfl
       have e9_ : wr.cell? ⟨gb, off + j * 13 + 9, none⟩ = some (.int .i64 x.q.2.1) := hce 9 _ rfl
       have e10_ : wr.cell? ⟨gb, off + j * 13 + 10, none⟩ = some (.bool x.q.2.2.1) := hce 10 _ rfl
       have e11_ : wr.cell? ⟨gb, off + j * 13 + 11, none⟩ = some (.bool x.q.2.2.2) := hce 11 _ rfl
       have e12_ : wr.cell? ⟨gb, off + j * 13 + 12, none⟩ = some (.slice pp ln' cl') := hce 12 _ rfl
       clear hI hx1 hLx hce hcl hln'
       go_wp2_with fail
       refine (HCW.out _ ((Ext.refl _).alloc _)).mono ?_
       rintro e w1 ⟨rfl, E1⟩
       have HE1 : Hid (Ext W w1) := (HE.out.1.alloc _).trans E1
       have HB1 : Hid (BlkX w1 W.heap.size t (.slice (some ⟨gb, off, none⟩) ln cl)) := HBX.out.ext (((Ext.refl _).alloc _).trans E1)
       clear E1 k0 k1 k2 k3 k4 k5 k6 k7 k8 k9 k10 k11 k12 e0_ e1_ e2_ e3_ e4_ e5_ e6_ e7_ e8_ e9_ e10_ e11_ e12_
       cases hgx : wellT n x
       · have HG : Hid ((wellT n) x = false) := by show _ = _; skip; exact hgx
         clear hgx
         have HR : Hid (t.l.all (wellT n) = false) := by
           show _ = _
           rw [List.all_eq_false]
           exact ⟨x, List.mem_of_getElem? HX1.out, by rw [HG.out]; simp⟩
         go_wp2_with fail
         go_ret
         exact ⟨ret_bool (by rw [HX.out, HR.out]; try simp), HE1.out⟩
       · have HG : Hid ((wellT n) x = true) := by show _ = _; skip; exact hgx
         clear hgx
         have HR : Hid ((t.l.take (j + 1)).all (wellT n) = true) := by show _ = _; rw [allx_take9 HX1.out, HE.out.2, HG.out]; rfl
         go_wp2_with fail
         go_roundw
         case rel => exact ⟨j + 1, by omega, by go_num, HR.out, HB1.out, HE1.out⟩
         case measure => show ln - ((j : Int) + 1).toNat < ln - ((j : Int)).toNat; omega
     · have hltI : ¬ (j : Int) < (ln : Int) := by omega
       have HR : Hid (t.l.all (wellT n) = true) := by
         show _ = _
         have := HE.out.2
         rw [List.take_of_length_le (by have := HLN.out; omega)] at this
         exact this
       go_wp2_with fail
       go_ret
       exact ⟨ret_bool (by rw [HX.out, HR.out]; try rfl), HE.out.1⟩
 · have HX : Hid (wellT (n + 1) t = false) := by show _ = _; rw [HX.out]; simp [h1]
   rcases Nat.lt_or_gt_of_ne h1 with h2 | h2
   · have d1 : (ln : Int) < 2 := by omega
     clear h1 h2
     go_enter Tryz.func6, Tryz.ntmps6
     go_wp2_with fail
     refine (cB _).mono ?_
     rintro e w1 ⟨rfl, rfl⟩
     go_wp2_with fail
     go_ret
     exact ⟨ret_bool (by rw [HX.out]; try rfl), (Ext.refl _).alloc _⟩
   · have d1 : ¬ (ln : Int) < 2 := by omega
     have d2 : 2 < (ln : Int) := by omega
     clear h1 h2
     go_enter Tryz.func6, Tryz.ntmps6
     go_wp2_with fail
     refine (cB _).mono ?_
     rintro e w1 ⟨rfl, rfl⟩
     go_wp2_with fail
     go_ret
     exact ⟨ret_bool (by rw [HX.out]; try rfl), (Ext.refl _).alloc _⟩
set_option maxRecDepth 100000 in
theorem rwell_call (P : Nat → Prop) (n : Nat) (t : T) (hk : t.k = 8) (hl : t.l.length ≤ 100000) (hx : ∀ x ∈ t.l, ATr 6 P (wellT n) x) : ATr 6 P (wellT (n + 1)) t := by
 intro W pp ln cl h
 have hln : t.l.length = ln := by
   obtain ⟨p, c, h1, _⟩ := h.form
   cases h1; rfl
 have hl2 : ln ≤ 100000 := by omega
 have e0 : (t.k == 0) = false := by rw [hk]; rfl
 have e1 : (t.k == 1) = false := by rw [hk]; rfl
 have e2 : (t.k == 2) = false := by rw [hk]; rfl
 have e3 : (t.k == 3) = false := by rw [hk]; rfl
 have e4 : (t.k == 4) = false := by rw [hk]; rfl
 have e6 : (t.k == 6) = false := by rw [hk]; rfl
 have e7 : (t.k == 7) = false := by rw [hk]; rfl
 have e8 : (t.k == 8) = true := by rw [hk]; rfl
 have HX : Hid (wellT (n + 1) t = ((kno t.s).isSome && decide (knA t.s ≤ (ln : Int)) && decide ((ln : Int) ≤ knB t.s) && t.l.all (argT n))) := by show _ = _; unfold wellT; simp [hk, hln]; try rfl
 have HI : Hid (IsL W P (.slice pp ln cl) t.l) := h
 have HLN : Hid (t.l.length = ln) := hln
 have HXX : Hid (∀ x ∈ t.l, ATr 6 P (wellT n) x) := hx
 have cK := fun W => rknown_any (bs t.s) W
 have es : (bs t.s).data.toList = t.s := rfl
 rw [es] at cK
 obtain ⟨ka, hka⟩ : ∃ ka, knA t.s = ka := ⟨_, rfl⟩
 obtain ⟨kb, hkb⟩ : ∃ kb, knB t.s = kb := ⟨_, rfl⟩
 obtain ⟨ks, hks⟩ : ∃ ks, (kno t.s).isSome = ks := ⟨_, rfl⟩
 rw [hka, hkb, hks] at cK HX
 clear hk hl hx h hln es hka hkb hks
 cases ks
 · have HX : Hid (wellT (n + 1) t = false) := by show _ = _; rw [HX.out]; rfl
   go_enter Tryz.func6, Tryz.ntmps6
   go_wp2_with fail
   refine (cK _).mono ?_
   rintro e w1 ⟨rfl, rfl⟩
   go_wp2_with fail
   go_ret
   exact ⟨ret_bool (by rw [HX.out]; try rfl), (Ext.refl _).alloc _⟩
 have HX : Hid (wellT (n + 1) t = (decide (ka ≤ (ln : Int)) && decide ((ln : Int) ≤ kb) && t.l.all (argT n))) := by show _ = _; rw [HX.out, Bool.true_and]
 by_cases h1 : (ln : Int) < ka
 · have HX : Hid (wellT (n + 1) t = false) := by
     show _ = _
     have : decide (ka ≤ (ln : Int)) = false := by simp; omega
     rw [HX.out, this]; rfl
   go_enter Tryz.func6, Tryz.ntmps6
   go_wp2_with fail
   refine (cK _).mono ?_
   rintro e w1 ⟨rfl, rfl⟩
   go_wp2_with fail
   go_ret
   exact ⟨ret_bool (by rw [HX.out]; try rfl), (Ext.refl _).alloc _⟩
 by_cases h2 : kb < (ln : Int)
 · have HX : Hid (wellT (n + 1) t = false) := by
     show _ = _
     have : decide ((ln : Int) ≤ kb) = false := by simp; omega
     rw [HX.out, this]; simp
   go_enter Tryz.func6, Tryz.ntmps6
   go_wp2_with fail
   refine (cK _).mono ?_
   rintro e w1 ⟨rfl, rfl⟩
   go_wp2_with fail
   go_ret
   exact ⟨ret_bool (by rw [HX.out]; try rfl), (Ext.refl _).alloc _⟩
 have HX : Hid (wellT (n + 1) t = t.l.all (argT n)) := by
   show _ = _
   have k1 : decide (ka ≤ (ln : Int)) = true := by simp; omega
   have k2 : decide ((ln : Int) ≤ kb) = true := by simp; omega
   rw [HX.out, k1, k2]; rfl
 go_enter Tryz.func6, Tryz.ntmps6
 go_wp2_with fail
 refine (cK _).mono ?_
 rintro e w1 ⟨rfl, rfl⟩
 go_wp2_with fail
 clear h1 h2 cK
 go_loopw [8] (fun iv wr => ∃ j : Nat, j ≤ ln ∧ iv = .int .i64 (j : Int) ∧ (t.l.take j).all (argT n) = true ∧ BlkX wr W.heap.size t (.slice pp ln cl) ∧ Ext W wr) (fun iv _ => ln - (intOf iv).toNat)
 case atStart => exact ⟨0, Nat.zero_le _, rfl, rfl, blk13_top rfl (Ext.refl _), (Ext.refl _).alloc _⟩
 case round =>
   obtain ⟨j, hj, rfl, hg, hB, hE⟩ := hrel
   have HE : Hid (Ext W wr ∧ (t.l.take j).all (argT n) = true) := ⟨hE, hg⟩
   have HBX : Hid (BlkX wr W.heap.size t (.slice pp ln cl)) := hB
   obtain ⟨qz, ⟨k0, k1, k2, k3, k4, k5, k6, k7, k8, k9, k10, k11, k12⟩, gz⟩ := hB
   clear hE hg gz
   by_cases hlt : j < ln
   · have hltI : (j : Int) < (ln : Int) := by omega
     have hI := HI.out.ext HE.out.1
     obtain ⟨gb, off, x, lv, hpp, hx1, hA1, hgb, hA2, hLx, hce⟩ := hI.at (i := j) (by rw [HLN.out]; exact hlt)
     clear hA1 hA2
     subst hpp
     obtain ⟨pp, cl', hlv, hcl⟩ := hLx.form
     obtain ⟨ln', hln'⟩ : ∃ ln', x.l.length = ln' := ⟨_, rfl⟩
     rw [hln'] at hlv
     subst hlv
     have HX1 : Hid (t.l[j]? = some x) := hx1
     have HLX : Hid (IsL wr P (.slice pp ln' cl') x.l) := hLx
     have HCW : Hid (∀ W', Ext wr W' → Calls Tryz.prog 6 #[.agg #[.int .i64 x.k, .int .i64 x.n, .string (bs x.s), .int .i64 x.e, .int .i64 x.r.1, .int .i64 x.r.2.1, .bool x.r.2.2.1, .bool x.r.2.2.2, .int .i64 x.q.1, .int .i64 x.q.2.1, .bool x.q.2.2.1, .bool x.q.2.2.2, .slice pp ln' cl']] W' fun e w' => e = .returned (.bool (wellT n x)) ∧ Ext W' w') := fun W' e => HXX.out x (List.mem_of_getElem? hx1) W' pp ln' cl' (hLx.ext e)
     have e0_ : wr.cell? ⟨gb, off + j * 13, none⟩ = some (.int .i64 x.k) := hce 0 _ rfl
     have e1_ : wr.cell? ⟨gb, off + j * 13 + 1, none⟩ = some (.int .i64 x.n) := hce 1 _ rfl
     have e2_ : wr.cell? ⟨gb, off + j * 13 + 2, none⟩ = some (.string (bs x.s)) := hce 2 _ rfl
     have e3_ : wr.cell? ⟨gb, off + j * 13 + 3, none⟩ = some (.int .i64 x.e) := hce 3 _ rfl
     have e4_ : wr.cell? ⟨gb, off + j * 13 + 4, none⟩ = some (.int .i64 x.r.1) := hce 4 _ rfl
     have e5_ : wr.cell? ⟨gb, off + j * 13 + 5, none⟩ = some (.int .i64 x.r.2.1) := hce 5 _ rfl
     have e6_ : wr.cell? ⟨gb, off + j * 13 + 6, none⟩ = some (.bool x.r.2.2.1) := hce 6 _ rfl
     have e7_ : wr.cell? ⟨gb, off + j * 13 + 7, none⟩ = some (.bool x.r.2.2.2) := hce 7 _ rfl
     have e8_ : wr.cell? ⟨gb, off + j * 13 + 8, none⟩ = some (.int .i64 x.q.1) := hce 8 _ rfl
     have e9_ : wr.cell? ⟨gb, off + j * 13 + 9, none⟩ = some (.int .i64 x.q.2.1) := hce 9 _ rfl
     have e10_ : wr.cell? ⟨gb, off + j * 13 + 10, none⟩ = some (.bool x.q.2.2.1) := hce 10 _ rfl
     have e11_ : wr.cell? ⟨gb, off + j * 13 + 11, none⟩ = some (.bool x.q.2.2.2) := hce 11 _ rfl
     have e12_ : wr.cell? ⟨gb, off + j * 13 + 12, none⟩ = some (.slice pp ln' cl') := hce 12 _ rfl
     clear hI hx1 hLx hce hcl hln'
     by_cases k5 : x.k = 5
     · have c1 := fun W => ron_any x.r.1 x.r.2.1 x.r.2.2.1 x.r.2.2.2 W
       have c2 := fun W => ron_any x.q.1 x.q.2.1 x.q.2.2.1 x.q.2.2.2 W
       have HY : Hid (argT n x = (inB x.r.1 x.r.2.1 && inB x.q.1 x.q.2.1)) := by show _ = _; unfold argT; rw [if_pos k5]
       have x5 : (x.k == 5) = true := by rw [k5]; rfl
       clear k5
       cases h1 : inB x.r.1 x.r.2.1
       · rw [h1] at c1 HY
         clear h1
         have HG : Hid ((argT n) x = false) := HY.out
         go_wp2_with fail
         refine (c1 _).mono ?_
         rintro e w1 ⟨rfl, E1⟩
         have HE1 : Hid (Ext W w1) := (HE.out.1.alloc _).trans E1
         clear E1 k0 k1 k2 k3 k4 k5 k6 k7 k8 k9 k10 k11 k12 e0_ e1_ e2_ e3_ e4_ e5_ e6_ e7_ e8_ e9_ e10_ e11_ e12_
         have HR : Hid (t.l.all (argT n) = false) := by
           show _ = _
           rw [List.all_eq_false]
           exact ⟨x, List.mem_of_getElem? HX1.out, by rw [HG.out]; simp⟩
         go_wp2_with fail
         go_ret
         exact ⟨ret_bool (by rw [HX.out, HR.out]; try simp), HE1.out⟩
       · rw [h1] at c1 HY
         clear h1
         go_wp2_with fail
         refine (c1 _).mono ?_
         rintro e w1 ⟨rfl, E1⟩
         have HE1 : Hid (Ext W w1) := (HE.out.1.alloc _).trans E1
         have HB1 : Hid (BlkX w1 W.heap.size t (.slice (some ⟨gb, off, none⟩) ln cl)) := HBX.out.ext (((Ext.refl _).alloc _).trans E1)
         obtain ⟨qx, ⟨x0, x1, x2, x3, x4, x5, x6, x7, x8, x9, x10, x11, x12⟩, gx⟩ := blk13_top (b := wr.heap.size) rfl E1
         clear E1 gx k0 k1 k2 k3 k4 k5 k6 k7 k8 k9 k10 k11 k12 e0_ e1_ e2_ e3_ e4_ e5_ e6_ e7_ e8_ e9_ e10_ e11_ e12_
         cases h2 : inB x.q.1 x.q.2.1
         · rw [h2] at c2 HY
           clear h2
           have HG : Hid ((argT n) x = false) := HY.out
           go_wp2_with fail
           refine (c2 _).mono ?_
           rintro e w2 ⟨rfl, E2⟩
           have HE2 : Hid (Ext W w2) := HE1.out.trans E2
           clear E2
           have HR : Hid (t.l.all (argT n) = false) := by
             show _ = _
             rw [List.all_eq_false]
             exact ⟨x, List.mem_of_getElem? HX1.out, by rw [HG.out]; simp⟩
           go_wp2_with fail
           go_ret
           exact ⟨ret_bool (by rw [HX.out, HR.out]; try simp), HE2.out⟩
         · rw [h2] at c2 HY
           clear h2
           have HG : Hid ((argT n) x = true) := HY.out
           go_wp2_with fail
           refine (c2 _).mono ?_
           rintro e w2 ⟨rfl, E2⟩
           have HE2 : Hid (Ext W w2) := HE1.out.trans E2
           have HB2 : Hid (BlkX w2 W.heap.size t (.slice (some ⟨gb, off, none⟩) ln cl)) := HB1.out.ext E2
           clear E2
           have HR : Hid ((t.l.take (j + 1)).all (argT n) = true) := by show _ = _; rw [allx_take9 HX1.out, HE.out.2, HG.out]; rfl
           go_wp2_with fail
           go_roundw
           case rel => exact ⟨j + 1, by omega, by go_num, HR.out, HB2.out, HE2.out⟩
           case measure => show ln - ((j : Int) + 1).toNat < ln - ((j : Int)).toNat; omega
     · have x5 : (x.k == 5) = false := by simpa using k5
       have HK5 : Hid (¬ x.k = 5) := k5
       clear k5
       go_wp2_with fail
       refine (HCW.out _ ((Ext.refl _).alloc _)).mono ?_
       rintro e w1 ⟨rfl, E1⟩
       have HE1 : Hid (Ext W w1) := (HE.out.1.alloc _).trans E1
       have HB1 : Hid (BlkX w1 W.heap.size t (.slice (some ⟨gb, off, none⟩) ln cl)) := HBX.out.ext (((Ext.refl _).alloc _).trans E1)
       clear E1 k0 k1 k2 k3 k4 k5 k6 k7 k8 k9 k10 k11 k12 e0_ e1_ e2_ e3_ e4_ e5_ e6_ e7_ e8_ e9_ e10_ e11_ e12_
       cases hgx : wellT n x
       · have HG : Hid ((argT n) x = false) := by show _ = _; unfold argT; rw [if_neg HK5.out]; exact hgx
         clear hgx
         have HR : Hid (t.l.all (argT n) = false) := by
           show _ = _
           rw [List.all_eq_false]
           exact ⟨x, List.mem_of_getElem? HX1.out, by rw [HG.out]; simp⟩
         go_wp2_with fail
         go_ret
         exact ⟨ret_bool (by rw [HX.out, HR.out]; try simp), HE1.out⟩
       · have HG : Hid ((argT n) x = true) := by show _ = _; unfold argT; rw [if_neg HK5.out]; exact hgx
         clear hgx
         have HR : Hid ((t.l.take (j + 1)).all (argT n) = true) := by show _ = _; rw [allx_take9 HX1.out, HE.out.2, HG.out]; rfl
         go_wp2_with fail
         go_roundw
         case rel => exact ⟨j + 1, by omega, by go_num, HR.out, HB1.out, HE1.out⟩
         case measure => show ln - ((j : Int) + 1).toNat < ln - ((j : Int)).toNat; omega
   · have hltI : ¬ (j : Int) < (ln : Int) := by omega
     have HR : Hid (t.l.all (argT n) = true) := by
       show _ = _
       have := HE.out.2
       rw [List.take_of_length_le (by have := HLN.out; omega)] at this
       exact this
     go_wp2_with fail
     go_ret
     exact ⟨ret_bool (by rw [HX.out, HR.out]; try rfl), HE.out.1⟩
theorem rwell_any (P : Nat → Prop) (n : Nat) (t : T) (h : Hr n t) : ATr 6 P (wellT n) t := by
 induction n generalizing t with
 | zero => cases h
 | succ n ih =>
   have hx : ∀ x ∈ t.l, ATr 6 P (wellT n) x := fun x hx => ih x (h.2 x hx)
   by_cases k6 : t.k = 6
   · exact rwell_neg P n t k6 h.1 hx
   by_cases k7 : t.k = 7
   · exact rwell_bin P n t k7 h.1 hx
   by_cases k8 : t.k = 8
   · exact rwell_call P n t k8 h.1 hx
   exact rwell_leaf P n t k6 k7 k8
end Go.Proofs.YtffgidihaggpbaaGreatDoor

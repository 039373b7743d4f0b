/-
 Lists of trees that the call makes; the contract of arguments.
 The contract of word, and of the closure in it.
-/
import Derived.Test.YtcggiljlilbdfaaGreatDoorQ20
import Derived.Test.YtcggiljlilbdfaaGreatDoorQ14
namespace Go.Proofs.YtcggiljlilbdfaaGreatDoor
open Go.RowKit
set_option maxHeartbeats 6000000

def flatX (ps : List (T × Value)) : List Value := ps.flatMap fun p => cellsT p.1 p.2
theorem flatX_append (a b : List (T × Value)) : flatX (a ++ b) = flatX a ++ flatX b := by unfold flatX; rw [List.flatMap_append]
theorem cellsT_length (t : T) (lv : Value) : (cellsT t lv).length = 13 := rfl
theorem flatX_length (a : List (T × Value)) : (flatX a).length = a.length * 13 := by
 induction a with
 | nil => rfl
 | cons p r ih =>
   have : flatX (p :: r) = cellsT p.1 p.2 ++ flatX r := rfl
   rw [this, List.length_append, ih, cellsT_length, List.length_cons]; omega
theorem flatX_at : ∀ (a : List (T × Value)) (i j : Nat) (p : T × Value) (u : Value), a[i]? = some p → (cellsT p.1 p.2)[j]? = some u → (flatX a)[i * 13 + j]? = some u
 | [], _, _, _, _, h, _ => by simp at h
 | q :: r, 0, j, p, u, h, hu => by
   simp at h; subst h
   have : flatX (q :: r) = cellsT q.1 q.2 ++ flatX r := rfl
   rw [this, Nat.zero_mul, Nat.zero_add, List.getElem?_append_left (List.getElem?_eq_some_iff.mp hu).1]; exact hu
 | q :: r, i + 1, j, p, u, h, hu => by
   have ih := flatX_at r i j p u (by simpa using h) hu
   have : flatX (q :: r) = cellsT q.1 q.2 ++ flatX r := rfl
   rw [this, List.getElem?_append_right (by rw [cellsT_length]; omega), cellsT_length, show (i + 1) * 13 + j - 13 = i * 13 + j by omega]; exact ih
theorem info_x : ∃ i, Tryz.prog.info? 29 = some i ∧ i.zero = some (.agg #[.int .i64 0, .int .i64 0, .string ⟨#[]⟩, .int .i64 0, .int .i64 0, .int .i64 0, .bool false, .bool false, .int .i64 0, .int .i64 0, .bool false, .bool false, .slice none 0 0]) ∧ i.size = 13 ∧ i.bytes = 112 := by
 have h2 : (Tryz.prog.info? 29).bind (fun i => i.zero) = some (.agg #[.int .i64 0, .int .i64 0, .string ⟨#[]⟩, .int .i64 0, .int .i64 0, .int .i64 0, .bool false, .bool false, .int .i64 0, .int .i64 0, .bool false, .bool false, .slice none 0 0]) := by kernel_rfl
 have h3 : (Tryz.prog.info? 29).map (fun i => (i.size, i.bytes)) = some (13, 112) := by kernel_rfl
 cases h : Tryz.prog.info? 29 with
 | none => rw [h] at h2; cases h2
 | some i =>
   rw [h] at h2 h3
   simp at h2 h3
   exact ⟨i, rfl, h2, h3.1, h3.2⟩
/-- v holds the trees ps in a block of the call's own, from base on; what they hang on lies in other blocks. -/
def OwX (w : World) (base : Nat) (v : Value) (ps : List (T × Value)) : Prop := w.ownsRow base 29 13 v ps.length (flatX ps) ∧ ∀ p ∈ ps, IsL w (fun k => base ≤ k ∧ v.ownBlock ≠ some k) p.2 p.1.l
theorem OwX.isL {w : World} {base : Nat} {v : Value} {ps : List (T × Value)} (h : OwX w base v ps) : IsL w (base ≤ ·) v (ps.map Prod.fst) := by
 obtain ⟨⟨_, h1⟩, h2⟩ := h
 rcases h1 with ⟨h1, h0⟩ | ⟨g, cap, cur, h1, h3, h4, h5, h6, h7, h8⟩
 · have : ps = [] := List.eq_nil_of_length_eq_zero h0
   subst this h1
   exact .nil
 · subst h1
   refine .mk g 0 cap ps.length _ (fun i => match ps[i]? with | some p => p.2 | none => .slice none 0 0) (by simp) h5 h3 (heap_lt h4) ?_ ?_
   · intro i t j u hi hj
     rw [List.getElem?_map, Option.map_eq_some_iff] at hi
     obtain ⟨p, hp, rfl⟩ := hi
     simp only [hp] at hj
     have k := flatX_at ps i j p u hp hj
     have hj13 : i * 13 + j < (flatX ps).length := (List.getElem?_eq_some_iff.mp k).1
     rw [flatX_length] at hj13
     rw [cell_of_row w g _ cur _ (0, 0) h4, Nat.zero_add, ← Array.getElem?_toList]
     rw [← h8, List.getElem?_take, if_pos (by omega)] at k
     exact k
   · intro i t hi
     rw [List.getElem?_map, Option.map_eq_some_iff] at hi
     obtain ⟨p, hp, rfl⟩ := hi
     simp only [hp]
     exact (h2 p (List.mem_of_getElem? hp)).mono (fun k hk _ => hk.1)
theorem OwX.far {w : World} {base : Nat} {v : Value} {ps : List (T × Value)} (h : OwX w base v ps) {b : Nat} (hb : b < base) : v.ownBlock ≠ some b := by
 rcases h.1.2 with ⟨h1, h2⟩ | ⟨g, cap, cur, h1, h2, h3⟩
 · rw [h1]; simp [Value.ownBlock]
 · rw [h1]; simp [Value.ownBlock]; omega
theorem OwX.extB {b base : Nat} {w w' : World} {v : Value} {ps : List (T × Value)} (h : OwX w base v ps) (e : ExtB b w w') (hb : b < base) : OwX w' base v ps := by
 refine ⟨⟨h.1.1, ?_⟩, fun p hp => (h.2 p hp).extB e (fun k hk => by omega)⟩
 rcases h.1.2 with h2 | ⟨g, cap, cur, h1, h2, h3, h4⟩
 · exact .inl h2
 · exact .inr ⟨g, cap, cur, h1, h2, (e.block g (heap_lt h3) (by omega)).trans h3, h4⟩
/-- One tree in a new block. -/
theorem OwX.one {W W' : World} {base : Nat} {x : T} {pp : Option Addr} {ln cl : Nat} (hb : base ≤ W.heap.size) (hL : IsL W (base ≤ ·) (.slice pp ln cl) x.l) (hW : W' = W.alloc (.cells #[.int .i64 x.k, .int .i64 x.n, .string (bs x.s), .int .i64 x.e, .int .i64 x.r.1, .int .i64 x.r.2.1, .bool x.r.2.2.1, .bool x.r.2.2.2, .int .i64 x.q.1, .int .i64 x.q.2.1, .bool x.q.2.2.1, .bool x.q.2.2.2, .slice pp ln cl] 29)) : OwX W' base (.slice (some ⟨W.heap.size, 0, none⟩) 1 1) [(x, .slice pp ln cl)] := by
 subst hW
 refine ⟨⟨rfl, .inr ⟨W.heap.size, 1, #[.int .i64 x.k, .int .i64 x.n, .string (bs x.s), .int .i64 x.e, .int .i64 x.r.1, .int .i64 x.r.2.1, .bool x.r.2.2.1, .bool x.r.2.2.2, .int .i64 x.q.1, .int .i64 x.q.2.1, .bool x.q.2.2.1, .bool x.q.2.2.2, .slice pp ln cl], rfl, hb, ?_, Nat.le_refl _, by unfold maxLen; omega, rfl, rfl⟩⟩, ?_⟩
 · show (W.heap.push _)[W.heap.size]? = _; simp
 · intro p hp
   simp at hp; subst hp
   exact (hL.mono (P' := fun k => base ≤ k ∧ (Value.slice (some ⟨W.heap.size, 0, none⟩) 1 1).ownBlock ≠ some k) (fun k hk hs => ⟨hk, by simp [Value.ownBlock]; omega⟩)).ext ((Ext.refl _).alloc _)
/-- append of one tree that lies in a new block, at the operation. -/
theorem x_append {ops : Array Oper} {rest : List Oper} {o : Oper} {a : Act} {Q : Exit → Act → World → Prop} (W : World) (base : Nat) (s y : Operand) (v : Value) (b : Nat) (ps : List (T × Value)) (x : T) (pp : Option Addr) (ln cl : Nat) (hgd : o.guard = none)
   (ho : o.op = .call { callee := .builtin .append, args := #[s, y], argTypes := #[27, 27] })
   (hs : a.eval s = v) (hx : a.eval y = .slice (some ⟨b, 0, none⟩) 1 1) (hB : OwX W base v ps) (hL : IsL W (fun k => base ≤ k ∧ v.ownBlock ≠ some k) (.slice pp ln cl) x.l)
   (hR : ∀ j u, (cellsT x (.slice pp ln cl))[j]? = some u → W.cell? ((⟨b, 0, none⟩ : Addr).add j) = some u) (hlen : ps.length ≤ 100000) (hbase : base ≤ W.heap.size)
   (h : ∀ v' W', OwX W' base v' (ps ++ [(x, .slice pp ln cl)]) → W.grownBy W' v.ownBlock → (∃ g cap, v' = .slice (some ⟨g, 0, none⟩) (ps.length + 1) cap) → wpList Tryz.prog ops Q rest (a.put o.dst v') W') : wpList Tryz.prog ops Q (o :: rest) a W := by
 obtain ⟨i, hi, hz, h1, h2⟩ := info_x
 refine wpList_append_own_at W hgd s y 27 ho base 29 i _ 13 112 Tryz.underlying27 hi hz h1 h2 rfl (by decide) v ps.length (flatX ps) hs hB.1 ⟨b, 0, none⟩ 1 1 (cellsT x (.slice pp ln cl)) hx rfl hR ?_ (by unfold maxLen; omega) (by omega) hbase ?_
 · intro u hu
   simp [cellsT] at hu
   rcases hu with rfl | rfl | rfl | rfl | rfl | rfl | rfl | rfl | rfl | rfl | rfl | rfl | rfl <;> rfl
 intro v' W' h3 h4 h5 h6
 have hsz : ∀ k, k < W.heap.size → v.ownBlock ≠ some k → v'.ownBlock ≠ some k := by
   intro k hk hv
   rcases h6 with h6 | h6
   · rw [h6]; exact hv
   · rw [h6]; simp; omega
 have hk : ∀ (y : Value) (l : List T), IsL W (fun k => base ≤ k ∧ v.ownBlock ≠ some k) y l → IsL W' (fun k => base ≤ k ∧ v'.ownBlock ≠ some k) y l := fun y l hy =>
   hy.keep h4.size (fun k hk hs => h4.block k hs (fun e => hk.2 e.symm)) (fun k hk hs => ⟨hk.1, hsz k hs hk.2⟩)
 have hO : OwX W' base v' (ps ++ [(x, .slice pp ln cl)]) := by
   refine ⟨?_, ?_⟩
   · rw [List.length_append, flatX_append]
     exact h3
   · intro p hp
     rcases List.mem_append.1 hp with hp | hp
     · exact hk _ _ (hB.2 p hp)
     · simp at hp; subst hp; exact hk _ _ hL
 refine h v' W' hO h4 ?_
 rcases h3.2 with ⟨_, h0⟩ | ⟨g, cap, cur, hv, _⟩
 · omega
 · exact ⟨g, cap, hv⟩
theorem grownB {b : Nat} {w W W' : World} {base : Nat} {v : Value} {ps : List (T × Value)} (h : W.grownBy W' v.ownBlock) (hB : OwX W base v ps) (hE : ExtB b w W) (hb : w.heap.size ≤ base) : ExtB b w W' := by
 refine ⟨h.os.trans hE.os, h.tape.trans hE.tape, h.output.trans hE.output, Nat.le_trans hE.size h.size, fun k hk hkb => ?_⟩
 exact (h.block k (Nat.lt_of_lt_of_le hk hE.size) (fun e => hB.far (Nat.lt_of_lt_of_le hk hb) e.symm)).trans (hE.block k hk hkb)
theorem Stt.grown {w0 W W' : World} {b d base : Nat} {ts : List Tk} {v : Value} {ps : List (T × Value)} (hS : Stt w0 b W ts d) (h : W.grownBy W' v.ownBlock) (hB : OwX W base v ps) (hb : b < base) (h0 : w0.heap.size ≤ base) : Stt w0 b W' ts d := by
 obtain ⟨h1, h2, h3, h4, h5', h6, h7, tb, off, c, h8, h9, h10, h11, h12⟩ := hS
 have k := fun o => (World.cell?_of_block (a := ⟨b, o, none⟩) (h.block b h3 (fun e => hB.far hb e.symm)))
 have f := fun o => (World.frozen?_of_block (a := ⟨b, o, none⟩) (h.block b h3 (fun e => hB.far hb e.symm)))
 refine ⟨⟨h.os.trans h1.os, h.tape.trans h1.tape, h.output.trans h1.output, Nat.le_trans h1.size h.size, fun i hi => ?_⟩, h2, Nat.lt_of_lt_of_le h3 h.size, h4, h5', h6, h7, tb, off, c, h8, (k 0).trans h9, (f 0).trans h10, (k 1).trans h11, (f 1).trans h12⟩
 exact (h.block i (Nat.lt_of_lt_of_le hi h1.size) (fun e => hB.far (Nat.lt_of_lt_of_le hi h0) e.symm)).trans (h1.block i hi)
/-- What a reading of a list answers. -/
def PL (w0 : World) (b : Nat) (w : World) (d : Nat) (r : Except Ft (List T × List Tk)) (e : Ending) (w' : World) : Prop := match r with
 | .ok a => (∃ v, e = .returned v ∧ IsL w' (w.heap.size ≤ ·) v a.1) ∧ Stt w0 b w' a.2 d ∧ ExtB b w w'
 | .error f => e = pft f ∧ ExtB b w w'
def left (b : Nat) (w : World) : Nat := match w.cell? ⟨b, 0, none⟩ with
 | some (.slice _ n _) => n
 | _ => 0
theorem Stt.left {w0 w : World} {b d : Nat} {ts : List Tk} (h : Stt w0 b w ts d) : left b w = ts.length := by
 obtain ⟨tb, off, cc, b0, _⟩ := h.get
 unfold Go.Proofs.YtcggiljlilbdfaaGreatDoor.left; rw [b0]
set_option maxRecDepth 100000 in
theorem arguments_any (w0 : World) (b d n la lb : Nat) (F : Rd) (ts : List Tk) (w : World) (hla : la ≤ 20) (hlb : lb ≤ 20) (hF : RdF w0 b n F 27) (hsh : ShF n F) (hT : Tab w0) (h : Stt w0 b w ts d) (hn : ts.length ≤ n) :
   Calls Tryz.prog 153 #[.pointer (some ⟨b, 0, none⟩), .int .i64 (la : Int), .int .i64 (lb : Int)] w (PL w0 b w d (args F la lb d ts)) := by
 have h3 := h.2.2.1
 have HS : Hid (Stt w0 b w ts d) := h
 have HZ : Hid (w0.heap.size ≤ w.heap.size) := h.1.sz
 have HN : Hid (ts.length ≤ n) := hn
 have HSH : Hid (ShF n F) := hsh
 have HA : Hid (∀ W us, Stt w0 b W us d → us.length ≤ n → Calls Tryz.prog 165 #[.pointer (some ⟨b, 0, none⟩)] W (PR w0 b W d (argm F d us))) := fun W us hS hu => argument_any w0 b d n F us W hF hT hS hu
 have c1 := HA.out w ts h hn
 clear h hF hsh hT hn
 go_enter Tryz.func153, Tryz.ntmps153
 go_wp2_with fail
 refine c1.mono ?_
 intro e w1 h1
 clear c1
 rcases h1.cases with ⟨f, hr, rfl, E1⟩ | ⟨x, ts1, pp, ln, cl, hr, rfl, hL, S1, E1⟩
 · have : args F la lb d ts = .error f := by rw [args_eq, hr]; rfl
   rw [this]
   exact ⟨rfl, rfl, E1⟩
 · have HX : Hid (args F la lb d ts = argl F la lb d ts1.length [x] ts1) := by show _ = _; rw [args_eq, hr]; rfl
   have HR1 : Hid (ts1.length < ts.length ∧ ts1.length ≤ n) := by have := argm_sh HSH.out d ts HS.out.2.2.2.1 HN.out _ _ hr; have := this.2; have := HN.out; exact ⟨by omega, by omega⟩
   have HL : Hid (IsL w1 (w.heap.size ≤ ·) (.slice pp ln cl) x.l ∧ Stt w0 b w1 ts1 d ∧ ExtB b w w1) := ⟨hL, S1, E1⟩
   clear h1 hr hL S1 E1
   unfold aggX
   go_wp2_with fail
   go_loopw [7] (fun xv wr => ∃ (g cap : Nat) (ps : List (T × Value)) (us : List Tk) (f : Nat), xv = .slice (some ⟨g, 0, none⟩) ps.length cap ∧ OwX wr w.heap.size xv ps ∧ Stt w0 b wr us d ∧ ExtB b w wr ∧ us.length ≤ f ∧ us.length ≤ n ∧ ps.length ≤ 20 ∧ args F la lb d ts = argl F la lb d f (ps.map Prod.fst) us) (fun _ wr => left b wr)
   case atStart =>
     refine ⟨w1.heap.size, 1, [(x, .slice pp ln cl)], ts1, ts1.length, rfl, OwX.one HL.out.2.2.size HL.out.1 rfl, HL.out.2.1.ext ((Ext.refl _).alloc _), HL.out.2.2.alloc _, Nat.le_refl _, HR1.out.2, by simp, HX.out⟩
   case round =>
     obtain ⟨g, cap, ps, us, f, rfl, hO, hS, hE, hf, hun, hp20, hA⟩ := hrel
     have HO : Hid (OwX wr w.heap.size (.slice (some ⟨g, 0, none⟩) ps.length cap) ps ∧ Stt w0 b wr us d ∧ ExtB b w wr) := ⟨hO, hS, hE⟩
     have HU : Hid (us.length ≤ f ∧ us.length ≤ n ∧ 1 ≤ us.length) := ⟨hf, hun, hS.2.2.2.1.pos⟩
     have HAR : Hid (args F la lb d ts = argl F la lb d f (ps.map Prod.fst) us) := hA
     have HM : Hid (left b wr = us.length) := hS.left
     have cS := isSign_any w0 b d us ⟨#[44]⟩ wr hS
     have e44 : (⟨#[44]⟩ : ByteArray).data.toList = [44] := rfl
     rw [e44] at cS
     have HPL : Hid ((ps.map Prod.fst).length = ps.length) := List.length_map _
     obtain ⟨pl, hpl⟩ : ∃ pl, ps.length = pl := ⟨_, rfl⟩
     have HP : Hid (ps.length = pl) := hpl
     have HB3 : Hid (b < w.heap.size) := h3
     rw [hpl] at hp20
     clear hO hS hE hf hun hA e44 HX HR1 HL
     by_cases hca : ps.length < la
     · have hcI : (pl : Int) < (la : Int) := by omega
       have HCC : Hid ((ps.map Prod.fst).length < la ∨ (ps.map Prod.fst).length < lb ∧ isSg [44] us = true) := .inl (by rw [HPL.out]; exact hca)
       clear cS hca
       rw [hpl]
       clear hpl
       go_wp2_with fail
       obtain ⟨f, rfl⟩ : ∃ g, f = g + 1 := ⟨f - 1, by have := HU.out; omega⟩
       have c2 := pass_any w0 b d us ⟨#[44]⟩ wr HO.out.2.1
       have e44 : (⟨#[44]⟩ : ByteArray).data.toList = [44] := rfl
       rw [e44] at c2
       clear e44
       cases hp : pass1 [44] d us with
       | error x =>
         rw [hp] at c2
         refine c2.mono ?_
         rintro e w2 ⟨rfl, E2⟩
         have hX : args F la lb d ts = .error x := by rw [HAR.out, argl_eq _ _ _ _ _ _ _ HCC.out, hp]; rfl
         exact ⟨rfl, (by rw [hX]; exact ⟨rfl, HO.out.2.2.trans E2⟩ : PL w0 b w d (args F la lb d ts) (pft x) w2)⟩
       | ok us1 =>
         have s1 := pass1_sh HO.out.2.1.2.2.2.1 hp
         rw [hp] at c2
         have HX1 : Hid (args F la lb d ts = (argm F d us1).bind fun y => argl F la lb d f (ps.map Prod.fst ++ [y.1]) y.2) := by show _ = _; rw [HAR.out, argl_eq _ _ _ _ _ _ _ HCC.out, hp]; rfl
         have HS1 : Hid (Nz us1 ∧ us1.length < us.length) := s1
         clear hp s1
         refine c2.mono ?_
         rintro e w2 ⟨rfl, S2, E2⟩
         clear c2
         have HO2 : Hid (OwX w2 w.heap.size (.slice (some ⟨g, 0, none⟩) ps.length cap) ps ∧ Stt w0 b w2 us1 d ∧ ExtB b w w2) := ⟨HO.out.1.extB E2 HB3.out, S2, HO.out.2.2.trans E2⟩
         have c3 := HA.out w2 us1 S2 (by have := HS1.out.2; have := HU.out; omega)
         clear S2 E2
         go_wp2_with fail
         refine c3.mono ?_
         intro e w3 h3'
         clear c3
         rcases h3'.cases with ⟨fl, hr, rfl, E3⟩ | ⟨y, us2, qq, lm, cm, hr, rfl, hL, S3, E3⟩
         · have hX : args F la lb d ts = .error fl := by rw [HX1.out, hr]; rfl
           exact ⟨rfl, (by rw [hX]; exact ⟨rfl, HO2.out.2.2.trans E3⟩ : PL w0 b w d (args F la lb d ts) (pft fl) w3)⟩
         · have s2 := argm_sh HSH.out d us1 HS1.out.1 (by have := HS1.out.2; have := HU.out; omega) _ _ hr
           have HX2 : Hid (args F la lb d ts = argl F la lb d f ((ps ++ [(y, Value.slice qq lm cm)]).map Prod.fst) us2) := by show _ = _; rw [HX1.out, hr, List.map_append]; rfl
           have HS2 : Hid (us2.length < us.length) := by show _ < _; have := s2.2; have := HS1.out.2; omega
           have HO3 : Hid (OwX w3 w.heap.size (.slice (some ⟨g, 0, none⟩) ps.length cap) ps ∧ Stt w0 b w3 us2 d ∧ ExtB b w w3) := ⟨HO2.out.1.extB E3 HB3.out, S3, HO2.out.2.2.trans E3⟩
           have hgw2 : g < w2.heap.size := by
             rcases HO2.out.1.1.2 with ⟨q1, _⟩ | ⟨g', cap', cur, q1, _, q3, _⟩
             · cases q1
             · cases q1; exact heap_lt q3
           have HL3 : Hid (IsL w3 (fun k => w.heap.size ≤ k ∧ (Value.slice (some ⟨g, 0, none⟩) ps.length cap).ownBlock ≠ some k) (.slice qq lm cm) y.l) := hL.mono (fun k hk hs => ⟨by have := HO2.out.2.2.size; omega, by simp [Value.ownBlock]; omega⟩)
           clear h3' hr hL S3 E3 s2
           have hw3 : w.heap.size ≤ w3.heap.size := HO3.out.2.2.size
           have HW3 : Hid (w.heap.size ≤ w3.heap.size) := hw3
           unfold aggX
           go_wp2_with (at_builtin; refine x_append _ w.heap.size _ _ _ w3.heap.size ps y qq lm cm rfl rfl (by rfl) (by rfl) (by rw [← HP.out]; exact HO3.out.1.extB (((Ext.refl _).alloc _).toB b) HB3.out) (by rw [← HP.out]; exact HL3.out.ext ((Ext.refl _).alloc _)) ?cR (by rw [HP.out]; omega) (by simp; have := HW3.out; omega) ?_)
           case cR =>
             intro j u hu
             rw [Addr.add_lit, cell_of_row _ _ _ _ _ (0, 0) (new_top w3 _), Nat.zero_add]
             rw [← hu, ← Array.getElem?_toList]; rfl
           intro v' w4 k1 k2 g4 cap4 hv4
           subst hv4
           have HB4 : Hid (OwX (w3.alloc (.cells #[.int .i64 y.k, .int .i64 y.n, .string (bs y.s), .int .i64 y.e, .int .i64 y.r.1, .int .i64 y.r.2.1, .bool y.r.2.2.1, .bool y.r.2.2.2, .int .i64 y.q.1, .int .i64 y.q.2.1, .bool y.q.2.2.1, .bool y.q.2.2.2, .slice qq lm cm] 29)) w.heap.size (.slice (some ⟨g, 0, none⟩) ps.length cap) ps) := HO3.out.1.extB (((Ext.refl _).alloc _).toB b) HB3.out
           rw [← HP.out] at k2
           have HG : Hid (OwX w4 w.heap.size (.slice (some ⟨g4, 0, none⟩) (ps.length + 1) cap4) (ps ++ [(y, .slice qq lm cm)]) ∧ Stt w0 b w4 us2 d ∧ ExtB b w w4) := ⟨k1, (HO3.out.2.1.ext ((Ext.refl _).alloc _)).grown k2 HB4.out HB3.out HZ.out, grownB k2 HB4.out (HO3.out.2.2.alloc _) (Nat.le_refl _)⟩
           clear k1 k2 HB4
           go_wp2_with fail
           go_roundw
           case rel =>
             have q1 := HU.out
             have q2 := HS2.out
             refine ⟨g4, cap4, ps ++ [(y, .slice qq lm cm)], us2, f, ?_, ?_, HG.out.2.1, HG.out.2.2, by omega, by omega, ?_, HX2.out⟩
             · rw [List.length_append]; rfl
             · exact HG.out.1
             · have q3 := HCC.out; rw [HPL.out] at q3; rw [List.length_append]; simp; omega
           case measure =>
             rw [HG.out.2.1.left, HM.out]
             exact HS2.out
     · have hcI : ¬ (pl : Int) < (la : Int) := by omega
       by_cases hcb : ps.length < lb
       · have hcJ : (pl : Int) < (lb : Int) := by omega
         cases hsg : isSg [44] us
         · rw [hsg] at cS
           have HCC : Hid (¬ ((ps.map Prod.fst).length < la ∨ (ps.map Prod.fst).length < lb ∧ isSg [44] us = true)) := by show ¬ _; rw [HPL.out, hsg]; simp; omega
           clear hca hcb hsg
           rw [hpl]
           clear hpl
           go_wp2_with fail
           refine cS.mono ?_
           rintro e w2 ⟨rfl, E2⟩
           clear cS
           go_wp2_with fail
           obtain ⟨f, rfl⟩ : ∃ g, f = g + 1 := ⟨f - 1, by have := HU.out; omega⟩
           have hX : args F la lb d ts = .ok (ps.map Prod.fst, us) := by rw [HAR.out, argl, if_neg HCC.out]
           rw [hX]
           go_ret
           exact ⟨⟨_, rfl, by rw [← HP.out]; exact (HO.out.1.extB (E2.toB b) HB3.out).isL⟩, HO.out.2.1.ext E2, HO.out.2.2.trans (E2.toB b)⟩
         · rw [hsg] at cS
           have HCC : Hid ((ps.map Prod.fst).length < la ∨ (ps.map Prod.fst).length < lb ∧ isSg [44] us = true) := .inr ⟨by rw [HPL.out]; exact hcb, hsg⟩
           clear hca hcb hsg
           rw [hpl]
           clear hpl
           go_wp2_with fail
           refine cS.mono ?_
           rintro e wq ⟨rfl, Eq⟩
           clear cS
           have HO : Hid (OwX wq w.heap.size (.slice (some ⟨g, 0, none⟩) ps.length cap) ps ∧ Stt w0 b wq us d ∧ ExtB b w wq) := ⟨HO.out.1.extB (Eq.toB b) HB3.out, HO.out.2.1.ext Eq, HO.out.2.2.trans (Eq.toB b)⟩
           clear Eq
           go_wp2_with fail
           obtain ⟨f, rfl⟩ : ∃ g, f = g + 1 := ⟨f - 1, by have := HU.out; omega⟩
           have c2 := pass_any w0 b d us ⟨#[44]⟩ wq HO.out.2.1
           have e44 : (⟨#[44]⟩ : ByteArray).data.toList = [44] := rfl
           rw [e44] at c2
           clear e44
           cases hp : pass1 [44] d us with
           | error x =>
             rw [hp] at c2
             refine c2.mono ?_
             rintro e w2 ⟨rfl, E2⟩
             have hX : args F la lb d ts = .error x := by rw [HAR.out, argl_eq _ _ _ _ _ _ _ HCC.out, hp]; rfl
             exact ⟨rfl, (by rw [hX]; exact ⟨rfl, HO.out.2.2.trans E2⟩ : PL w0 b w d (args F la lb d ts) (pft x) w2)⟩
           | ok us1 =>
             have s1 := pass1_sh HO.out.2.1.2.2.2.1 hp
             rw [hp] at c2
             have HX1 : Hid (args F la lb d ts = (argm F d us1).bind fun y => argl F la lb d f (ps.map Prod.fst ++ [y.1]) y.2) := by show _ = _; rw [HAR.out, argl_eq _ _ _ _ _ _ _ HCC.out, hp]; rfl
             have HS1 : Hid (Nz us1 ∧ us1.length < us.length) := s1
             clear hp s1
             refine c2.mono ?_
             rintro e w2 ⟨rfl, S2, E2⟩
             clear c2
             have HO2 : Hid (OwX w2 w.heap.size (.slice (some ⟨g, 0, none⟩) ps.length cap) ps ∧ Stt w0 b w2 us1 d ∧ ExtB b w w2) := ⟨HO.out.1.extB E2 HB3.out, S2, HO.out.2.2.trans E2⟩
             have c3 := HA.out w2 us1 S2 (by have := HS1.out.2; have := HU.out; omega)
             clear S2 E2
             go_wp2_with fail
             refine c3.mono ?_
             intro e w3 h3'
             clear c3
             rcases h3'.cases with ⟨fl, hr, rfl, E3⟩ | ⟨y, us2, qq, lm, cm, hr, rfl, hL, S3, E3⟩
             · have hX : args F la lb d ts = .error fl := by rw [HX1.out, hr]; rfl
               exact ⟨rfl, (by rw [hX]; exact ⟨rfl, HO2.out.2.2.trans E3⟩ : PL w0 b w d (args F la lb d ts) (pft fl) w3)⟩
             · have s2 := argm_sh HSH.out d us1 HS1.out.1 (by have := HS1.out.2; have := HU.out; omega) _ _ hr
               have HX2 : Hid (args F la lb d ts = argl F la lb d f ((ps ++ [(y, Value.slice qq lm cm)]).map Prod.fst) us2) := by show _ = _; rw [HX1.out, hr, List.map_append]; rfl
               have HS2 : Hid (us2.length < us.length) := by show _ < _; have := s2.2; have := HS1.out.2; omega
               have HO3 : Hid (OwX w3 w.heap.size (.slice (some ⟨g, 0, none⟩) ps.length cap) ps ∧ Stt w0 b w3 us2 d ∧ ExtB b w w3) := ⟨HO2.out.1.extB E3 HB3.out, S3, HO2.out.2.2.trans E3⟩
               have hgw2 : g < w2.heap.size := by
                 rcases HO2.out.1.1.2 with ⟨q1, _⟩ | ⟨g', cap', cur, q1, _, q3, _⟩
                 · cases q1
                 · cases q1; exact heap_lt q3
               have HL3 : Hid (IsL w3 (fun k => w.heap.size ≤ k ∧ (Value.slice (some ⟨g, 0, none⟩) ps.length cap).ownBlock ≠ some k) (.slice qq lm cm) y.l) := hL.mono (fun k hk hs => ⟨by have := HO2.out.2.2.size; omega, by simp [Value.ownBlock]; omega⟩)
               clear h3' hr hL S3 E3 s2
               have hw3 : w.heap.size ≤ w3.heap.size := HO3.out.2.2.size
               have HW3 : Hid (w.heap.size ≤ w3.heap.size) := hw3
               unfold aggX
               go_wp2_with (at_builtin; refine x_append _ w.heap.size _ _ _ w3.heap.size ps y qq lm cm rfl rfl (by rfl) (by rfl) (by rw [← HP.out]; exact HO3.out.1.extB (((Ext.refl _).alloc _).toB b) HB3.out) (by rw [← HP.out]; exact HL3.out.ext ((Ext.refl _).alloc _)) ?cR (by rw [HP.out]; omega) (by simp; have := HW3.out; omega) ?_)
               case cR =>
                 intro j u hu
                 rw [Addr.add_lit, cell_of_row _ _ _ _ _ (0, 0) (new_top w3 _), Nat.zero_add]
                 rw [← hu, ← Array.getElem?_toList]; rfl
               intro v' w4 k1 k2 g4 cap4 hv4
               subst hv4
               have HB4 : Hid (OwX (w3.alloc (.cells #[.int .i64 y.k, .int .i64 y.n, .string (bs y.s), .int .i64 y.e, .int .i64 y.r.1, .int .i64 y.r.2.1, .bool y.r.2.2.1, .bool y.r.2.2.2, .int .i64 y.q.1, .int .i64 y.q.2.1, .bool y.q.2.2.1, .bool y.q.2.2.2, .slice qq lm cm] 29)) w.heap.size (.slice (some ⟨g, 0, none⟩) ps.length cap) ps) := HO3.out.1.extB (((Ext.refl _).alloc _).toB b) HB3.out
               rw [← HP.out] at k2
               have HG : Hid (OwX w4 w.heap.size (.slice (some ⟨g4, 0, none⟩) (ps.length + 1) cap4) (ps ++ [(y, .slice qq lm cm)]) ∧ Stt w0 b w4 us2 d ∧ ExtB b w w4) := ⟨k1, (HO3.out.2.1.ext ((Ext.refl _).alloc _)).grown k2 HB4.out HB3.out HZ.out, grownB k2 HB4.out (HO3.out.2.2.alloc _) (Nat.le_refl _)⟩
               clear k1 k2 HB4
               go_wp2_with fail
               go_roundw
               case rel =>
                 have q1 := HU.out
                 have q2 := HS2.out
                 refine ⟨g4, cap4, ps ++ [(y, .slice qq lm cm)], us2, f, ?_, ?_, HG.out.2.1, HG.out.2.2, by omega, by omega, ?_, HX2.out⟩
                 · rw [List.length_append]; rfl
                 · exact HG.out.1
                 · have q3 := HCC.out; rw [HPL.out] at q3; rw [List.length_append]; simp; omega
               case measure =>
                 rw [HG.out.2.1.left, HM.out]
                 exact HS2.out
       · have hcJ : ¬ (pl : Int) < (lb : Int) := by omega
         have HCC : Hid (¬ ((ps.map Prod.fst).length < la ∨ (ps.map Prod.fst).length < lb ∧ isSg [44] us = true)) := by show ¬ _; rw [HPL.out]; rintro (h | h) <;> omega
         clear hca hcb cS
         rw [hpl]
         clear hpl
         go_wp2_with fail
         obtain ⟨f, rfl⟩ : ∃ g, f = g + 1 := ⟨f - 1, by have := HU.out; omega⟩
         have hX : args F la lb d ts = .ok (ps.map Prod.fst, us) := by rw [HAR.out, argl, if_neg HCC.out]
         rw [hX]
         go_ret
         exact ⟨⟨_, rfl, by rw [← HP.out]; exact HO.out.1.isL⟩, HO.out.2.1, HO.out.2.2⟩

open Go.RowKit
set_option maxHeartbeats 6000000

theorem PL.cases {w0 : World} {b : Nat} {w : World} {d : Nat} {r : Except Ft (List T × List Tk)} {e : Ending} {w' : World} (h : PL w0 b w d r e w') :
   (∃ f, r = .error f ∧ e = pft f ∧ ExtB b w w') ∨ (∃ l ts pp ln cl, r = .ok (l, ts) ∧ e = .returned (.slice pp ln cl) ∧ IsL w' (w.heap.size ≤ ·) (.slice pp ln cl) l ∧ Stt w0 b w' ts d ∧ ExtB b w w') := by
 cases r with
 | error f => exact .inl ⟨f, rfl, h.1, h.2⟩
 | ok a =>
   obtain ⟨l, ts⟩ := a
   obtain ⟨⟨v, h1, h2⟩, h3, h4⟩ := h
   obtain ⟨p, c, h5, _⟩ := h2.form
   subst h5
   exact .inr ⟨l, ts, p, l.length, c, rfl, h1, h2, h3, h4⟩
set_option maxRecDepth 100000 in
theorem word1_any (w0 : World) (b d n la lb : Nat) (F : Rd) (s : List UInt8) (pn pr pa pb : Nat) (ts : List Tk) (w : World) (hla : la ≤ 20) (hlb : lb ≤ 20) (hF : RdF w0 b n F 27) (hsh : ShF n F) (hT : Tab w0)
   (hn1 : w.cell? ⟨pn, 0, none⟩ = some (.string (bs s))) (hr1 : w.cell? ⟨pr, 0, none⟩ = some (.pointer (some ⟨b, 0, none⟩))) (ha1 : w.cell? ⟨pa, 0, none⟩ = some (.int .i64 (la : Int))) (hb1 : w.cell? ⟨pb, 0, none⟩ = some (.int .i64 (lb : Int)))
   (hb : (pn ≠ b ∧ pr ≠ b ∧ pa ≠ b ∧ pb ≠ b) ∧ pn < w.heap.size ∧ pr < w.heap.size ∧ pa < w.heap.size ∧ pb < w.heap.size)
   (h : Stt w0 b w ts d) (hn : ts.length ≤ n) :
   Calls Tryz.prog 152 #[.pointer (some ⟨pn, 0, none⟩), .pointer (some ⟨pr, 0, none⟩), .pointer (some ⟨pa, 0, none⟩), .pointer (some ⟨pb, 0, none⟩)] w (PR w0 b w d (call F s la lb d ts)) := by
 have h3 := h.2.2.1
 have HS : Hid (Stt w0 b w ts d) := h
 have HZ : Hid (w0.heap.size ≤ w.heap.size) := h.1.sz
 have hg0 : w.heap.size ≠ b := by omega
 have c4 : ∀ W, Stt w0 b W ts d → Calls Tryz.prog 153 #[.pointer (some ⟨b, 0, none⟩), .int .i64 (la : Int), .int .i64 (lb : Int)] W (PL w0 b W d (args F la lb d ts)) := fun W hS => arguments_any w0 b d n la lb F ts W hla hlb hF hsh hT hS hn
 have HSd : Hid (∀ W, Ext w W → Stt w0 b W ts d) := fun W e => h.ext e
 have HXe : Hid (∀ f, args F la lb d ts = .error f → call F s la lb d ts = .error f) := by intro f hr; rw [call_eq, hr]; rfl
 have HXo : Hid (∀ l us, args F la lb d ts = .ok (l, us) → call F s la lb d ts = .ok (tCall s l, us)) := by intro l us hr; rw [call_eq, hr]; rfl
 have mkS : Hid (∀ W, ExtB b w W → (W.cell? ⟨pn, 0, none⟩ = some (.string (bs s)) ∧ W.cell? ⟨pr, 0, none⟩ = some (.pointer (some ⟨b, 0, none⟩)) ∧ W.cell? ⟨pa, 0, none⟩ = some (.int .i64 (la : Int)) ∧ W.cell? ⟨pb, 0, none⟩ = some (.int .i64 (lb : Int))) ∧ ExtB b w W) := by
   obtain ⟨⟨u1, u2, u3, u4⟩, v1, v2, v3, v4⟩ := hb
   intro W e
   exact ⟨⟨((e.cell v1 u1 0).1).trans hn1, ((e.cell v2 u2 0).1).trans hr1, ((e.cell v3 u3 0).1).trans ha1, ((e.cell v4 u4 0).1).trans hb1⟩, e⟩
 have HB0 : Hid (∀ W, ExtB b (w.alloc (.cells #[.int .i64 0, .int .i64 0, .string ⟨#[]⟩, .int .i64 0, .int .i64 0, .int .i64 0, .bool false, .bool false, .int .i64 0, .int .i64 0, .bool false, .bool false, .slice none 0 0] 29)) W → BlkX W w.heap.size tz (.slice none 0 0)) := fun W e => (BlkX.top rfl (Ext.refl _)).extB e hg0
 have hE0 : ExtB b w (w.alloc (.cells #[.int .i64 0, .int .i64 0, .string ⟨#[]⟩, .int .i64 0, .int .i64 0, .int .i64 0, .bool false, .bool false, .int .i64 0, .int .i64 0, .bool false, .bool false, .slice none 0 0] 29)) := (ExtB.refl b w).alloc _
 have hsz : (w.alloc (.cells #[.int .i64 0, .int .i64 0, .string ⟨#[]⟩, .int .i64 0, .int .i64 0, .int .i64 0, .bool false, .bool false, .int .i64 0, .int .i64 0, .bool false, .bool false, .slice none 0 0] 29)).heap.size = w.heap.size + 1 := by simp
 have HSZ : Hid ((w.alloc (.cells #[.int .i64 0, .int .i64 0, .string ⟨#[]⟩, .int .i64 0, .int .i64 0, .int .i64 0, .bool false, .bool false, .int .i64 0, .int .i64 0, .bool false, .bool false, .slice none 0 0] 29)).heap.size = w.heap.size + 1) := hsz
 clear h hF hsh hT hn hn1 hr1 ha1 hb1 hb hla hlb hsz
 cases hra : args F la lb d ts with
 | error f =>
   rw [hra] at c4
   have HX : Hid (call F s la lb d ts = .error f) := HXe.out f hra
   clear hra
   go_enter Tryz.func152, Tryz.ntmps152
   go_wp2_with fail
   refine wp_region_held_drew (S := (fun W => (W.cell? ⟨pn, 0, none⟩ = some (.string (bs s)) ∧ W.cell? ⟨pr, 0, none⟩ = some (.pointer (some ⟨b, 0, none⟩)) ∧ W.cell? ⟨pa, 0, none⟩ = some (.int .i64 (la : Int)) ∧ W.cell? ⟨pb, 0, none⟩ = some (.int .i64 (lb : Int))) ∧ ExtB b w W)) (by kernel_rfl) ?_ (fun hHeld => ?_)
   · ((refine mkS.out _ ?_; with_reducible (repeat (first | assumption | apply ExtB.drew | apply ExtB.alloc | (refine ExtB.set ?_ (.inr (Nat.le_refl _)) _))); done))
   refine wpAnyH_take (i := 0) (v := ?_) rfl (by kernel_rfl) (by kernel_rfl) (by kernel_rfl) (fun _ _ _ h => h) (Or.inl ⟨by rfl, ?_⟩) (by assumption) ?_
   rotate_left
   · intro w hSw; (try dsimp only at hSw); first | (go_simp; done) | (go_simp; with_reducible rfl)
   refine wpAnyH_take (i := 1) (v := ?_) rfl (by kernel_rfl) (by kernel_rfl) (by kernel_rfl) (fun _ _ _ h => h) (Or.inl ⟨by rfl, ?_⟩) (by assumption) ?_
   rotate_left
   · intro w hSw; (try dsimp only at hSw); first | (go_simp; done) | (go_simp; with_reducible rfl)
   refine wpAnyH_take (i := 2) (v := ?_) rfl (by kernel_rfl) (by kernel_rfl) (by kernel_rfl) (fun _ _ _ h => h) (Or.inl ⟨by rfl, ?_⟩) (by assumption) ?_
   rotate_left
   · intro w hSw; (try dsimp only at hSw); first | (go_simp; done) | (go_simp; with_reducible rfl)
   refine wpAnyH_take (i := 3) (v := ?_) rfl (by kernel_rfl) (by kernel_rfl) (by kernel_rfl) (fun _ _ _ h => h) (Or.inl ⟨by rfl, ?_⟩) (by assumption) ?_
   rotate_left
   · intro w hSw; (try dsimp only at hSw); first | (go_simp; done) | (go_simp; with_reducible rfl)
   refine wpAnyH_ready (rs := [4]) (by kernel_rfl) (by simp) ?_
   refine AllReadyH.cons rfl (fun K hK => ?_) AllReadyH.nil
   go_simp
   refine (c4 _ (HSd.out _ (by first | exact ((Ext.refl _).alloc _).drew | exact (((Ext.refl _).alloc _).drewN _)))).mono ?_; rintro e w5 ⟨rfl, E5⟩; exact ⟨rfl, (by rw [HX.out]; exact ⟨rfl, ((ExtB.alloc (ExtB.refl b w) _).drew).trans E5⟩ : PR w0 b w d (call F s la lb d ts) (pft f) w5)⟩
 | ok a =>
   obtain ⟨l, us⟩ := a
   rw [hra] at c4
   have HX : Hid (call F s la lb d ts = .ok (tCall s l, us)) := HXo.out l us hra
   have c5 : ∀ W, Stt w0 b W ts d → Calls Tryz.prog 153 #[.pointer (some ⟨b, 0, none⟩), .int .i64 (la : Int), .int .i64 (lb : Int)] W fun e w' => (∃ v, e = .returned v ∧ IsL w' (W.heap.size ≤ ·) v l) ∧ Stt w0 b w' us d ∧ ExtB b W w' := c4
   clear hra c4
   go_enter Tryz.func152, Tryz.ntmps152
   go_wp2_with fail
   go_region_held3 (fun W => (W.cell? ⟨pn, 0, none⟩ = some (.string (bs s)) ∧ W.cell? ⟨pr, 0, none⟩ = some (.pointer (some ⟨b, 0, none⟩)) ∧ W.cell? ⟨pa, 0, none⟩ = some (.int .i64 (la : Int)) ∧ W.cell? ⟨pb, 0, none⟩ = some (.int .i64 (lb : Int))) ∧ ExtB b w W)
     ((refine mkS.out _ ?_; with_reducible (repeat (first | assumption | apply ExtB.drew | apply ExtB.alloc | (refine ExtB.set ?_ (.inr (Nat.le_refl _)) _))); done))
     ((go_at_call 153; refine (c5 _ (HSd.out _ (by first | exact ((Ext.refl _).alloc _).drew | exact (((Ext.refl _).alloc _).drewN _)))).mono ?_; rintro e w5 ⟨⟨v, rfl, hL⟩, S5, E5⟩; obtain ⟨pp, cl, hv, _⟩ := hL.form; subst hv; have X5 : ExtB b w w5 := ((ExtB.alloc (ExtB.refl b w) _).drew).trans E5; have Y5 : ExtB b (w.alloc (.cells #[.int .i64 0, .int .i64 0, .string ⟨#[]⟩, .int .i64 0, .int .i64 0, .int .i64 0, .bool false, .bool false, .int .i64 0, .int .i64 0, .bool false, .bool false, .slice none 0 0] 29)) w5 := (ExtB.drew (ExtB.refl b _)).trans E5; have HR5 : Hid (Stt w0 b w5 us d ∧ ExtB b w w5 ∧ IsL w5 (w.heap.size + 1 ≤ ·) (.slice pp l.length cl) l ∧ BlkX w5 w.heap.size tz (.slice none 0 0)) := ⟨S5, X5, hL.mono (fun k hk _ => (by have h9 := HSZ.out; simp at hk h9; omega)), HB0.out _ Y5⟩; have U5 := HR5.out.2.2.2; obtain ⟨qf, ⟨lf0, lf1, lf2, lf3, lf4, lf5, lf6, lf7, lf8, lf9, lf10, lf11, lf12⟩, gf0, gf1, gf2, gf3, gf4, gf5, gf6, gf7, gf8, gf9, gf10, gf11, gf12⟩ := U5; clear S5 E5 hL Y5))
   go_wp2_with fail
   rw [HX.out]
   exact endP (W := w5) (g := w.heap.size) (t := tCall s l) (ts := us) (w.heap.size + 1 ≤ ·) HR5.out.2.2.2 rfl HR5.out.2.2.1 (fun k hk => ⟨by omega, by omega⟩) HR5.out.1 hg0 (Nat.le_refl _) HZ.out HR5.out.2.1 (Ext.refl _) (fun h0 h1 h2 h3 h4 h5 h6 h7 h8 h9 h10 h11 h12 => by simp [results, Tryz.results152, go_sem, h0, h1, h2, h3, h4, h5, h6, h7, h8, h9, h10, h11, h12, aggX])
end Go.Proofs.YtcggiljlilbdfaaGreatDoor

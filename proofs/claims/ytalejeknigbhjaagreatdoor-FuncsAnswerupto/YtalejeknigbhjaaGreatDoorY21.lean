/-
 The document's functions of many values: All, Numbers.
 The document's Round: the multiple of a power of ten that is nearest.
 The document's answer for layer 14: arg, Whole, told.
 The document's answer for layer 14: of, by its names.
-/
import Derived.Test.YtalejeknigbhjaaGreatDoorY20
import Derived.Test.YtalejeknigbhjaaGreatDoorY16
import Derived.Test.YtalejeknigbhjaaGreatDoorY10
import Derived.Test.YtalejeknigbhjaaGreatDoorY19
namespace Go.Proofs.YtalejeknigbhjaaGreatDoor
open Go.RowKit
set_option maxHeartbeats 1000000

def zR : Rw := ⟨0, 0, ⟨#[]⟩, 0⟩
/-- All values of an argument. -/
def allL (a : Ag) : List Rw := if a.area then a.l else match a.l with
 | [] => [zR]
 | r :: _ => [r]
theorem seen1_all (a : Ag) : seen1 a = (allL a).map (fun r => (r.v, a.area)) := by
 unfold seen1 allL
 cases h : a.area with
 | true => rfl
 | false =>
   cases a.l with
   | nil => rfl
   | cons r t => rfl
theorem allL_len (a : Ag) : (allL a).length = (seen1 a).length := by rw [seen1_all]; simp
theorem allL_i (a : Ag) (h : ∀ r ∈ a.l, I64 r.n) : ∀ r ∈ allL a, I64 r.n := by
 unfold allL
 cases a.area with
 | true => exact h
 | false =>
   cases hl : a.l with
   | nil => intro r hr; simp at hr; subst hr; exact ⟨by decide, by decide⟩
   | cons r t => intro q hq; simp at hq; subst hq; exact h _ (by rw [hl]; simp)
set_option maxRecDepth 100000 in
theorem all_any (a : Ag) (x y : Int) (p : Option Addr) (n c B : Nat) (W : World) (hB : B ≤ W.heap.size) (h : RdV B W (.slice p n c) a.l) :
   Calls Tryz.prog 45 #[.agg #[.bool a.area, .int .i64 x, .int .i64 y, .slice p n c]] W fun e w' => ∃ p' n' c', e = .returned (.slice p' n' c') ∧ (RdV B w' (.slice p' n' c') (allL a) ∨ ((allL a).length = 1 ∧ RdV w'.heap.size w' (.slice p' n' c') (allL a))) ∧ Ext W w' := by
 have HR : Hid (RdV B W (.slice p n c) a.l ∧ B ≤ W.heap.size) := ⟨h, hB⟩
 clear hB
 have hn := h.len
 have HA : Hid (allL a = if a.area then a.l else match a.l with | [] => [zR] | r :: _ => [r]) := rfl
 cases har : a.area with
 | true =>
   have HL : Hid (allL a = a.l) := by show _ = _; rw [HA.out, har]; rfl
   clear h hn har HA
   go_enter Tryz.func45, Tryz.ntmps45
   go_wp2_with fail
   go_ret
   exact ⟨_, _, _, rfl, .inl (by rw [HL.out]; exact HR.out.1.low (Below.mono ((Ext.refl _).alloc _) HR.out.2)), (Ext.refl _).alloc _⟩
 | false =>
   by_cases h0 : n = 0
   · have e0 : ((n : Int) == 0) = true := by simp; omega
     have HL : Hid (allL a = [zR]) := by
       show _ = _
       have : a.l = [] := List.eq_nil_of_length_eq_zero (by omega)
       rw [HA.out, har, this]; rfl
     clear h hn har HA h0
     go_enter Tryz.func45, Tryz.ntmps45
     go_wp2_with fail
     go_ret
     refine ⟨_, _, _, rfl, .inr ⟨by rw [HL.out]; rfl, ?_⟩, ((Ext.refl _).alloc _).alloc _⟩
     rw [HL.out]
     refine ⟨_, _, rfl, by decide, .inr ⟨_, 0, rfl, by simp, by simp, fun i r hr => ?_⟩⟩
     match i, hr with
     | 0, hr => simp at hr; subst hr; simp [go_sem, zR]
     | i + 1, hr => simp at hr
   · have e0 : ((n : Int) == 0) = false := by simp; omega
     have e1 : (1 : Int) ≤ (n : Int) := by omega
     obtain ⟨b, off, r, rfl, hr, hb, hbW, k0, k1, k2, k3⟩ := h.at (i := 0) (by omega)
     have HL : Hid (allL a = [r]) := by
       show _ = _
       rw [HA.out, har]
       cases hl : a.l with
       | nil => rw [hl] at hr; simp at hr
       | cons q t => rw [hl] at hr; simp at hr; subst hr; rfl
     have hc : n ≤ c := by obtain ⟨_, _, q, hc, _⟩ := h; cases q; exact hc
     have hcI : (1 : Int) ≤ (c : Int) := by omega
     have HK : Hid ((b < B ∧ b < W.heap.size) ∧ 1 ≤ c ∧ W.cell? ⟨b, off, none⟩ = some (.int .i64 r.k) ∧ W.cell? ⟨b, off + 1, none⟩ = some (.int .i64 r.n) ∧ W.cell? ⟨b, off + 2, none⟩ = some (.string r.s) ∧ W.cell? ⟨b, off + 3, none⟩ = some (.int .i64 r.e)) := by
       simp only [Nat.zero_mul, Nat.add_zero] at k0 k1 k2 k3
       exact ⟨⟨hb, hbW⟩, by omega, k0, k1, k2, k3⟩
     have h1n : 1 ≤ n := by omega
     have h1c : 1 ≤ c := by omega
     clear h hn har HA h0 hr hb hbW k0 k1 k2 k3 hc
     go_enter Tryz.func45, Tryz.ntmps45
     go_wp2_with fail
     go_ret
     refine ⟨_, _, _, rfl, .inl ?_, (Ext.refl _).alloc _⟩
     rw [HL.out]
     refine RdV.low (W := W) ⟨_, c, rfl, HK.out.2.1, .inr ⟨b, off, rfl, HK.out.1.1, HK.out.1.2, fun i q hq => ?_⟩⟩ (Below.mono ((Ext.refl _).alloc _) HR.out.2)
     match i, hq with
     | 0, hq =>
       simp at hq
       subst hq
       simp only [Nat.zero_mul, Nat.add_zero]
       exact HK.out.2.2
     | i + 1, hq => simp at hq
/-- The numbers of a list, as they lie in memory. -/
def cI (v : V) : List Value := [.int .i64 v.n]
theorem cI_len (v : V) : (cI v).length = 1 := rfl
theorem eltI : Elt 55 2 1 8 := by
 refine ⟨Tryz.underlying55, ?_, by decide⟩
 have h1 : (Tryz.prog.info? 2).isSome = true := by kernel_rfl
 have h2 : (Tryz.prog.info? 2).bind (fun i => i.zero) = some (.int .i64 0) := by kernel_rfl
 have h3 : (Tryz.prog.info? 2).map (fun i => (i.size, i.bytes)) = some (1, 8) := by kernel_rfl
 cases h : Tryz.prog.info? 2 with
 | none => rw [h] at h1; cases h1
 | some i =>
   rw [h] at h2 h3
   simp at h2 h3
   exact ⟨i, _, rfl, h2, h3.1, h3.2, rfl⟩
/-- append, at the operation; where the row lies then. -/
theorem own_app2 {TS T : TypeId} {k bytes : Nat} (hT : Elt TS T k bytes) {ops : Array Oper} {rest : List Oper} {o : Oper} {a : Act} {Q : Exit → Act → World → Prop} (W w : World) (s x : Operand) (v va : Value) (n m : Nat) (xs news : List Value) (base : Nat) (hgd : o.guard = none)
   (ho : o.op = .call { callee := .builtin .append, args := #[s, x], argTypes := #[TS, TS] })
   (hs : a.eval s = v) (hx : a.eval x = va) (hB : W.ownsRow base T k v n xs) (hR : RowC W va m k news) (h1c : ∀ u ∈ news, u.oneCell' = true) (hm : n + m ≤ maxLen) (hby : (n + m) * bytes ≤ 140737488355328) (hE : Ext w W) (hb : w.heap.size ≤ base) (hb2 : base ≤ W.heap.size)
   (h : ∀ v' W', W'.ownsRow base T k v' (n + m) (xs ++ news) → Ext w W' → W.grownBy W' v.ownBlock → (v'.ownBlock = v.ownBlock ∨ v'.ownBlock = some W.heap.size) → wpList Tryz.prog ops Q rest (a.put o.dst v') W') : wpList Tryz.prog ops Q (o :: rest) a W := by
 obtain ⟨hl, p, c, rfl, hR⟩ := hR
 obtain ⟨i, z, hi, hz, h1, h2, h3⟩ := hT.i
 rcases hR with ⟨rfl, rfl⟩ | ⟨ad, rfl, hR⟩
 · have hn : news = [] := List.eq_nil_of_length_eq_zero (by simpa using hl)
   subst hn
   obtain ⟨p, cap, rfl, hc⟩ := own_form hB
   refine Lib.wpList_append_run W hgd s x _ _ ho _ _ hs hx _ _ (run_append_noneG hT W o.type p n cap c hc) ?_
   exact h _ W (by simpa using hB) hE ⟨rfl, rfl, rfl, Nat.le_refl _, fun _ _ _ => rfl⟩ (.inl rfl)
 · refine wpList_append_own_at W hgd s x TS ho base T i z k bytes hT.u hi hz h1 h2 h3 hT.k0 v n xs hs hB ad m c news hx hl hR h1c hm hby hb2 ?_
   intro v' W' h3 h4 _ h5
   exact h v' W' h3 (ext_grownG hB hb hE h4) h4 h5
theorem Blk.grown {W W' : World} {q : Nat} {x0 x1 x2 x3 : Value} {row : Option Nat} (B : Blk W q x0 x1 x2 x3) (hg : W.grownBy W' row) (hq : row ≠ some q) : Blk W' q x0 x1 x2 x3 := by
 have e := hg.block q B.1 (fun h => hq h.symm)
 exact B.cells hg.size (fun o => ⟨World.cell?_of_block (w := W) e, World.frozen?_of_block (w := W) e⟩)
/-- A list that is read from place i on: in memory that stays, or of one value. -/
def RdO (B : Nat) (V : World) (v : Value) (l : List Rw) (i : Nat) : Prop := (∃ p c, v = .slice p l.length c) ∧ (RdV B V v l ∨ (l.length = 1 ∧ i = 0 ∧ RdV V.heap.size V v l) ∨ i = l.length)
theorem RdO.next {B i : Nat} {V V' : World} {v : Value} {l : List Rw} (h : RdO B V v l i) (hi : i < l.length) (e : Below B V V') : RdO B V' v l (i + 1) := by
 refine ⟨h.1, ?_⟩
 rcases h.2 with h | ⟨h1, h2, _⟩ | h
 · exact .inl (h.low e)
 · exact .inr (.inr (by omega))
 · omega
theorem RdO.at {B i n c : Nat} {V : World} {p : Option Addr} {l : List Rw} (h : RdO B V (.slice p n c) l i) (hi : i < l.length) :
   ∃ b off r, p = some ⟨b, off, none⟩ ∧ l[i]? = some r ∧ b < V.heap.size ∧
     V.cell? ⟨b, off + i * 4, none⟩ = some (.int .i64 r.k) ∧ V.cell? ⟨b, off + i * 4 + 1, none⟩ = some (.int .i64 r.n) ∧ V.cell? ⟨b, off + i * 4 + 2, none⟩ = some (.string r.s) ∧ V.cell? ⟨b, off + i * 4 + 3, none⟩ = some (.int .i64 r.e) := by
 rcases h.2 with h | ⟨_, _, h⟩ | h
 · obtain ⟨b, off, r, h1, h2, _, h3⟩ := h.at hi
   exact ⟨b, off, r, h1, h2, h3⟩
 · obtain ⟨b, off, r, h1, h2, _, h3⟩ := h.at hi
   exact ⟨b, off, r, h1, h2, h3⟩
 · omega
theorem RdO.of {B : Nat} {V : World} {p : Option Addr} {n c : Nat} {l : List Rw} (h : RdV B V (.slice p n c) l ∨ (l.length = 1 ∧ RdV V.heap.size V (.slice p n c) l)) : RdO B V (.slice p n c) l 0 ∧ n = l.length := by
 rcases h with h | ⟨h1, h⟩
 · have := h.len; subst this; exact ⟨⟨⟨_, _, rfl⟩, .inl h⟩, rfl⟩
 · have := h.len; subst this; exact ⟨⟨⟨_, _, rfl⟩, .inr (.inl ⟨h1, rfl, h⟩)⟩, rfl⟩
/-- The state of Numbers when s was met. -/
structure Nums (W : World) (s : List (V × Bool)) (ov : Value) (V' : World) : Prop where
 e : Ext W V'
 o : V'.ownsRow W.heap.size 2 1 ov (got numF s).length ((got numF s).flatMap cI)
 q : ov.ownBlock ≠ some (W.heap.size + 2)
 r : ov.ownBlock ≠ some W.heap.size
 w : Blk V' (W.heap.size + 2) (.int .i64 (bad numF s).k) (.int .i64 (bad numF s).n) (.string (bad numF s).s) (.int .i64 (bad numF s).e)
 z : Blk V' W.heap.size (.int .i64 0) (.int .i64 0) (.string ⟨#[]⟩) (.int .i64 0)
theorem Nums.ext {W : World} {s : List (V × Bool)} {ov : Value} {V1 V2 : World} (h : Nums W s ov V1) (e : Ext V1 V2) : Nums W s ov V2 :=
 ⟨h.e.trans e, ownsRow_ext h.o e, h.q, h.r, h.w.ext e, h.z.ext e⟩
theorem got_s (s : List (V × Bool)) (x : V × Bool) : got numF (s ++ [x]) = if goes (numF x.1 x.2) then got numF s ++ [numF x.1 x.2] else got numF s := by
 rw [got_app]
 show got numF s ++ (if goes (numF x.1 x.2) then [numF x.1 x.2] else []) = _
 split
 · rfl
 · simp
theorem bad_s (s : List (V × Bool)) (x : V × Bool) : bad numF (s ++ [x]) = if (bad numF s).k = 4 then bad numF s else if (numF x.1 x.2).k = 4 then numF x.1 x.2 else .blank := bad_app numF s [x]
theorem bad_keep (s : List (V × Bool)) (x : V × Bool) (h : (numF x.1 x.2).k ≠ 4 ∨ (bad numF s).k = 4) : bad numF (s ++ [x]) = bad numF s := by
 rw [bad_s]
 rcases bad_kind numF s with k | k
 · rcases h with h | h
   · rw [k, if_neg (by decide), if_neg h]
   · rw [if_pos h]
 · rw [if_pos k]
theorem Nums.more {W : World} {s : List (V × Bool)} {ov : Value} {V1 WA W' : World} {v' : Value} (h : Nums W s ov V1) (e : Ext V1 WA) (x : V × Bool) (y : V) (hy : numF x.1 x.2 = y) (hk : y.k = 2)
   (k1 : W'.ownsRow W.heap.size 2 1 v' ((got numF s).length + 1) ((got numF s).flatMap cI ++ [.int .i64 y.n])) (k2 : Ext W W') (k3 : WA.grownBy W' ov.ownBlock) (k4 : v'.ownBlock = ov.ownBlock ∨ v'.ownBlock = some WA.heap.size) : Nums W (s ++ [x]) v' W' := by
 subst hy
 have hg : got numF (s ++ [x]) = got numF s ++ [numF x.1 x.2] := by rw [got_s, if_pos (by simp [goes, hk])]
 have hb : bad numF (s ++ [x]) = bad numF s := bad_keep s x (.inl (by rw [hk]; decide))
 have hz : W.heap.size + 2 < WA.heap.size := Nat.lt_of_lt_of_le h.w.1 e.size
 refine ⟨k2, ?_, ?_, ?_, ?_, ?_⟩
 · rw [hg]; simpa [cI] using k1
 · rcases k4 with k | k
   · rw [k]; exact h.q
   · rw [k]; intro q; simp at q; omega
 · rcases k4 with k | k
   · rw [k]; exact h.r
   · rw [k]; intro q; simp at q; omega
 · rw [hb]; exact (h.w.ext e).grown k3 h.q
 · exact (h.z.ext e).grown k3 h.r
theorem Nums.same {W : World} {s : List (V × Bool)} {ov : Value} {V1 V2 : World} (h : Nums W s ov V1) (e : Ext V1 V2) (x : V × Bool) (hk : (numF x.1 x.2).k = 0 ∨ ((numF x.1 x.2).k = 4 ∧ (bad numF s).k = 4)) : Nums W (s ++ [x]) ov V2 := by
 have hg : got numF (s ++ [x]) = got numF s := by
   rw [got_s]
   rcases hk with hk | ⟨hk, _⟩
   · rw [if_neg (by simp [goes, hk])]
   · rw [if_neg (by simp [goes, hk])]
 have hb : bad numF (s ++ [x]) = bad numF s := by
   rcases hk with hk | ⟨_, hk⟩
   · exact bad_keep s x (.inl (by rw [hk]; decide))
   · exact bad_keep s x (.inr hk)
 obtain ⟨a, b, c, d, f, g⟩ := h.ext e
 exact ⟨a, by rw [hg]; exact b, c, d, by rw [hb]; exact f, g⟩
theorem own_far {X : World} {base n k b o : Nat} {T : TypeId} {ov u : Value} {xs : List Value} (hX : X.ownsRow base T k ov n xs) (c : ov.ownBlock ≠ some b) : (X.setCell ⟨b, o, none⟩ u).ownsRow base T k ov n xs := by
 refine ⟨hX.1, ?_⟩
 rcases hX.2 with hX | ⟨gg, cap, cur, h1, h2, h3, h4⟩
 · exact .inl hX
 · refine .inr ⟨gg, cap, cur, h1, h2, ?_, h4⟩
   rw [Below.heap_setCell _ _ _ _ (by intro q; apply c; rw [h1]; show some gg = _; rw [show gg = b from q])]
   exact h3
theorem Nums.err {W : World} {s : List (V × Bool)} {ov : Value} {V1 V2 : World} (h : Nums W s ov V1) (e : Ext V1 V2) (x : V × Bool) (y : V) (hy : numF x.1 x.2 = y) (hk : y.k = 4) (hb4 : (bad numF s).k ≠ 4) : Nums W (s ++ [x]) ov (put4 V2 (W.heap.size + 2) (.int .i64 y.k) (.int .i64 y.n) (.string y.s) (.int .i64 y.e)) := by
 subst hy
 have hg : got numF (s ++ [x]) = got numF s := by rw [got_s, if_neg (by simp [goes, hk])]
 have hb : bad numF (s ++ [x]) = numF x.1 x.2 := by rw [bad_s, if_neg hb4, if_pos hk]
 obtain ⟨a, b, c, d, f, g⟩ := h.ext e
 have far : ∀ (X : World) (u : Value) (o : Nat), X.ownsRow W.heap.size 2 1 ov (got numF s).length ((got numF s).flatMap cI) → (X.setCell ⟨W.heap.size + 2, o, none⟩ u).ownsRow W.heap.size 2 1 ov (got numF s).length ((got numF s).flatMap cI) := by
   intro X u o hX
   refine ⟨hX.1, ?_⟩
   rcases hX.2 with hX | ⟨gg, cap, cur, h1, h2, h3, h4⟩
   · exact .inl hX
   · refine .inr ⟨gg, cap, cur, h1, h2, ?_, h4⟩
     rw [Below.heap_setCell _ _ _ _ (by intro q; apply c; rw [h1]; show some gg = _; rw [show gg = W.heap.size + 2 from q])]
     exact h3
 refine ⟨?_, ?_, c, d, ?_, ?_⟩
 · exact (((a.setCell (by simp) _).setCell (by simp) _).setCell (by simp) _).setCell (by simp) _
 · rw [hg]; exact far _ _ _ (far _ _ _ (far _ _ _ (far _ _ _ b)))
 · rw [hb]; exact f.set _ _ _ _
 · exact g.far (by omega) _ _ _ _
theorem Ext.between {W V1 V2 : World} (e1 : Ext W V1) (e2 : Ext W V2) (hs : V1.heap.size ≤ V2.heap.size) : Below W.heap.size V1 V2 :=
 ⟨e2.os.trans e1.os.symm, e2.tape.trans e1.tape.symm, e2.output.trans e1.output.symm, hs, fun k hk => (e2.block k hk).trans (e1.block k hk).symm⟩
theorem nums_app {ops : Array Oper} {rest : List Oper} {o : Oper} {a : Act} {Q : Exit → Act → World → Prop} (W V1 WA : World) (s x : Operand) (ov : Value) (S : List (V × Bool)) (un : Int) (g : Nat) (hgd : o.guard = none)
   (ho : o.op = .call { callee := .builtin .append, args := #[s, x], argTypes := #[55, 55] }) (hs : a.eval s = ov) (hx : a.eval x = .slice (some ⟨g, 0, none⟩) 1 1) (hc : WA.cell? ⟨g, 0, none⟩ = some (.int .i64 un))
   (h : Nums W S ov V1) (e : Ext V1 WA) (hl : S.length ≤ 1500000) (q : V × Bool) (y : V) (hy : numF q.1 q.2 = y) (hk : y.k = 2) (hn : y.n = un)
   (K : ∀ p c W', Nums W (S ++ [q]) (.slice p ((got numF S).length + 1) c) W' → Below W.heap.size V1 W' → (∀ b x0 x1 x2 x3, V1.heap.size ≤ b → Blk WA b x0 x1 x2 x3 → Blk W' b x0 x1 x2 x3) → wpList Tryz.prog ops Q rest (a.put o.dst (.slice p ((got numF S).length + 1) c)) W') :
   wpList Tryz.prog ops Q (o :: rest) a WA := by
 have hg := got_len numF S
 refine own_app2 eltI WA W s x ov _ (got numF S).length 1 ((got numF S).flatMap cI) [.int .i64 un] W.heap.size hgd ho hs hx (ownsRow_ext h.o e) ⟨rfl, _, _, rfl, .inr ⟨_, rfl, ?_⟩⟩ ?_ (by unfold maxLen; omega) (by omega) (h.e.trans e) (Nat.le_refl _) (Nat.le_trans h.e.size e.size) ?_
 · intro j u hj
   match j, hj with
   | 0, hj => simp at hj; subst hj; simpa [Addr.add] using hc
   | j + 1, hj => simp at hj
 · intro u hu
   simp at hu
   subst hu; rfl
 · intro v' W' k1 k2 k3 k4
   obtain ⟨p, c, rfl, _⟩ := own_form k1
   refine K p c W' (h.more e q y hy hk (by rw [hn]; exact k1) k2 k3 k4) (Ext.between h.e k2 (Nat.le_trans e.size k3.size)) ?_
   intro b x0 x1 x2 x3 hb B
   refine B.grown k3 (fun hq => ?_)
   have := (h.o.lt b hq).2
   omega
set_option maxRecDepth 100000 in
theorem numbers_any13 (gs : List Ag) (p : Option Addr) (n c : Nat) (W : World) (hF : Fit W (.slice p n c) gs) :
   Calls Tryz.prog 38 #[.slice p n c] W fun e w' => ∃ ov, e = .returned (.tuple #[ov, (bad numF (seen gs)).dat]) ∧ w'.ownsRow W.heap.size 2 1 ov (got numF (seen gs)).length ((got numF (seen gs)).flatMap cI) ∧ Ext W w' := by
 have HF : Hid (Fit W (.slice p n c) gs) := hF
 have HN : Hid (n = gs.length ∧ n ≤ 1500000) := by
   obtain ⟨p', c', h1, _⟩ := hF.rd
   cases h1
   exact ⟨rfl, hF.l⟩
 clear hF
 go_enter Tryz.func38, Tryz.ntmps38
 go_wp2_with fail
 go_loopw [6, 4] (fun iv ov wr => ∃ (j : Nat) (pv : Option Addr) (nv cv : Nat), iv = .int .i64 (j : Int) ∧ ov = .slice pv nv cv ∧ j ≤ n ∧ Nums W (seen (gs.take j)) (.slice pv nv cv) wr) (fun iv _ _ => n - (intOf iv).toNat)
 case atStart =>
   refine ⟨0, _, _, _, rfl, rfl, Nat.zero_le _, ?_⟩
   refine ⟨(((Ext.refl _).alloc _).alloc _).alloc _, ?_, by simp [Value.ownBlock], by simp [Value.ownBlock], ?_, ?_⟩
   · refine ownsRow_ext ?_ ((Ext.refl _).alloc _)
     refine ⟨by simp [seen, got], .inr ⟨W.heap.size + 1, 0, #[], by simp [seen, got], by omega, ?_, Nat.le_refl _, by simp, by simp, by simp [seen, got]⟩⟩
     show ((W.heap.push _).push _)[W.heap.size + 1]? = _
     rw [show W.heap.size + 1 = (W.heap.push (.cells #[.int .i64 0, .int .i64 0, .string ⟨#[]⟩, .int .i64 0] 25)).size by simp, Array.getElem?_push_size]
   · exact blk_top (by simp) (Ext.refl _)
   · exact blk_top (by simp) (((Ext.refl _).alloc _).alloc _)
 case round =>
   generalize wr = wo at hrel ⊢
   obtain ⟨j, pv, nv, cv, rfl, rfl, hj, hS⟩ := hrel
   have HS : Hid (Nums W (seen (gs.take j)) (.slice pv nv cv) wo) := hS
   clear hS
   by_cases hlt : j < n
   · have hltI : (j : Int) < (n : Int) := by omega
     obtain ⟨b, off, a, x, y, lv, rfl, ha, hb, hbW, ⟨k0, k1, k2, k3⟩, hV⟩ := (HF.out.rd.low HS.out.e).at (i := j) (by rw [← HN.out.1]; exact hlt)
     obtain ⟨p', n', c', rfl, hn', hc'⟩ := hV.form
     have HV : Hid (RdV W.heap.size wo (.slice p' n' c') a.l ∧ gs[j]? = some a) := ⟨hV, ha⟩
     have WK : Hid (wrap64 ((j : Int) + 1) = ((j + 1 : Nat) : Int)) := wrap_1 j (by have := HN.out; omega)
     have hj1 : j + 1 ≤ n := by omega
     have CA : Hid (∀ V, Ext wo V → Calls Tryz.prog 45 #[.agg #[.bool a.area, .int .i64 x, .int .i64 y, .slice p' n' c']] V fun e w' => ∃ p' n' c', e = .returned (.slice p' n' c') ∧ (RdV W.heap.size w' (.slice p' n' c') (allL a) ∨ ((allL a).length = 1 ∧ RdV w'.heap.size w' (.slice p' n' c') (allL a))) ∧ Ext V w') := fun V e => all_any a x y p' n' c' W.heap.size V (Nat.le_trans HS.out.e.size e.size) (HV.out.1.low (Below.mono e HS.out.e.size))
     clear hV ha hn' hc' hb hlt
     go_wp2_with fail
     refine (CA.out _ (Ext.refl _)).mono ?_
     rintro e w1 ⟨p2, n2, c2, rfl, R2, E1⟩
     obtain ⟨RO, hn2⟩ := RdO.of R2
     have HR : Hid (RdO W.heap.size w1 (.slice p2 n2 c2) (allL a) 0 ∧ n2 = (allL a).length) := ⟨RO, hn2⟩
     have HT : Hid (seen (gs.take (j + 1)) = seen (gs.take j) ++ (allL a).map (fun r => (r.v, a.area))) := by show _ = _; rw [seen_take HV.out.2, seen1_all]
     have HU : Hid ((∀ r ∈ allL a, I64 r.n) ∧ (seen (gs.take j)).length + (allL a).length ≤ 1500000) := by
       refine ⟨allL_i a (HF.out.i a (List.mem_of_getElem? HV.out.2)), ?_⟩
       have h1 := seen_le HV.out.2
       have h2 := HF.out.s
       rw [allL_len]; omega
     have HS1 : Hid (Nums W (seen (gs.take j)) (.slice pv nv cv) w1) := HS.out.ext E1
     clear R2 RO hn2 E1 k0 k1 k2 k3 hbW
     go_wp2_with fail
     go_loopw [8, 4] (fun iv ov w3 => ∃ (i : Nat) (pv : Option Addr) (nv cv : Nat), iv = .int .i64 (i : Int) ∧ ov = .slice pv nv cv ∧ i ≤ n2 ∧ Nums W (seen (gs.take j) ++ ((allL a).take i).map (fun r => (r.v, a.area))) (.slice pv nv cv) w3 ∧ RdO W.heap.size w3 (.slice p2 n2 c2) (allL a) i) (fun iv _ _ => n2 - (intOf iv).toNat)
     case atStart =>
       refine ⟨0, _, _, _, rfl, rfl, Nat.zero_le _, ?_, HR.out.1⟩
       simp only [List.take_zero, List.map_nil, List.append_nil]
       exact HS1.out
     case round =>
       obtain ⟨i, pv, nv, cv, rfl, rfl, hi, hS, hO⟩ := hrel
       have H3 : Hid (Nums W (seen (gs.take j) ++ ((allL a).take i).map (fun r => (r.v, a.area))) (.slice pv nv cv) wr ∧ RdO W.heap.size wr (.slice p2 n2 c2) (allL a) i) := ⟨hS, hO⟩
       clear hS hO
       by_cases hlt : i < n2
       · have hltJ : (i : Int) < (n2 : Int) := by omega
         obtain ⟨b', off', r, rfl, hr, hbW', k0, k1, k2, k3⟩ := H3.out.2.at (by rw [← HR.out.2]; exact hlt)
         obtain ⟨b3, off3, a3, x3, y3, lv3, hp3, ha3, _, hb3, ⟨l0, _, _, _⟩, _⟩ := (HF.out.rd.low H3.out.1.e).at (i := j) (by rw [← HN.out.1]; omega)
         rw [HV.out.2] at ha3
         cases hp3
         cases ha3
         have WI : Hid (wrap64 ((i : Int) + 1) = ((i + 1 : Nat) : Int)) := wrap_1 i (by have := HU.out.2; have := HR.out.2; omega)
         have hi1 : i + 1 ≤ n2 := by omega
         have HX : Hid ((allL a)[i]? = some r ∧ I64 r.n ∧ i < (allL a).length) := ⟨hr, HU.out.1 r (List.mem_of_getElem? hr), by rw [← HR.out.2]; exact hlt⟩
         obtain ⟨S, hS⟩ : ∃ S, seen (gs.take j) ++ ((allL a).take i).map (fun r => (r.v, a.area)) = S := ⟨_, rfl⟩
         have HT2 : Hid (seen (gs.take j) ++ ((allL a).take (i + 1)).map (fun r => (r.v, a.area)) = S ++ [(r.v, a.area)]) := by
           show _ = _
           rw [List.take_add_one, hr, List.map_append, ← List.append_assoc, hS]; rfl
         have HSL : Hid (S.length ≤ 1500000) := by
           show _ ≤ _
           rw [← hS]; simp; have := HU.out.2; omega
         rw [hS] at H3
         have HD : Hid (∀ W', Nums W (S ++ [(r.v, a.area)]) (.slice pv nv cv) W' → Below W.heap.size wr W' → Nums W (seen (gs.take j) ++ ((allL a).take (i + 1)).map (fun r => (r.v, a.area))) (.slice pv nv cv) W' ∧ RdO W.heap.size W' (.slice (some ⟨b', off', none⟩) n2 c2) (allL a) (i + 1)) := fun W' h1 h2 => ⟨by rw [HT2.out]; exact h1, H3.out.2.next HX.out.2.2 h2⟩
         have cN := fun V => rnormal_any r.k r.n r.s r.e V
         have hok : r.v.ok := nm_ok _ _ _ _ HX.out.2.1
         have HVV : Hid (nm r.k r.n r.s r.e = r.v) := rfl
         rw [HVV.out, dat_eq r.v] at cN
         clear hr hlt hS
         have hco : a.area = false ∨ a.area = true := by cases a.area <;> simp
         rcases hco with har | har
         · rw [har] at l0
           have cT := fun V => rtonum_any r.v.k r.v.n r.v.s r.v.e V (nm_of _ hok).2
           rw [(nm_of _ hok).1, dat_eq r.v.toNum] at cT
           have HY : Hid (numF r.v a.area = r.v.toNum ∧ (r.v.toNum.k = 2 ∨ r.v.toNum.k = 4)) := by
             refine ⟨by rw [har]; rfl, ?_⟩
             rcases toNum_cases r.v hok with ⟨m, h, _⟩ | ⟨m, h, _⟩
             · left; rw [h]; rfl
             · right; rw [h]; rfl
           clear har hok
           generalize r.v.toNum = u at *
           generalize r.v.k = vk at *
           generalize r.v.n = vn at *
           generalize r.v.s = vs' at *
           generalize r.v.e = ve at *
           obtain ⟨uk, huk⟩ : ∃ q, u.k = q := ⟨_, rfl⟩
           obtain ⟨un, hun⟩ : ∃ q, u.n = q := ⟨_, rfl⟩
           obtain ⟨us, hus⟩ : ∃ q, u.s = q := ⟨_, rfl⟩
           obtain ⟨ue, hue⟩ : ∃ q, u.e = q := ⟨_, rfl⟩
           have HUE : Hid (u.k = uk ∧ u.n = un ∧ u.s = us ∧ u.e = ue) := ⟨huk, hun, hus, hue⟩
           rw [huk, hun, hus, hue] at cT
           clear huk hun hus hue
           have HZL : Hid ((bad numF S).k = (bad numF S).k) := rfl
           obtain ⟨zk, hzk⟩ : ∃ q, (bad numF S).k = q := ⟨_, rfl⟩
           replace HZL : Hid ((bad numF S).k = zk) := hzk
           clear hzk
           by_cases h2 : uk = 2
           · have HNF : Hid (numF r.v a.area = u) := by show _ = _; rw [HY.out.1]
             have e2 : (uk == 2) = true := by rw [h2]; rfl
             have e4 : (uk == 4) = false := by rw [h2]; rfl
             have HU2 : Hid (u.k = 2) := HUE.out.1.trans h2
             clear h2
             go_wp2_with fail
             refine (cN _).mono ?_
             rintro e w4 ⟨rfl, E4⟩
             have m0 := (E4.cell.1 b _ hb3).trans l0
             have hb4 := Nat.lt_of_lt_of_le hb3 E4.size
             have X4 : Hid (Ext wr w4) := E4
             have hvw : wr.heap.size ≤ w4.heap.size := E4.size
             clear l0 hb3 k0 k1 k2 k3 hbW'
             clear E4
             go_wp2_with fail
             refine (cT _).mono ?_
             rintro e w5 ⟨rfl, E5⟩
             have X5 : Hid (Ext wr w5) := (X4.out.alloc _).trans E5
             have HB5 : Hid (Blk w5 w4.heap.size (.int .i64 vk) (.int .i64 vn) (.string vs') (.int .i64 ve)) := blk_top (by simp) E5
             obtain ⟨c0z, ⟨c0_0, c0_1, c0_2, c0_3⟩, c0f0, c0f1, c0f2, c0f3⟩ := HB5.out
             obtain ⟨q0z, ⟨q0, q1, q2, q3⟩, g0, g1, g2, g3⟩ := H3.out.1.w.ext X5.out
             rw [HZL.out] at q0
             have nvw : w4.heap.size ≠ W.heap.size + 2 := by have := H3.out.1.w.1; omega
             clear E5 m0 hb4
             go_wp2_with (at_builtin; refine nums_app W wr _ _ _ _ S un _ rfl rfl (by rfl) (by rfl) (by simp [go_sem]) H3.out.1 (by with_reducible repeat (first | assumption | exact X5.out | exact X4.out | exact Ext.refl _ | apply Ext.alloc | apply Ext.drewN | (refine Ext.setCell ?_ (by first | exact hvw | (simp; done)) _))) HSL.out (r.v, a.area) u HNF.out HU2.out HUE.out.2.1 ?_; intro p6 c6 W' N6 E6 K6; have BV := K6 w4.heap.size (.int .i64 uk) (.int .i64 un) (.string us) (.int .i64 ue) hvw (((HB5.out.set _ _ _ _).al _)); have HN6 : Hid (Nums W (S ++ [(r.v, a.area)]) (.slice p6 ((got numF S).length + 1) c6) W' ∧ Below W.heap.size wr W') := ⟨N6, E6⟩; obtain ⟨d0z, ⟨d0_0, d0_1, d0_2, d0_3⟩, d0f0, d0f1, d0f2, d0f3⟩ := BV; clear N6 E6 K6; have wi := WI.out)
             go_roundw
             case rel => exact ⟨i + 1, _, _, _, by go_num, rfl, hi1, by rw [HT2.out]; exact HN6.out.1, H3.out.2.next HX.out.2.2 HN6.out.2⟩
             case measure => exact meas n2 i hi1 wi
           have e2 : (uk == 2) = false := by simpa using h2
           by_cases h4 : uk = 4
           · have HNF : Hid (numF r.v a.area = u) := by show _ = _; rw [HY.out.1]
             have e4 : (uk == 4) = true := by rw [h4]; rfl
             have HU4 : Hid (u.k = 4) := HUE.out.1.trans h4
             clear h2 h4
             by_cases hz : zk = 4
             · have ez : (zk != 4) = false := by simpa using hz
               have HZ4 : Hid ((bad numF S).k = 4) := HZL.out.trans hz
               clear hz
               go_wp2_with fail
               refine (cN _).mono ?_
               rintro e w4 ⟨rfl, E4⟩
               have m0 := (E4.cell.1 b _ hb3).trans l0
               have hb4 := Nat.lt_of_lt_of_le hb3 E4.size
               have X4 : Hid (Ext wr w4) := E4
               have hvw : wr.heap.size ≤ w4.heap.size := E4.size
               clear l0 hb3 k0 k1 k2 k3 hbW'
               clear E4
               go_wp2_with fail
               refine (cT _).mono ?_
               rintro e w5 ⟨rfl, E5⟩
               have X5 : Hid (Ext wr w5) := (X4.out.alloc _).trans E5
               have HB5 : Hid (Blk w5 w4.heap.size (.int .i64 vk) (.int .i64 vn) (.string vs') (.int .i64 ve)) := blk_top (by simp) E5
               obtain ⟨c0z, ⟨c0_0, c0_1, c0_2, c0_3⟩, c0f0, c0f1, c0f2, c0f3⟩ := HB5.out
               obtain ⟨q0z, ⟨q0, q1, q2, q3⟩, g0, g1, g2, g3⟩ := H3.out.1.w.ext X5.out
               rw [HZL.out] at q0
               have nvw : w4.heap.size ≠ W.heap.size + 2 := by have := H3.out.1.w.1; omega
               clear E5 m0 hb4
               have wi := WI.out
               go_wp2_with fail
               have XF := ((((X5.out.setCell (p := ⟨w4.heap.size, 0, none⟩) hvw (.int .i64 uk)).setCell (p := ⟨w4.heap.size, 1, none⟩) hvw (.int .i64 un)).setCell (p := ⟨w4.heap.size, 2, none⟩) hvw (.string us)).setCell (p := ⟨w4.heap.size, 3, none⟩) hvw (.int .i64 ue))
               go_roundw
               case rel => exact ⟨i + 1, _, _, _, by go_num, rfl, hi1, (HD.out _ (H3.out.1.same XF (r.v, a.area) (.inr ⟨by rw [HNF.out]; exact HU4.out, HZ4.out⟩)) (Below.mono XF H3.out.1.e.size)).1, (HD.out _ (H3.out.1.same XF (r.v, a.area) (.inr ⟨by rw [HNF.out]; exact HU4.out, HZ4.out⟩)) (Below.mono XF H3.out.1.e.size)).2⟩
               case measure => exact meas n2 i hi1 wi
             · have ez : (zk != 4) = true := by simpa using hz
               have HZ4 : Hid ((bad numF S).k ≠ 4) := by show _ ≠ _; rw [HZL.out]; exact hz
               clear hz
               go_wp2_with fail
               refine (cN _).mono ?_
               rintro e w4 ⟨rfl, E4⟩
               have m0 := (E4.cell.1 b _ hb3).trans l0
               have hb4 := Nat.lt_of_lt_of_le hb3 E4.size
               have X4 : Hid (Ext wr w4) := E4
               have hvw : wr.heap.size ≤ w4.heap.size := E4.size
               clear l0 hb3 k0 k1 k2 k3 hbW'
               clear E4
               go_wp2_with fail
               refine (cT _).mono ?_
               rintro e w5 ⟨rfl, E5⟩
               have X5 : Hid (Ext wr w5) := (X4.out.alloc _).trans E5
               have HB5 : Hid (Blk w5 w4.heap.size (.int .i64 vk) (.int .i64 vn) (.string vs') (.int .i64 ve)) := blk_top (by simp) E5
               obtain ⟨c0z, ⟨c0_0, c0_1, c0_2, c0_3⟩, c0f0, c0f1, c0f2, c0f3⟩ := HB5.out
               obtain ⟨q0z, ⟨q0, q1, q2, q3⟩, g0, g1, g2, g3⟩ := H3.out.1.w.ext X5.out
               rw [HZL.out] at q0
               have nvw : w4.heap.size ≠ W.heap.size + 2 := by have := H3.out.1.w.1; omega
               clear E5 m0 hb4
               have wi := WI.out
               go_wp2_with fail
               have NF := H3.out.1.err ((((X5.out.setCell (p := ⟨w4.heap.size, 0, none⟩) hvw (.int .i64 uk)).setCell (p := ⟨w4.heap.size, 1, none⟩) hvw (.int .i64 un)).setCell (p := ⟨w4.heap.size, 2, none⟩) hvw (.string us)).setCell (p := ⟨w4.heap.size, 3, none⟩) hvw (.int .i64 ue)) (r.v, a.area) u HNF.out HU4.out HZ4.out
               rw [HUE.out.1, HUE.out.2.1, HUE.out.2.2.1, HUE.out.2.2.2] at NF
               go_roundw
               case rel => exact ⟨i + 1, _, _, _, by go_num, rfl, hi1, HD.out _ NF (Ext.between H3.out.1.e NF.e (by have := X5.out.size; simp [World.setCell]; omega))⟩
               case measure => exact meas n2 i hi1 wi
           · exfalso
             rcases HY.out.2 with k | k
             · exact h2 (HUE.out.1.symm.trans k)
             · exact h4 (HUE.out.1.symm.trans k)
         · rw [har] at l0
           have HY : Hid (numF r.v a.area = numF r.v true) := by show _ = _; rw [har]
           clear har
           have HKC : Hid (r.v.k = 2 ∨ r.v.k = 4 ∨ (r.v.k ≠ 2 ∧ r.v.k ≠ 4 ∧ (numF r.v true).k = 0)) := by
             cases hv : r.v with
             | blank => right; right; exact ⟨by simp [V.k], by simp [V.k], rfl⟩
             | tf b => right; right; exact ⟨by simp [V.k], by simp [V.k], rfl⟩
             | num n => left; rfl
             | text s => right; right; exact ⟨by simp [V.k], by simp [V.k], rfl⟩
             | err e => right; left; rfl
           have HKN : Hid ((r.v.k = 2 ∨ r.v.k = 4) → numF r.v true = r.v) := by
             show _ → _
             cases hv : r.v with
             | blank => intro h; simp [V.k] at h
             | tf b => intro h; simp [V.k] at h
             | num n => intro _; rfl
             | text s => intro h; simp [V.k] at h
             | err e => intro _; rfl
           clear hok
           generalize r.v = u at *
           obtain ⟨uk, huk⟩ : ∃ q, u.k = q := ⟨_, rfl⟩
           obtain ⟨un, hun⟩ : ∃ q, u.n = q := ⟨_, rfl⟩
           obtain ⟨us, hus⟩ : ∃ q, u.s = q := ⟨_, rfl⟩
           obtain ⟨ue, hue⟩ : ∃ q, u.e = q := ⟨_, rfl⟩
           have HUE : Hid (u.k = uk ∧ u.n = un ∧ u.s = us ∧ u.e = ue) := ⟨huk, hun, hus, hue⟩
           rw [huk, hun, hus, hue] at cN
           rw [huk] at HKC HKN
           clear huk hun hus hue
           have HZL : Hid ((bad numF S).k = (bad numF S).k) := rfl
           obtain ⟨zk, hzk⟩ : ∃ q, (bad numF S).k = q := ⟨_, rfl⟩
           replace HZL : Hid ((bad numF S).k = zk) := hzk
           clear hzk
           by_cases h2 : uk = 2
           · have HNF : Hid (numF u a.area = u) := by show _ = _; rw [HY.out]; exact HKN.out (.inl h2)
             have e2 : (uk == 2) = true := by rw [h2]; rfl
             have e4 : (uk == 4) = false := by rw [h2]; rfl
             have HU2 : Hid (u.k = 2) := HUE.out.1.trans h2
             clear h2
             go_wp2_with fail
             refine (cN _).mono ?_
             rintro e w4 ⟨rfl, E4⟩
             have m0 := (E4.cell.1 b _ hb3).trans l0
             have hb4 := Nat.lt_of_lt_of_le hb3 E4.size
             have X4 : Hid (Ext wr w4) := E4
             have hvw : wr.heap.size ≤ w4.heap.size := E4.size
             clear l0 hb3 k0 k1 k2 k3 hbW'
             obtain ⟨q0z, ⟨q0, q1, q2, q3⟩, g0, g1, g2, g3⟩ := H3.out.1.w.ext E4
             rw [HZL.out] at q0
             clear E4
             go_wp2_with (at_builtin; refine nums_app W wr _ _ _ _ S un _ rfl rfl (by rfl) (by rfl) (by simp [go_sem]) H3.out.1 (by with_reducible repeat (first | assumption | exact X5.out | exact X4.out | exact Ext.refl _ | apply Ext.alloc | apply Ext.drewN | (refine Ext.setCell ?_ (by first | exact hvw | (simp; done)) _))) HSL.out (u, a.area) u HNF.out HU2.out HUE.out.2.1 ?_; intro p6 c6 W' N6 E6 K6; have BV := K6 w4.heap.size (.int .i64 uk) (.int .i64 un) (.string us) (.int .i64 ue) hvw (blk_top (by simp) ((Ext.refl _).alloc _)); have HN6 : Hid (Nums W (S ++ [(u, a.area)]) (.slice p6 ((got numF S).length + 1) c6) W' ∧ Below W.heap.size wr W') := ⟨N6, E6⟩; obtain ⟨d0z, ⟨d0_0, d0_1, d0_2, d0_3⟩, d0f0, d0f1, d0f2, d0f3⟩ := BV; clear N6 E6 K6; have wi := WI.out)
             go_roundw
             case rel => exact ⟨i + 1, _, _, _, by go_num, rfl, hi1, by rw [HT2.out]; exact HN6.out.1, H3.out.2.next HX.out.2.2 HN6.out.2⟩
             case measure => exact meas n2 i hi1 wi
           have e2 : (uk == 2) = false := by simpa using h2
           by_cases h4 : uk = 4
           · have HNF : Hid (numF u a.area = u) := by show _ = _; rw [HY.out]; exact HKN.out (.inr h4)
             have e4 : (uk == 4) = true := by rw [h4]; rfl
             have HU4 : Hid (u.k = 4) := HUE.out.1.trans h4
             clear h2 h4
             by_cases hz : zk = 4
             · have ez : (zk != 4) = false := by simpa using hz
               have HZ4 : Hid ((bad numF S).k = 4) := HZL.out.trans hz
               clear hz
               go_wp2_with fail
               refine (cN _).mono ?_
               rintro e w4 ⟨rfl, E4⟩
               have m0 := (E4.cell.1 b _ hb3).trans l0
               have hb4 := Nat.lt_of_lt_of_le hb3 E4.size
               have X4 : Hid (Ext wr w4) := E4
               have hvw : wr.heap.size ≤ w4.heap.size := E4.size
               clear l0 hb3 k0 k1 k2 k3 hbW'
               obtain ⟨q0z, ⟨q0, q1, q2, q3⟩, g0, g1, g2, g3⟩ := H3.out.1.w.ext E4
               rw [HZL.out] at q0
               clear E4
               have wi := WI.out
               go_wp2_with fail
               have XF := (X4.out.alloc (.cells #[.int .i64 uk, .int .i64 un, .string us, .int .i64 ue] 25))
               go_roundw
               case rel => exact ⟨i + 1, _, _, _, by go_num, rfl, hi1, (HD.out _ (H3.out.1.same XF (u, a.area) (.inr ⟨by rw [HNF.out]; exact HU4.out, HZ4.out⟩)) (Below.mono XF H3.out.1.e.size)).1, (HD.out _ (H3.out.1.same XF (u, a.area) (.inr ⟨by rw [HNF.out]; exact HU4.out, HZ4.out⟩)) (Below.mono XF H3.out.1.e.size)).2⟩
               case measure => exact meas n2 i hi1 wi
             · have ez : (zk != 4) = true := by simpa using hz
               have HZ4 : Hid ((bad numF S).k ≠ 4) := by show _ ≠ _; rw [HZL.out]; exact hz
               clear hz
               go_wp2_with fail
               refine (cN _).mono ?_
               rintro e w4 ⟨rfl, E4⟩
               have m0 := (E4.cell.1 b _ hb3).trans l0
               have hb4 := Nat.lt_of_lt_of_le hb3 E4.size
               have X4 : Hid (Ext wr w4) := E4
               have hvw : wr.heap.size ≤ w4.heap.size := E4.size
               clear l0 hb3 k0 k1 k2 k3 hbW'
               obtain ⟨q0z, ⟨q0, q1, q2, q3⟩, g0, g1, g2, g3⟩ := H3.out.1.w.ext E4
               rw [HZL.out] at q0
               clear E4
               have wi := WI.out
               go_wp2_with fail
               have NF := ((H3.out.1.err X4.out (u, a.area) u HNF.out HU4.out HZ4.out).ext ((Ext.refl _).alloc (.cells #[.int .i64 uk, .int .i64 un, .string us, .int .i64 ue] 25)))
               rw [HUE.out.1, HUE.out.2.1, HUE.out.2.2.1, HUE.out.2.2.2] at NF
               go_roundw
               case rel => exact ⟨i + 1, _, _, _, by go_num, rfl, hi1, HD.out _ NF (Ext.between H3.out.1.e NF.e (by have := X4.out.size; simp [World.setCell]; omega))⟩
               case measure => exact meas n2 i hi1 wi
           · have e4 : (uk == 4) = false := by simpa using h4
             have HN0 : Hid ((numF u a.area).k = 0) := by
               show _ = _
               rw [HY.out]
               rcases HKC.out with k | k | k
               · exact absurd k h2
               · exact absurd k h4
               · exact k.2.2
             clear h2 h4
             go_wp2_with fail
             refine (cN _).mono ?_
             rintro e w4 ⟨rfl, E4⟩
             have m0 := (E4.cell.1 b _ hb3).trans l0
             have hb4 := Nat.lt_of_lt_of_le hb3 E4.size
             have X4 : Hid (Ext wr w4) := E4
             have hvw : wr.heap.size ≤ w4.heap.size := E4.size
             clear l0 hb3 k0 k1 k2 k3 hbW'
             obtain ⟨q0z, ⟨q0, q1, q2, q3⟩, g0, g1, g2, g3⟩ := H3.out.1.w.ext E4
             rw [HZL.out] at q0
             clear E4
             have wi := WI.out
             go_wp2_with fail
             have XF := (X4.out.alloc (.cells #[.int .i64 uk, .int .i64 un, .string us, .int .i64 ue] 25))
             go_roundw
             case rel => exact ⟨i + 1, _, _, _, by go_num, rfl, hi1, HD.out _ (H3.out.1.same XF (u, a.area) (.inl HN0.out)) (Below.mono XF H3.out.1.e.size)⟩
             case measure => exact meas n2 i hi1 wi
       · have hltJ : ¬ (i : Int) < (n2 : Int) := by omega
         have H2 : Hid (Nums W (seen (gs.take (j + 1))) (.slice pv nv cv) wr) := by
           have h1 := H3.out.1
           have h2 := HR.out.2
           rw [show (allL a).take i = allL a from List.take_of_length_le (by omega)] at h1
           show Nums _ _ _ _
           rw [HT.out]; exact h1
         clear hlt
         have wk := WK.out
         go_wp2_with fail
         go_roundw
         case rel => exact ⟨j + 1, _, _, _, by go_num, rfl, hj1, H2.out⟩
         case measure => exact meas n j hj1 wk
   · have hltI : ¬ (j : Int) < (n : Int) := by omega
     have H2 : Hid (Nums W (seen gs) (.slice pv nv cv) wo) := by
       have h1 := HS.out
       have h2 := HN.out.1
       rw [show gs.take j = gs from List.take_of_length_le (by omega)] at h1
       exact h1
     have HD : Hid ((bad numF (seen gs)).dat = .agg #[.int .i64 (bad numF (seen gs)).k, .int .i64 (bad numF (seen gs)).n, .string (bad numF (seen gs)).s, .int .i64 (bad numF (seen gs)).e]) := dat_eq _
     obtain ⟨zz, ⟨z0, z1, z2, z3⟩, f0, f1, f2, f3⟩ := H2.out.z
     obtain ⟨qz, ⟨q0, q1, q2, q3⟩, g0, g1, g2, g3⟩ := H2.out.w
     obtain ⟨zk, hzk⟩ : ∃ q, (bad numF (seen gs)).k = q := ⟨_, rfl⟩
     obtain ⟨zn, hzn⟩ : ∃ q, (bad numF (seen gs)).n = q := ⟨_, rfl⟩
     obtain ⟨zs', hzs⟩ : ∃ q, (bad numF (seen gs)).s = q := ⟨_, rfl⟩
     obtain ⟨ze, hze⟩ : ∃ q, (bad numF (seen gs)).e = q := ⟨_, rfl⟩
     rw [hzk, hzn, hzs, hze] at HD
     rw [hzk] at q0
     rw [hzn] at q1
     rw [hzs] at q2
     rw [hze] at q3
     clear hlt hj hzk hzn hzs hze
     go_wp2_with fail
     go_region
     go_wp2_with fail
     have OR : ((put4 wo W.heap.size (.int .i64 zk) (.int .i64 zn) (.string zs') (.int .i64 ze)).drew).ownsRow W.heap.size 2 1 (.slice pv nv cv) (got numF (seen gs)).length ((got numF (seen gs)).flatMap cI) :=
       (own_far (own_far (own_far (own_far H2.out.o H2.out.r) H2.out.r) H2.out.r) H2.out.r).drew
     have ER : Ext W ((put4 wo W.heap.size (.int .i64 zk) (.int .i64 zn) (.string zs') (.int .i64 ze)).drew) := Ext.drew ((((H2.out.e.setCell (by simp) _).setCell (by simp) _).setCell (by simp) _).setCell (by simp) _)
     obtain ⟨_, ⟨r0, r1, r2, r3⟩, _⟩ := (H2.out.z.set (.int .i64 zk) (.int .i64 zn) (.string zs') (.int .i64 ze)).dr
     refine bodyPost_ret (v := .tuple #[.slice pv nv cv, .agg #[.int .i64 zk, .int .i64 zn, .string zs', .int .i64 ze]]) ?_ rfl ⟨_, by rw [HD.out], OR, ER⟩
     clear z0 z1 z2 z3 q0 q1 q2 q3 OR ER
     generalize hW9 : World.drew _ = W9 at r0 r1 r2 r3 ⊢
     clear hW9
     simp [results, Tryz.results38, go_sem, r0, r1, r2, r3]

open Go.RowKit
set_option maxHeartbeats 1000000

theorem field_lo (x y : Int) (W : World) : (Instr.field 69 (.agg #[.int .u64 x, .int .u64 y]) 1).run Tryz.prog W = .ok (.int .u64 y) W := by kernel_rfl
theorem rround_any (a d : Int) (ha : I64 a) (w : World) : Calls Tryz.prog 55 #[.int .i64 a, .int .i64 d] w fun e w' => e = .returned (.tuple #[.int .i64 (rndV a d), .bool (rndB a d)]) ∧ Ext w w' := by
 cases hc : canB a
 · have HC : Hid (rndB a d = false) := by show rndB a d = false; unfold rndB; rw [hc]; rfl
   have HV : Hid (rndV a d = 0) := by show rndV a d = 0; unfold rndV; rw [hc]; rfl
   go_enter Tryz.func55, Tryz.ntmps55
   go_wp2_with (go_at_call 31; refine (rcan_any _ _).mono ?_; rintro e w' ⟨rfl, rfl⟩)
   go_ret2
   exact ⟨ret_ib HV.out.symm HC.out.symm, Ext.refl _⟩
 by_cases d1 : 4 ≤ d
 · have HC : Hid (rndB a d = true) := by show rndB a d = true; unfold rndB; rw [hc]; simp [d1]
   have HV : Hid (rndV a d = a) := by show rndV a d = a; unfold rndV; rw [hc]; simp [d1]
   go_enter Tryz.func55, Tryz.ntmps55
   go_wp2_with (go_at_call 31; refine (rcan_any _ _).mono ?_; rintro e w' ⟨rfl, rfl⟩)
   go_ret2
   exact ⟨ret_ib HV.out.symm HC.out.symm, Ext.refl _⟩
 by_cases d2 : d < -14
 · have HC : Hid (rndB a d = true) := by show rndB a d = true; unfold rndB; rw [hc]; simp [d2]
   have HV : Hid (rndV a d = 0) := by show rndV a d = 0; unfold rndV; rw [hc]; simp [d1, d2]
   go_enter Tryz.func55, Tryz.ntmps55
   go_wp2_with (go_at_call 31; refine (rcan_any _ _).mono ?_; rintro e w' ⟨rfl, rfl⟩)
   go_ret2
   exact ⟨ret_ib HV.out.symm HC.out.symm, Ext.refl _⟩
 have hB : rndB a d = sgnB (rnN a d) := by unfold rndB; rw [hc]; simp [d1, d2]
 have hV : rndV a d = sgnV (decide (a < 0)) (rnN a d) := by unfold rndV; rw [hc]; simp [d1, d2]
 rw [hB, hV]
 clear hB hV
 have cA := fun W => rsize_any a ha W
 have eA : absI a = (a.natAbs : Int) := by unfold absI; omega
 rw [eA] at cA
 obtain ⟨_, _⟩ := ha
 have bA : a.natAbs ≤ 9223372036854775808 := by omega
 obtain ⟨n, hn⟩ : ∃ n : Nat, n = (4 - d).toNat := ⟨_, rfl⟩
 have hn2 : n ≤ 18 := by omega
 have hd : d = 4 - (n : Int) := by omega
 have HN : Hid (rnN a d = nearQ a.natAbs (10 ^ n) * 10 ^ n) := by show rnN a d = _; unfold rnN rndP; rw [← hn]
 have cW := fun W => rpower_any n hn2 W
 have p1 := ten_le' hn2
 have p0 := ten_pos n
 subst hd
 clear hn
 generalize a.natAbs = A at *
 generalize 10 ^ n = P at *
 have hq : nearQ A P ≤ A + 1 := by
   unfold nearQ
   have := Nat.div_le_self A P
   split <;> omega
 have cN := fun W => near_w A P (by omega) p0 (by omega) W
 rw [uhi_small A (by omega), lo_small' A (by omega), lo_small' (nearQ A P) (by omega)] at cN
 have cP := fun W => product_any (nearQ A P) P (by omega) (by omega) W
 have hle : nearQ A P * P ≤ 18446744073709551616 * 1000000000000000000 := Nat.mul_le_mul (by omega) p1
 have cS := fun (neg : Bool) W => rsigned_w neg (nearQ A P * P) (by omega) W
 generalize uhi (nearQ A P) = uu at *
 generalize nearQ A P * P = M at *
 generalize nearQ A P = N at *
 have e5 : (4 : Int) - (4 - (n : Int)) = n := by omega
 clear hle hq p0 p1 bA eA hn2
 have hfld := field_lo
 go_enter Tryz.func55, Tryz.ntmps55
 go_wp2_with (go_at_call 31; refine (rcan_any _ _).mono ?_; rintro e w' ⟨rfl, rfl⟩)
 refine (cW _).mono ?_
 rintro e w1 ⟨rfl, rfl⟩
 go_wp2_with fail
 refine (cA _).mono ?_
 rintro e w2 ⟨rfl, rfl⟩
 go_wp2_with fail
 refine (cN _).mono ?_
 rintro e w3 ⟨rfl, E3⟩
 go_wp2_with fail
 refine (cP _).mono ?_
 rintro e w4 ⟨rfl, E4⟩
 go_wp2_with fail
 refine (cS _ _).mono ?_
 rintro e w5 ⟨rfl, E5⟩
 go_wp2
 go_ret2
 exact ⟨ret_ib (by rw [HN.out]) (by rw [HN.out]), E3.trans (E4.trans E5)⟩

open Go.RowKit
set_option maxHeartbeats 1000000

theorem allL_one (g : Ag) (h : g.area = false) : ∃ q, allL g = [q] ∧ q.v = one1 g.l := by
 unfold allL
 rw [h]
 cases g.l with
 | nil => exact ⟨zR, rfl, rfl⟩
 | cons r t => exact ⟨r, rfl, rfl⟩
set_option maxRecDepth 100000 in
theorem rarg_any (l : List Bg) (i : Nat) (a : Bg) (ha : l[i]? = some a) (p : Option Addr) (n c : Nat) (W : World) (hF : FitB W (.slice p n c) l) :
   Calls Tryz.prog 26 #[.slice p n c, .int .i64 (i : Int)] W fun e w' => e = .returned (.agg #[.int .i64 (sgl a).k, .int .i64 (sgl a).n, .string (sgl a).s, .int .i64 (sgl a).e]) ∧ Ext W w' := by
 have hn := hF.rd.len
 have hm := hF.z
 have hlt : i < l.length := (List.getElem?_eq_some_iff.1 ha).1
 have d1 : (i : Int) < (n : Int) := by omega
 have d2 : (n : Int) ≤ 1500000 := by omega
 obtain ⟨b, off, lv, rfl, hb, hbW, ⟨k0, k1, k2, k3⟩, hV⟩ := hF.rd.at ha
 obtain ⟨p', n', c', rfl, hn', hc'⟩ := hV.form
 have HV : Hid (RdV W.heap.size W (.slice p' n' c') a.g.l) := hV
 clear hF hn hm hlt hV hn' hc' hb ha
 have c2 := fun W => rerr_any 2 W
 rw [mkErr_is ⟨by decide, by decide⟩] at c2
 simp only [V.dat] at c2
 cases har : a.g.area with
 | true =>
   have H : sgl a = .err 2 := by unfold sgl; rw [har]; rfl
   rw [H]
   rw [har] at k0
   clear har H
   go_enter Tryz.func26, Tryz.ntmps26
   go_wp2_with fail
   refine (c2 _).mono ?_
   rintro e w1 ⟨rfl, E1⟩
   obtain ⟨z, ⟨b0, b1, b2, b3⟩, f0, f1, f2, f3⟩ := blk_top (b := W.heap.size) (by simp) E1
   go_wp2_with fail
   exact fin4 b0 b1 b2 b3 rfl (by simp) (((Ext.refl _).alloc _).trans E1) (fun W g0 g1 g2 g3 => by simp [results, Tryz.results26, go_sem, g0, g1, g2, g3]) (fun W h => ⟨rfl, h⟩)
 | false =>
   obtain ⟨q, hq, hv⟩ := allL_one a.g har
   have H : sgl a = q.v := by unfold sgl; rw [har, hv]; rfl
   have c0 := fun (V : World) (e : Ext W V) => all_any a.g a.rows a.cols p' n' c' V.heap.size V (Nat.le_refl _) ((HV.out.low e).up e.size)
   rw [har] at c0 k0
   have cA : ∀ V, Ext W V → Calls Tryz.prog 45 #[.agg #[.bool false, .int .i64 a.rows, .int .i64 a.cols, .slice p' n' c']] V fun e w' => ∃ b1 o1 c1, e = .returned (.slice (some ⟨b1, o1, none⟩) 1 c1) ∧ (b1 < w'.heap.size ∧ w'.cell? ⟨b1, o1, none⟩ = some (.int .i64 q.k) ∧ w'.cell? ⟨b1, o1 + 1, none⟩ = some (.int .i64 q.n) ∧ w'.cell? ⟨b1, o1 + 2, none⟩ = some (.string q.s) ∧ w'.cell? ⟨b1, o1 + 3, none⟩ = some (.int .i64 q.e)) ∧ Ext V w' := fun V e => by
     refine (c0 V e).mono ?_
     rintro e w' ⟨p2, n2, c2, rfl, h2, E2⟩
     have h3 : RdV w'.heap.size w' (.slice p2 n2 c2) (allL a.g) := by
       rcases h2 with h2 | ⟨_, h2⟩
       · exact h2.up E2.size
       · exact h2
     rw [hq] at h3
     obtain rfl := h3.len
     obtain ⟨b1, o1, r1, rfl, hr, _, hb2, g0, g1, g2, g3⟩ := h3.at (i := 0) (by simp)
     simp at hr
     subst hr
     simp only [Nat.zero_mul, Nat.add_zero] at g0 g1 g2 g3
     exact ⟨b1, o1, c2, rfl, ⟨hb2, g0, g1, g2, g3⟩, E2⟩
   have cN := fun W => rnormal_any q.k q.n q.s q.e W
   rw [show nm q.k q.n q.s q.e = q.v from rfl, ← H, dat_eq] at cN
   generalize sgl a = v at *
   clear har hq hv H c0 HV
   go_enter Tryz.func26, Tryz.ntmps26
   go_wp2_with fail
   refine (cA _ ((Ext.refl _).alloc _)).mono ?_
   rintro e w1 ⟨b1, o1, c1, rfl, ⟨hb1, g0, g1, g2, g3⟩, E1⟩
   have B1 : Hid (Blk w1 W.heap.size (.int .i64 0) (.int .i64 0) (.string ⟨#[]⟩) (.int .i64 0) ∧ Ext W w1) := ⟨blk_top (by simp) E1, ((Ext.refl _).alloc _).trans E1⟩
   clear E1
   go_wp2_with fail
   refine (cN _).mono ?_
   rintro e w2 ⟨rfl, E2⟩
   have B2 : Hid (Blk w2 W.heap.size (.int .i64 0) (.int .i64 0) (.string ⟨#[]⟩) (.int .i64 0) ∧ Ext W w2) := ⟨B1.out.1.ext E2, B1.out.2.trans E2⟩
   clear E2
   obtain ⟨z, ⟨b0, b1, b2, b3⟩, f0, f1, f2, f3⟩ := B2.out.1
   go_wp2_with fail
   exact fin4 b0 b1 b2 b3 rfl (by simp) B2.out.2 (fun W g0 g1 g2 g3 => by simp [results, Tryz.results26, go_sem, g0, g1, g2, g3]) (fun W h => ⟨rfl, h⟩)
theorem floor_no (n : Int) (hc : canB n = true) (h : floorB n = false) (hn : I64 n) : n.tdiv 10000 - 1 = whN n := by
 unfold floorB subB fitB at h
 rw [hc] at h
 obtain ⟨h1, h2⟩ := hn
 have hm : canB (n % 10000) = true := by unfold canB; simp; omega
 rw [hm] at h
 simp at h
 refine (whole_div n).1 ?_
 have : n < 0 := by omega
 obtain ⟨m, rfl⟩ : ∃ m : Int, n = -m := ⟨-n, by omega⟩
 rw [Int.neg_tmod, Int.tmod_eq_emod_of_nonneg (by omega)]
 omega
theorem floor_yes (n : Int) (h : floorB n = true) : floorV n = n - n % 10000 := by
 unfold floorB at h
 simp at h
 unfold floorV subV
 rw [h.1, h.2]; rfl
theorem rwhole_any (n : Int) (hn : I64 n) (hc : canB n = true) (W : World) : Calls Tryz.prog 46 #[.int .i64 n] W fun e w' => e = .returned (.int .i64 (whN n)) ∧ Ext W w' := by
 have c0 := fun W => rfloor_any n hn W
 cases hB : floorB n with
 | false =>
   have h1 := floor_no n hc hB hn
   rw [hB] at c0
   have hb : -1000000000000000 ≤ n.tdiv 10000 ∧ n.tdiv 10000 ≤ 1000000000000000 := by
     obtain ⟨i1, i2⟩ := hn
     unfold whN at h1
     omega
   obtain ⟨q, hq⟩ : ∃ q, n.tdiv 10000 = q := ⟨_, rfl⟩
   rw [hq] at h1 hb
   obtain ⟨b1, b2⟩ := hb
   have HW : Hid (q - 1 = whN n) := h1
   have WK : wrap64 (q - 1) = q - 1 := by unfold wrap64; omega
   generalize floorV n = f at *
   clear h1 hB hn hc
   go_enter Tryz.func46, Tryz.ntmps46
   go_wp2_with fail
   refine (c0 _).mono ?_
   rintro e w1 ⟨rfl, E1⟩
   go_wp2_with fail
   go_ret
   exact ⟨ret_int HW.out, E1⟩
 | true =>
   have h1 := floor_yes n hB
   rw [hB] at c0
   have ht : (floorV n).tdiv 10000 = whN n := by
     rw [h1]
     have e : n - n % 10000 = n / 10000 * 10000 := by omega
     rw [e]
     exact Int.mul_tdiv_cancel _ (by decide)
   have hb : -1000000000000000 ≤ whN n ∧ whN n ≤ 1000000000000000 := by
     obtain ⟨i1, i2⟩ := hn
     unfold whN
     omega
   generalize floorV n = f at *
   generalize whN n = q at *
   obtain ⟨b1, b2⟩ := hb
   clear h1 hB hn hc
   go_enter Tryz.func46, Tryz.ntmps46
   go_wp2_with fail
   refine (c0 _).mono ?_
   rintro e w1 ⟨rfl, E1⟩
   go_wp2_with fail
   go_ret
   exact ⟨rfl, E1⟩
theorem rtold14_any (n : Int) (b : Bool) (W : World) : Calls Tryz.prog 53 #[.int .i64 n, .bool b] W fun e w' => e = .returned (.agg #[.int .i64 (toldR b n).k, .int .i64 (toldR b n).n, .string (toldR b n).s, .int .i64 (toldR b n).e]) ∧ Ext W w' := by
 cases b with
 | false =>
   have c2 := fun W => rerr_any 4 W
   rw [mkErr_is ⟨by decide, by decide⟩] at c2
   simp only [V.dat] at c2
   go_enter Tryz.func53, Tryz.ntmps53
   go_wp2_with fail
   refine (c2 _).mono ?_
   rintro e w1 ⟨rfl, E1⟩
   obtain ⟨z, ⟨b0, b1, b2, b3⟩, f0, f1, f2, f3⟩ := blk_top (b := W.heap.size) (by simp) E1
   go_wp2_with fail
   exact fin4 b0 b1 b2 b3 rfl (by simp) (((Ext.refl _).alloc _).trans E1) (fun W g0 g1 g2 g3 => by simp [results, Tryz.results53, go_sem, g0, g1, g2, g3]) (fun W h => ⟨rfl, h⟩)
 | true =>
   have c1 := fun W => rnum_any n W
   rw [dat_eq] at c1
   rw [show toldR true n = mkNum n from rfl]
   generalize mkNum n = v at *
   go_enter Tryz.func53, Tryz.ntmps53
   go_wp2_with fail
   refine (c1 _).mono ?_
   rintro e w1 ⟨rfl, E1⟩
   obtain ⟨z, ⟨b0, b1, b2, b3⟩, f0, f1, f2, f3⟩ := blk_top (b := W.heap.size) (by simp) E1
   go_wp2_with fail
   exact fin4 b0 b1 b2 b3 rfl (by simp) (((Ext.refl _).alloc _).trans E1) (fun W g0 g1 g2 g3 => by simp [results, Tryz.results53, go_sem, g0, g1, g2, g3]) (fun W h => ⟨rfl, h⟩)

open Go.RowKit
set_option maxHeartbeats 1000000

theorem rnum_at (n : Int) (W : World) : Calls Tryz.prog 17 #[.int .i64 n] W fun r w' => r = .returned (.agg #[.int .i64 (mkNum n).k, .int .i64 (mkNum n).n, .string (mkNum n).s, .int .i64 (mkNum n).e]) ∧ Ext W w' := by
 have := rnum_any n W
 rwa [dat_eq] at this
theorem rerr_at (e : Int) (h : 1 ≤ e ∧ e ≤ 5) (W : World) : Calls Tryz.prog 18 #[.int .i64 e] W fun r w' => r = .returned (.agg #[.int .i64 4, .int .i64 0, .string ⟨#[]⟩, .int .i64 e]) ∧ Ext W w' := by
 have := rerr_any e W
 rwa [mkErr_is h] at this
theorem rroot_at (a : Int) (ha : I64 a) (W' : World) : Calls Tryz.prog 54 #[.int .i64 a] W' fun e w' => e = .returned (.tuple #[.int .i64 (rootV a), .bool (rootB a)]) ∧ Ext W' w' := by
 unfold rootV rootB
 by_cases h : 0 ≤ a
 · obtain ⟨m, rfl⟩ : ∃ m : Nat, a = (m : Int) := ⟨a.toNat, by omega⟩
   rw [if_pos h]
   refine (rroot_any m (by have := ha.2; omega) W').mono ?_
   rintro e w' ⟨⟨r, rfl, hr, _⟩, E⟩
   have h2 : r = rtN (m * 10000) := hr.one (rt_is _)
   refine ⟨?_, E⟩
   rw [h2]
   simp
 · rw [if_neg h]
   refine (rroot_no a (by omega) W').mono ?_
   rintro e w' ⟨rfl, E⟩
   refine ⟨?_, E⟩
   simp [h]

set_option maxRecDepth 100000 in
theorem rof_not (s : ByteArray) (hs : s.data.toList = [78, 79, 84]) (b : Bool) (p : Option Addr) (n c : Nat) (W : World) :
   Calls Tryz.prog 30 #[.string s, .agg #[.int .i64 1, .int .i64 (if b then 1 else 0), .string ⟨#[]⟩, .int .i64 0], .slice p n c] W fun e w' => e = .returned (.agg #[.int .i64 (V.tf (!b)).k, .int .i64 (V.tf (!b)).n, .string (V.tf (!b)).s, .int .i64 (V.tf (!b)).e]) ∧ Ext W w' := by
 have hl : s.toList = [78, 79, 84] := by rw [ByteArray.toList_eq]; exact hs
 have e0 : (s.toList == [78, 79, 84]) = true := by rw [hl]; decide
 clear hs hl
 cases b with
 | true =>
   have c1 : ∀ W, Calls Tryz.prog 15 #[.bool false] W fun r w' => r = .returned (.agg #[.int .i64 1, .int .i64 0, .string ⟨#[]⟩, .int .i64 0]) ∧ Ext W w' := fun W => rbool_any false W
   have t0 : ((1 : Int) == 0) = false := rfl
   show Calls Tryz.prog 30 #[.string s, .agg #[.int .i64 1, .int .i64 1, .string ⟨#[]⟩, .int .i64 0], .slice p n c] W _
   go_enter Tryz.func30, Tryz.ntmps30
   go_wp2_with fail
   refine (c1 _).mono ?_
   rintro e w1 ⟨rfl, E1⟩
   have H1 : Hid (Ext W w1 ∧ Blk w1 W.heap.size (.int .i64 1) (.int .i64 1) (.string ⟨#[]⟩) (.int .i64 0) ∧ Blk w1 (W.heap.size + 1) (.int .i64 0) (.int .i64 0) (.string ⟨#[]⟩) (.int .i64 0)) := ⟨(((Ext.refl _).alloc _).alloc _).trans E1, blk_top rfl (((Ext.refl _).alloc _).trans E1), blk_top (by simp) E1⟩
   clear E1
   obtain ⟨zb, ⟨b0, b1, b2, b3⟩, bf0, bf1, bf2, bf3⟩ := H1.out.2.2
   go_wp2_with fail
   exact fin4 b0 b1 b2 b3 rfl (by simp) H1.out.1 (fun W g0 g1 g2 g3 => by simp [results, Tryz.results30, go_sem, g0, g1, g2, g3]) (fun W h => ⟨rfl, h⟩)
 | false =>
   have c1 : ∀ W, Calls Tryz.prog 15 #[.bool true] W fun r w' => r = .returned (.agg #[.int .i64 1, .int .i64 1, .string ⟨#[]⟩, .int .i64 0]) ∧ Ext W w' := fun W => rbool_any true W
   have t0 : ((0 : Int) == 0) = true := rfl
   show Calls Tryz.prog 30 #[.string s, .agg #[.int .i64 1, .int .i64 0, .string ⟨#[]⟩, .int .i64 0], .slice p n c] W _
   go_enter Tryz.func30, Tryz.ntmps30
   go_wp2_with fail
   refine (c1 _).mono ?_
   rintro e w1 ⟨rfl, E1⟩
   have H1 : Hid (Ext W w1 ∧ Blk w1 W.heap.size (.int .i64 1) (.int .i64 0) (.string ⟨#[]⟩) (.int .i64 0) ∧ Blk w1 (W.heap.size + 1) (.int .i64 0) (.int .i64 0) (.string ⟨#[]⟩) (.int .i64 0)) := ⟨(((Ext.refl _).alloc _).alloc _).trans E1, blk_top rfl (((Ext.refl _).alloc _).trans E1), blk_top (by simp) E1⟩
   clear E1
   obtain ⟨zb, ⟨b0, b1, b2, b3⟩, bf0, bf1, bf2, bf3⟩ := H1.out.2.2
   go_wp2_with fail
   exact fin4 b0 b1 b2 b3 rfl (by simp) H1.out.1 (fun W g0 g1 g2 g3 => by simp [results, Tryz.results30, go_sem, g0, g1, g2, g3]) (fun W h => ⟨rfl, h⟩)

set_option maxRecDepth 100000 in
theorem rof_len (s : ByteArray) (hs : s.data.toList = [76, 69, 78]) (t : ByteArray) (ht : t.size ≤ 300) (p : Option Addr) (n c : Nat) (W : World) :
   Calls Tryz.prog 30 #[.string s, .agg #[.int .i64 3, .int .i64 0, .string t, .int .i64 0], .slice p n c] W fun e w' => e = .returned (.agg #[.int .i64 (mkNum ((t.size : Int) * 10000)).k, .int .i64 (mkNum ((t.size : Int) * 10000)).n, .string (mkNum ((t.size : Int) * 10000)).s, .int .i64 (mkNum ((t.size : Int) * 10000)).e]) ∧ Ext W w' := by
 have hl : s.toList = [76, 69, 78] := by rw [ByteArray.toList_eq]; exact hs
 have e0 : (s.toList == [78, 79, 84]) = false := by rw [hl]; decide
 have e1 : (s.toList == [76, 69, 78]) = true := by rw [hl]; decide
 clear hs hl
 have htI : (t.size : Int) ≤ 300 := by omega
 have c1 := fun W => rnum_at ((t.size : Int) * 10000) W
 generalize mkNum ((t.size : Int) * 10000) = v at *
 clear ht
 go_enter Tryz.func30, Tryz.ntmps30
 go_wp2_with fail
 refine (c1 _).mono ?_
 rintro e w1 ⟨rfl, E1⟩
 have H1 : Hid (Ext W w1 ∧ Blk w1 W.heap.size (.int .i64 3) (.int .i64 0) (.string t) (.int .i64 0) ∧ Blk w1 (W.heap.size + 1) (.int .i64 0) (.int .i64 0) (.string ⟨#[]⟩) (.int .i64 0)) := ⟨(((Ext.refl _).alloc _).alloc _).trans E1, blk_top rfl (((Ext.refl _).alloc _).trans E1), blk_top (by simp) E1⟩
 clear E1
 obtain ⟨zb, ⟨b0, b1, b2, b3⟩, bf0, bf1, bf2, bf3⟩ := H1.out.2.2
 go_wp2_with fail
 exact fin4 b0 b1 b2 b3 rfl (by simp) H1.out.1 (fun W g0 g1 g2 g3 => by simp [results, Tryz.results30, go_sem, g0, g1, g2, g3]) (fun W h => ⟨rfl, h⟩)

set_option maxRecDepth 100000 in
theorem rof_abs (s : ByteArray) (hs : s.data.toList = [65, 66, 83]) (a : Int) (ha : I64 a) (hc : canB a = true) (p : Option Addr) (n c : Nat) (W : World) :
   Calls Tryz.prog 30 #[.string s, .agg #[.int .i64 2, .int .i64 a, .string ⟨#[]⟩, .int .i64 0], .slice p n c] W fun e w' => e = .returned (.agg #[.int .i64 (mkNum (szN a)).k, .int .i64 (mkNum (szN a)).n, .string (mkNum (szN a)).s, .int .i64 (mkNum (szN a)).e]) ∧ Ext W w' := by
 have hl : s.toList = [65, 66, 83] := by rw [ByteArray.toList_eq]; exact hs
 have e0 : (s.toList == [78, 79, 84]) = false := by rw [hl]; decide
 have e1 : (s.toList == [76, 69, 78]) = false := by rw [hl]; decide
 have e2 : (s.toList == [65, 66, 83]) = true := by rw [hl]; decide
 clear hs hl
 have c0 := fun W => (rsize_any a ha W).mono (R' := fun e w' => e = .returned (.int .u64 (absI a)) ∧ Ext W w') (fun e w' h => ⟨h.1, by rw [h.2]; exact Ext.refl _⟩)
 have hz : szN a = absI a := by unfold szN absI; rfl
 have hb : 0 ≤ absI a ∧ absI a ≤ 9223372036854775807 := by
   have h3 : a ≠ -9223372036854775808 := by simpa [canB] using hc
   obtain ⟨h1, h2⟩ := ha
   unfold absI; split <;> omega
 rw [hz]
 have c1 := fun W => rnum_at (absI a) W
 generalize mkNum (absI a) = v at *
 generalize absI a = y at *
 obtain ⟨y1, y2⟩ := hb
 clear hz ha hc
 go_enter Tryz.func30, Tryz.ntmps30
 go_wp2_with fail
 refine (c0 _).mono ?_
 rintro e w1 ⟨rfl, E1⟩
 have H1 : Hid (Ext W w1 ∧ Blk w1 W.heap.size (.int .i64 2) (.int .i64 a) (.string ⟨#[]⟩) (.int .i64 0) ∧ Blk w1 (W.heap.size + 1) (.int .i64 0) (.int .i64 0) (.string ⟨#[]⟩) (.int .i64 0)) := ⟨(((Ext.refl _).alloc _).alloc _).trans E1, blk_top rfl (((Ext.refl _).alloc _).trans E1), blk_top (by simp) E1⟩
 clear E1
 go_wp2_with fail
 refine (c1 _).mono ?_
 rintro e w2 ⟨rfl, E2⟩
 have H2 : Hid (Ext W w2 ∧ Blk w2 W.heap.size (.int .i64 2) (.int .i64 a) (.string ⟨#[]⟩) (.int .i64 0) ∧ Blk w2 (W.heap.size + 1) (.int .i64 0) (.int .i64 0) (.string ⟨#[]⟩) (.int .i64 0)) := ⟨(H1.out.1).trans (E2), (H1.out.2.1).ext (E2), (H1.out.2.2).ext (E2)⟩
 clear E2
 obtain ⟨zb, ⟨b0, b1, b2, b3⟩, bf0, bf1, bf2, bf3⟩ := H2.out.2.2
 go_wp2_with fail
 exact fin4 b0 b1 b2 b3 rfl (by simp) H2.out.1 (fun W g0 g1 g2 g3 => by simp [results, Tryz.results30, go_sem, g0, g1, g2, g3]) (fun W h => ⟨rfl, h⟩)

set_option maxRecDepth 100000 in
theorem rof_floor (s : ByteArray) (hs : s.data.toList = [70, 76, 79, 79, 82]) (a : Int) (ha : I64 a) (p : Option Addr) (n c : Nat) (W : World) :
   Calls Tryz.prog 30 #[.string s, .agg #[.int .i64 2, .int .i64 a, .string ⟨#[]⟩, .int .i64 0], .slice p n c] W fun e w' => e = .returned (.agg #[.int .i64 (toldR (floorB a) (floorV a)).k, .int .i64 (toldR (floorB a) (floorV a)).n, .string (toldR (floorB a) (floorV a)).s, .int .i64 (toldR (floorB a) (floorV a)).e]) ∧ Ext W w' := by
 have hl : s.toList = [70, 76, 79, 79, 82] := by rw [ByteArray.toList_eq]; exact hs
 have e0 : (s.toList == [78, 79, 84]) = false := by rw [hl]; decide
 have e1 : (s.toList == [76, 69, 78]) = false := by rw [hl]; decide
 have e2 : (s.toList == [65, 66, 83]) = false := by rw [hl]; decide
 have e3 : (s.toList == [70, 76, 79, 79, 82]) = true := by rw [hl]; decide
 clear hs hl
 have c0 := fun W => rfloor_any a ha W
 have c1 := fun W => rtold14_any (floorV a) (floorB a) W
 generalize toldR (floorB a) (floorV a) = v at *
 generalize floorV a = y at *
 generalize floorB a = yb at *
 clear ha
 go_enter Tryz.func30, Tryz.ntmps30
 go_wp2_with fail
 refine (c0 _).mono ?_
 rintro e w1 ⟨rfl, E1⟩
 have H1 : Hid (Ext W w1 ∧ Blk w1 W.heap.size (.int .i64 2) (.int .i64 a) (.string ⟨#[]⟩) (.int .i64 0) ∧ Blk w1 (W.heap.size + 1) (.int .i64 0) (.int .i64 0) (.string ⟨#[]⟩) (.int .i64 0)) := ⟨(((Ext.refl _).alloc _).alloc _).trans E1, blk_top rfl (((Ext.refl _).alloc _).trans E1), blk_top (by simp) E1⟩
 clear E1
 go_wp2_with fail
 refine (c1 _).mono ?_
 rintro e w2 ⟨rfl, E2⟩
 have H2 : Hid (Ext W w2 ∧ Blk w2 W.heap.size (.int .i64 2) (.int .i64 a) (.string ⟨#[]⟩) (.int .i64 0) ∧ Blk w2 (W.heap.size + 1) (.int .i64 0) (.int .i64 0) (.string ⟨#[]⟩) (.int .i64 0)) := ⟨(H1.out.1).trans (E2), (H1.out.2.1).ext (E2), (H1.out.2.2).ext (E2)⟩
 clear E2
 obtain ⟨zb, ⟨b0, b1, b2, b3⟩, bf0, bf1, bf2, bf3⟩ := H2.out.2.2
 go_wp2_with fail
 exact fin4 b0 b1 b2 b3 rfl (by simp) H2.out.1 (fun W g0 g1 g2 g3 => by simp [results, Tryz.results30, go_sem, g0, g1, g2, g3]) (fun W h => ⟨rfl, h⟩)

set_option maxRecDepth 100000 in
theorem rof_sqrt (s : ByteArray) (hs : s.data.toList = [83, 81, 82, 84]) (a : Int) (ha : I64 a) (p : Option Addr) (n c : Nat) (W : World) :
   Calls Tryz.prog 30 #[.string s, .agg #[.int .i64 2, .int .i64 a, .string ⟨#[]⟩, .int .i64 0], .slice p n c] W fun e w' => e = .returned (.agg #[.int .i64 (toldR (rootB a) (rootV a)).k, .int .i64 (toldR (rootB a) (rootV a)).n, .string (toldR (rootB a) (rootV a)).s, .int .i64 (toldR (rootB a) (rootV a)).e]) ∧ Ext W w' := by
 have hl : s.toList = [83, 81, 82, 84] := by rw [ByteArray.toList_eq]; exact hs
 have e0 : (s.toList == [78, 79, 84]) = false := by rw [hl]; decide
 have e1 : (s.toList == [76, 69, 78]) = false := by rw [hl]; decide
 have e2 : (s.toList == [65, 66, 83]) = false := by rw [hl]; decide
 have e3 : (s.toList == [70, 76, 79, 79, 82]) = false := by rw [hl]; decide
 have e4 : (s.toList == [83, 81, 82, 84]) = true := by rw [hl]; decide
 clear hs hl
 have c0 := fun W => rroot_at a ha W
 have c1 := fun W => rtold14_any (rootV a) (rootB a) W
 generalize toldR (rootB a) (rootV a) = v at *
 generalize rootV a = y at *
 generalize rootB a = yb at *
 clear ha
 go_enter Tryz.func30, Tryz.ntmps30
 go_wp2_with fail
 refine (c0 _).mono ?_
 rintro e w1 ⟨rfl, E1⟩
 have H1 : Hid (Ext W w1 ∧ Blk w1 W.heap.size (.int .i64 2) (.int .i64 a) (.string ⟨#[]⟩) (.int .i64 0) ∧ Blk w1 (W.heap.size + 1) (.int .i64 0) (.int .i64 0) (.string ⟨#[]⟩) (.int .i64 0)) := ⟨(((Ext.refl _).alloc _).alloc _).trans E1, blk_top rfl (((Ext.refl _).alloc _).trans E1), blk_top (by simp) E1⟩
 clear E1
 go_wp2_with fail
 refine (c1 _).mono ?_
 rintro e w2 ⟨rfl, E2⟩
 have H2 : Hid (Ext W w2 ∧ Blk w2 W.heap.size (.int .i64 2) (.int .i64 a) (.string ⟨#[]⟩) (.int .i64 0) ∧ Blk w2 (W.heap.size + 1) (.int .i64 0) (.int .i64 0) (.string ⟨#[]⟩) (.int .i64 0)) := ⟨(H1.out.1).trans (E2), (H1.out.2.1).ext (E2), (H1.out.2.2).ext (E2)⟩
 clear E2
 obtain ⟨zb, ⟨b0, b1, b2, b3⟩, bf0, bf1, bf2, bf3⟩ := H2.out.2.2
 go_wp2_with fail
 exact fin4 b0 b1 b2 b3 rfl (by simp) H2.out.1 (fun W g0 g1 g2 g3 => by simp [results, Tryz.results30, go_sem, g0, g1, g2, g3]) (fun W h => ⟨rfl, h⟩)
end Go.Proofs.YtalejeknigbhjaaGreatDoor

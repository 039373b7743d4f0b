import Derived.Test.YtjhmbkdkjgjoaaaX20
import Derived.Test.YtjhmbkdkjgjoaaaX13
import Derived.Laws.StructEq
namespace Go.Proofs.Ytjhmbkdkjgjoaaa
open Go.RowKit
set_option maxHeartbeats 4000000
theorem runs_last (q : List Rn) (r : Rn) (t : Int) : ((q ++ [r]).flatMap cRn).set (q.length * 3 + 2) (.int .i64 t) = (q ++ [(r.1, r.2.1, t)]).flatMap cRn := by
 have h := gm_len cRn_len q
 rw [List.flatMap_append, List.flatMap_append, ← h, List.set_append_right _ _ (by omega)]
 simp [cRn]
theorem rd_oneRn {W V : World} {x : Rn} (e : Ext (W.alloc (.cells #[.int .i64 x.1, .int .i64 x.2.1, .int .i64 x.2.2] 45)) V) : RdG cRn 3 V (.slice (some ⟨W.heap.size, 0, none⟩) 1 1) [x] :=
 RdG.one e.top (fun j u h => by simpa [cRn] using h)
theorem see_app {W w3 w9 : World} {A base sn : Nat} {v v9 vk : Value} {xs : List Value} {X Y lit : Obj} {P9 : Prop} (hO : W.ownsRow base 45 3 v sn xs ∧ vk = v) (hA : W.heap.size = A) (h1 : w3.heap[A + 1]? = some X) (h2 : w3.heap[A]? = some Y) (E : Ext W w3) (O9 : P9)
   (G9 : (w3.alloc lit).grownBy w9 v.ownBlock) (N9 : v9.ownBlock = v.ownBlock ∨ v9.ownBlock = some (w3.alloc lit).heap.size) : w9.heap[A + 1]? = some X ∧ w9.heap[A]? = some Y ∧ ExtS (fun b => some b = vk.ownBlock) W w9 ∧ P9 ∧ (v9.ownBlock = vk.ownBlock ∨ ∃ q, v9.ownBlock = some q ∧ W.heap.size ≤ q) := by
 have hlow : ∀ q, v.ownBlock = some q → q < A := fun q hq => by obtain ⟨_, cur, h3⟩ := own_heap hO.1 hq; have := heap_lt h3; omega
 have e1 : Ext w3 (w3.alloc lit) := (Ext.refl _).alloc _
 have z1 := heap_lt h1
 have z2 := heap_lt h2
 refine ⟨(G9.block _ (Nat.lt_of_lt_of_le z1 e1.size) (fun e => by have := hlow _ e.symm; omega)).trans ((e1.block _ z1).trans h1), (G9.block _ (Nat.lt_of_lt_of_le z2 e1.size) (fun e => by have := hlow _ e.symm; omega)).trans ((e1.block _ z2).trans h2), ((E.trans e1).toS _).grown G9 (fun q hq => .inl (by rw [hO.2]; exact hq.symm)), O9, ?_⟩
 rcases N9 with h | h
 · exact .inl (by rw [hO.2]; exact h)
 · exact .inr ⟨_, h, (E.trans e1).size⟩
theorem see_end {w0 W W5 w6 : World} {t n g : Nat} {D : DataW Value} {vs lvs : Int → Value} {σ : Spn} {k : Int} {v lv : Value} {s : List Rn × Cl} (h : FsS w0 W t n σ) (ht : W.heap[t]? = some (.cells #[.map (some g)] 46 (0, 0))) (hM : ColM W w0.heap.size g D vs lvs σ) (own : W.ownsMap Try.prog 3 hR g n D)
   (X : ExtS (fun b => some b = (vs k).ownBlock) W W5) (own6 : w6.ownsMap Try.prog 3 hR g (n + 1) (D.put (.int .i64 k) (.held (aggS v s.2 lv)))) (gr6 : W5.grownBy w6 (some g)) (hk : I64 k) (hO : W5.ownsRow w0.heap.size 45 3 v s.1.length (s.1.flatMap cRn))
   (hn : v.ownBlock = (vs k).ownBlock ∨ ∃ q, v.ownBlock = some q ∧ W.heap.size ≤ q) (hl : IsL W (fun b => b < w0.heap.size) lv s.2.x.l) (hok : SpOk (putS σ k s) (n + 1)) : FsS w0 w6 t (n + 1) (putS σ k s) := by
 have hmap : ∃ es cl, W.heap[g]? = some (.map es cl) := by obtain ⟨es, cl, hb, _⟩ := own; exact ⟨es, cl, hb⟩
 have hgown : ∀ q, (vs k).ownBlock = some q → w0.heap.size ≤ q ∧ q ≠ g ∧ q ≠ t := fun q hq => by
   obtain ⟨h1, cur, h2⟩ := own_heap (hM.row k) hq
   refine ⟨h1, fun e => ?_, fun e => ?_⟩
   · obtain ⟨es, cl, h3⟩ := hmap; rw [← e, h2] at h3; cases h3
   · rw [← e, h2] at ht; cases ht
 have X6 : ExtS (fun b => some b = (vs k).ownBlock ∨ b = g) W w6 := (X.mono (fun _ h => .inl h)).grown gr6 (fun q hq => .inl (.inr (by cases hq; rfl)))
 have htg : t ≠ g := fun e => by obtain ⟨es, cl, h3⟩ := hmap; rw [← e, ht] at h3; cases h3
 have same : ∀ q, q < W.heap.size → some q ≠ (vs k).ownBlock → q ≠ g → w6.heap[q]? = W.heap[q]? := fun q hq h1 h2 => X6.block q hq (fun h => by rcases h with h | h; exact h1 h; exact h2 h)
 have ho6 : w6.ownsRow w0.heap.size 45 3 v s.1.length (s.1.flatMap cRn) := own_kept hO (fun q hq hlt => gr6.block q hlt (fun e => by
   cases e
   obtain ⟨_, cur, h2⟩ := own_heap hO hq
   obtain ⟨es, cl, h3⟩ := hmap
   have h4 := X.block g (heap_lt h3) (fun e => (hgown g e.symm).2.1 rfl)
   rw [h3, h2] at h4; cases h4))
 refine ⟨X6.ext h.e (fun q hq => ?_), h.bt, hok, g, _, _, _, (same t (heap_lt ht) (fun e => (hgown t e.symm).2.2 rfl) htg).trans ht, own6, hM.put own.isMap hk hn ho6 (hl.keep X6.size (fun q hq hlt => same q hlt (fun e => by have := (hgown q e.symm).1; omega) (by have := hM.bg; omega)) (fun _ h _ => h)) (fun q hq hlt => same q hlt (fun e => by have := (hgown q e.symm).1; omega) (by have := hM.bg; omega)) X6.size (fun q hq h1 h2 => same q hq h1 (fun e => ?_))⟩
 · rcases hq with hq | hq
   · exact (hgown q hq.symm).1
   · rw [hq]; exact hM.bg
 · obtain ⟨cur, h2⟩ := h2; obtain ⟨es, cl, h3⟩ := hmap; rw [e, h3] at h2; cases h2
set_option maxRecDepth 100000 in
theorem see_any (N : Nat) (w0 W : World) (t n : Nat) (σ : Spn) (h : FsS w0 W t n σ) (hn : n ≤ 100000) (c : Cl) (lv : Value) (hL : IsL W (fun b => b < w0.heap.size) lv c.x.l) (hc : Hr N c.x) (hσ : ∀ k, Hr N (σ k).2.x) (hin : inB c.row c.col = true) (his : c.is = true) :
   Calls Try.prog 12 #[aggC c lv, .pointer (some ⟨t, 0, none⟩)] W fun e w' => e = .returned (.tuple #[]) ∧ FsS w0 w' t (n + 1) (stP (alk N) σ c) := by
 obtain ⟨g, D, vs, lvs, ht, own, hM⟩ := h.map
 have hI : I64 c.row ∧ I64 c.col ∧ IntKind.i64.wrap (c.row - 1) = c.row - 1 := by
   unfold inB at hin
   simp at hin
   exact ⟨by unfold I64; omega, by unfold I64; omega, iwrap (by omega) (by omega)⟩
 have he := h.e
 have hok := h.ok.step (A := alk N) c
 have hbt := h.bt
 have hne := h.ok.ne c.col
 have hfew := h.ok.few c.col
 obtain ⟨pp, cl, hlv, hlc⟩ := hL.form
 obtain ⟨lp, ln, lc, rfl⟩ : ∃ lp ln lc, lv = .slice lp ln lc := ⟨_, _, _, hlv⟩
 have hT := hM.tree c.col
 obtain ⟨mp, mn, mc, hlo⟩ : ∃ mp mn mc, lvs c.col = .slice mp mn mc := by obtain ⟨a, b, hab, _⟩ := hT.form; exact ⟨a, _, b, hab⟩
 have hO := hM.row c.col
 obtain ⟨sp, scap, hvs, hsc⟩ := own_form hO
 obtain ⟨sn, hsn⟩ : ∃ sn, (σ c.col).1.length = sn := ⟨_, rfl⟩
 obtain ⟨o, ho⟩ : ∃ o, (σ c.col).2 = o := ⟨_, rfl⟩
 obtain ⟨rs, hrs⟩ : ∃ rs, (σ c.col).1 = rs := ⟨_, rfl⟩
 have hst : stP (alk N) σ c = putS σ c.col (seeP (alk N) (rs, o) c) := by
   unfold stP
   rw [if_pos his, ← hrs, ← ho]
 have HG : Hid (FsS w0 W t n σ ∧ Hr N o.x ∧ IsL W (fun b => b < w0.heap.size) (.slice mp mn mc) o.x.l ∧ Ext w0 W ∧ (o.is = true → rs ≠ []) ∧ rs.length = sn ∧ sn ≤ n) := ⟨h, by rw [← ho]; exact hσ _, by rw [← ho, ← hlo]; exact hT, he, by rw [← ho, ← hrs]; exact hne, by rw [← hrs]; exact hsn, by rw [← hsn]; exact hfew⟩
 have HM : Hid (W.heap[t]? = some (.cells #[.map (some g)] 46 (0, 0)) ∧ W.ownsMap Try.prog 3 hR g n D ∧ ColM W w0.heap.size g D vs lvs σ) := ⟨ht, own, hM⟩
 have HO : Hid (W.ownsRow w0.heap.size 45 3 (.slice sp sn scap) sn (rs.flatMap cRn) ∧ vs c.col = .slice sp sn scap) := by
   rw [hvs, hsn, hrs] at hO
   exact ⟨hO, by rw [hvs, hsn]⟩
 have HI : Hid (I64 c.col ∧ n ≤ 100000 ∧ w0.heap.size ≤ t ∧ SpOk (stP (alk N) σ c) (n + 1) ∧ IsL W (fun b => b < w0.heap.size) (.slice lp ln lc) c.x.l ∧ stP (alk N) σ c = putS σ c.col (seeP (alk N) (rs, o) c)) := ⟨hI.2.1, hn, hbt, hok, hL, hst⟩
 have zt := heap_lt ht
 obtain ⟨A, hA⟩ : ∃ A, W.heap.size = A := ⟨_, rfl⟩
 obtain ⟨W1, hW1⟩ : ∃ W1, W1 = W.alloc (.cells #[.int .i64 c.row, .int .i64 c.col, .string c.txt, .bool c.is, .int .i64 c.x.k, .int .i64 c.x.n, .string (bs c.x.s), .int .i64 c.x.e, .int .i64 c.x.r.1, .int .i64 c.x.r.2.1, .bool c.x.r.2.2.1, .bool c.x.r.2.2.2, .int .i64 c.x.q.1, .int .i64 c.x.q.2.1, .bool c.x.q.2.2.1, .bool c.x.q.2.2.2, .slice lp ln lc, .int .i64 c.vk, .int .i64 c.vn, .string c.vs, .int .i64 c.ve] 33) := ⟨_, rfl⟩
 have E1 : Ext W W1 := by rw [hW1]; exact (Ext.refl _).alloc _
 have h1A : W1.heap[A]? = some (.cells #[.int .i64 c.row, .int .i64 c.col, .string c.txt, .bool c.is, .int .i64 c.x.k, .int .i64 c.x.n, .string (bs c.x.s), .int .i64 c.x.e, .int .i64 c.x.r.1, .int .i64 c.x.r.2.1, .bool c.x.r.2.2.1, .bool c.x.r.2.2.2, .int .i64 c.x.q.1, .int .i64 c.x.q.2.1, .bool c.x.q.2.2.1, .bool c.x.q.2.2.2, .slice lp ln lc, .int .i64 c.vk, .int .i64 c.vn, .string c.vs, .int .i64 c.ve] 33 (0, 0)) := by rw [hW1, ← hA]; exact top_heap _ _
 have hA1 : W1.heap.size = A + 1 := by rw [hW1]; simp [hA]
 have hlk : (Instr.lookup 46 (.map (some g)) (.int .i64 c.col) false).run Try.prog W1 = .ok (.agg [.slice sp sn scap, .int .i64 o.row, .int .i64 o.col, .string o.txt, .bool o.is, .int .i64 o.x.k, .int .i64 o.x.n, .string (bs o.x.s), .int .i64 o.x.e, .int .i64 o.x.r.1, .int .i64 o.x.r.2.1, .bool o.x.r.2.2.1, .bool o.x.r.2.2.2, .int .i64 o.x.q.1, .int .i64 o.x.q.2.1, .bool o.x.q.2.2.1, .bool o.x.q.2.2.2, .slice mp mn mc, .int .i64 o.vk, .int .i64 o.vn, .string o.vs, .int .i64 o.ve].toArray) W1 := by
   have := col_look (ownsMap_ext own E1) (hM.ext E1) hI.2.1
   rw [hvs, hsn, hlo, ho] at this
   exact this
 have k0 : W1.cell? ⟨t, 0, none⟩ = some (.map (some g)) := (cell_of_row _ _ 0 _ _ (0, 0) ((E1.block t zt).trans ht)).trans rfl
 have j1 : W1.cell? ⟨A, 1, none⟩ = some (.int .i64 c.col) := (cell_of_row _ _ 1 _ _ (0, 0) h1A).trans rfl
 obtain ⟨W2, hW2⟩ : ∃ W2, W2 = W1.alloc (.cells [.slice sp sn scap, .int .i64 o.row, .int .i64 o.col, .string o.txt, .bool o.is, .int .i64 o.x.k, .int .i64 o.x.n, .string (bs o.x.s), .int .i64 o.x.e, .int .i64 o.x.r.1, .int .i64 o.x.r.2.1, .bool o.x.r.2.2.1, .bool o.x.r.2.2.2, .int .i64 o.x.q.1, .int .i64 o.x.q.2.1, .bool o.x.q.2.2.1, .bool o.x.q.2.2.2, .slice mp mn mc, .int .i64 o.vk, .int .i64 o.vn, .string o.vs, .int .i64 o.ve].toArray 48) := ⟨_, rfl⟩
 have E2 : Ext W1 W2 := by rw [hW2]; exact (Ext.refl _).alloc _
 have h2S : W2.heap[A + 1]? = some (.cells [.slice sp sn scap, .int .i64 o.row, .int .i64 o.col, .string o.txt, .bool o.is, .int .i64 o.x.k, .int .i64 o.x.n, .string (bs o.x.s), .int .i64 o.x.e, .int .i64 o.x.r.1, .int .i64 o.x.r.2.1, .bool o.x.r.2.2.1, .bool o.x.r.2.2.2, .int .i64 o.x.q.1, .int .i64 o.x.q.2.1, .bool o.x.q.2.2.1, .bool o.x.q.2.2.2, .slice mp mn mc, .int .i64 o.vk, .int .i64 o.vn, .string o.vs, .int .i64 o.ve].toArray 48 (0, 0)) := by rw [hW2, ← hA1]; exact top_heap _ _
 have h2A : W2.heap[A]? = some (.cells #[.int .i64 c.row, .int .i64 c.col, .string c.txt, .bool c.is, .int .i64 c.x.k, .int .i64 c.x.n, .string (bs c.x.s), .int .i64 c.x.e, .int .i64 c.x.r.1, .int .i64 c.x.r.2.1, .bool c.x.r.2.2.1, .bool c.x.r.2.2.2, .int .i64 c.x.q.1, .int .i64 c.x.q.2.1, .bool c.x.q.2.2.1, .bool c.x.q.2.2.2, .slice lp ln lc, .int .i64 c.vk, .int .i64 c.vn, .string c.vs, .int .i64 c.ve] 33 (0, 0)) := (E2.block A (heap_lt h1A)).trans h1A
 have cG := goes_any N w0.heap.size o c (.slice mp mn mc) (.slice lp ln lc) W2 (HG.out.2.2.1.ext (E1.trans E2)) (hL.ext (E1.trans E2)) HG.out.2.1 hc hI.2.2
 have R2 : Hid (W2.rangeAt (A + 1) 1 [.int .i64 o.row, .int .i64 o.col, .string o.txt, .bool o.is, .int .i64 o.x.k, .int .i64 o.x.n, .string (bs o.x.s), .int .i64 o.x.e, .int .i64 o.x.r.1, .int .i64 o.x.r.2.1, .bool o.x.r.2.2.1, .bool o.x.r.2.2.2, .int .i64 o.x.q.1, .int .i64 o.x.q.2.1, .bool o.x.q.2.2.1, .bool o.x.q.2.2.2, .slice mp mn mc, .int .i64 o.vk, .int .i64 o.vn, .string o.vs, .int .i64 o.ve] ∧ W2.rangeAt A 0 [.int .i64 c.row, .int .i64 c.col, .string c.txt, .bool c.is, .int .i64 c.x.k, .int .i64 c.x.n, .string (bs c.x.s), .int .i64 c.x.e, .int .i64 c.x.r.1, .int .i64 c.x.r.2.1, .bool c.x.r.2.2.1, .bool c.x.r.2.2.2, .int .i64 c.x.q.1, .int .i64 c.x.q.2.1, .bool c.x.q.2.2.1, .bool c.x.q.2.2.2, .slice lp ln lc, .int .i64 c.vk, .int .i64 c.vn, .string c.vs, .int .i64 c.ve]) := ⟨rng_heap (o := 1) h2S (fun j v hj => by rw [Nat.add_comm, List.getElem?_cons_succ]; exact hj), rng_heap (o := 0) h2A (fun j v hj => by rw [Nat.zero_add]; exact hj)⟩
 have HE : Hid (Ext W W1 ∧ Ext W1 W2 ∧ W2.heap[A + 1]? = some (.cells [.slice sp sn scap, .int .i64 o.row, .int .i64 o.col, .string o.txt, .bool o.is, .int .i64 o.x.k, .int .i64 o.x.n, .string (bs o.x.s), .int .i64 o.x.e, .int .i64 o.x.r.1, .int .i64 o.x.r.2.1, .bool o.x.r.2.2.1, .bool o.x.r.2.2.2, .int .i64 o.x.q.1, .int .i64 o.x.q.2.1, .bool o.x.q.2.2.1, .bool o.x.q.2.2.2, .slice mp mn mc, .int .i64 o.vk, .int .i64 o.vn, .string o.vs, .int .i64 o.ve].toArray 48 (0, 0)) ∧ W2.heap[A]? = some (.cells #[.int .i64 c.row, .int .i64 c.col, .string c.txt, .bool c.is, .int .i64 c.x.k, .int .i64 c.x.n, .string (bs c.x.s), .int .i64 c.x.e, .int .i64 c.x.r.1, .int .i64 c.x.r.2.1, .bool c.x.r.2.2.1, .bool c.x.r.2.2.2, .int .i64 c.x.q.1, .int .i64 c.x.q.2.1, .bool c.x.q.2.2.1, .bool c.x.q.2.2.2, .slice lp ln lc, .int .i64 c.vk, .int .i64 c.vn, .string c.vs, .int .i64 c.ve] 33 (0, 0)) ∧ W.heap.size = A ∧ t < A) := ⟨E1, E2, h2S, h2A, hA, by omega⟩
 have HK : Hid ((Instr.lookup 46 (.map (some g)) (.int .i64 c.col) false).run Try.prog W1 = .ok (.agg [.slice sp sn scap, .int .i64 o.row, .int .i64 o.col, .string o.txt, .bool o.is, .int .i64 o.x.k, .int .i64 o.x.n, .string (bs o.x.s), .int .i64 o.x.e, .int .i64 o.x.r.1, .int .i64 o.x.r.2.1, .bool o.x.r.2.2.1, .bool o.x.r.2.2.2, .int .i64 o.x.q.1, .int .i64 o.x.q.2.1, .bool o.x.q.2.2.1, .bool o.x.q.2.2.2, .slice mp mn mc, .int .i64 o.vk, .int .i64 o.vn, .string o.vs, .int .i64 o.ve].toArray) W1) := hlk
 have HW2 : Hid (W2 = W1.alloc (.cells [.slice sp sn scap, .int .i64 o.row, .int .i64 o.col, .string o.txt, .bool o.is, .int .i64 o.x.k, .int .i64 o.x.n, .string (bs o.x.s), .int .i64 o.x.e, .int .i64 o.x.r.1, .int .i64 o.x.r.2.1, .bool o.x.r.2.2.1, .bool o.x.r.2.2.2, .int .i64 o.x.q.1, .int .i64 o.x.q.2.1, .bool o.x.q.2.2.1, .bool o.x.q.2.2.2, .slice mp mn mc, .int .i64 o.vk, .int .i64 o.vn, .string o.vs, .int .i64 o.ve].toArray 48)) := hW2
 have HW1 : Hid (W1 = W.alloc (.cells #[.int .i64 c.row, .int .i64 c.col, .string c.txt, .bool c.is, .int .i64 c.x.k, .int .i64 c.x.n, .string (bs c.x.s), .int .i64 c.x.e, .int .i64 c.x.r.1, .int .i64 c.x.r.2.1, .bool c.x.r.2.2.1, .bool c.x.r.2.2.2, .int .i64 c.x.q.1, .int .i64 c.x.q.2.1, .bool c.x.q.2.2.1, .bool c.x.q.2.2.2, .slice lp ln lc, .int .i64 c.vk, .int .i64 c.vn, .string c.vs, .int .i64 c.ve] 33)) := hW1
 have HA1 : Hid (W1.heap.size = A + 1) := hA1
 clear h hn hL hc hσ hin hI he hok hbt hne hfew hlv hlc hT hlo hO hvs hsc hsn ho hrs hst ht own hM E1 E2 h1A h2A h2S hlk zt his hW1 hW2 hA1
 go_enter Try.func12, Try.ntmps12
 unfold aggC
 go_upto_region 1 with fail
 rw [← HW1.out]
 clear hA
 go_upto_region 2 with (first | (at_lookup; refine wpList_look _ rfl _ _ 46 rfl _ _ _ rfl rfl HK.out ?_) | (refine wpList_storeN _ rfl _ _ 48 rfl _ _ rfl rfl (by kernel_rfl) (by rfl) (by simp [Value.oneCell']) ?_))
 rw [← HW2.out, HA1.out]
 clear k0 j1
 obtain ⟨bb, hbb⟩ : ∃ bb, nxB (alk N) o c = bb := ⟨_, rfl⟩
 rw [hbb] at cG
 have HBB : Hid (nxB (alk N) o c = bb) := hbb
 clear hbb
 go_wp2_with (first | (refine wpList_load_mid rfl 33 _ rfl (A + 1) 1 rfl _ _ R2.out.1 Try.underlying33 rfl (by kernel_rfl) ?_) | (refine wpList_load_mid rfl 33 _ rfl A 0 rfl _ _ R2.out.2 Try.underlying33 rfl (by kernel_rfl) ?_))
 refine cG.mono ?_
 rintro e w3 ⟨rfl, E3⟩
 have H3 : Hid (Ext W w3 ∧ w3.heap[A + 1]? = some (.cells [.slice sp sn scap, .int .i64 o.row, .int .i64 o.col, .string o.txt, .bool o.is, .int .i64 o.x.k, .int .i64 o.x.n, .string (bs o.x.s), .int .i64 o.x.e, .int .i64 o.x.r.1, .int .i64 o.x.r.2.1, .bool o.x.r.2.2.1, .bool o.x.r.2.2.2, .int .i64 o.x.q.1, .int .i64 o.x.q.2.1, .bool o.x.q.2.2.1, .bool o.x.q.2.2.2, .slice mp mn mc, .int .i64 o.vk, .int .i64 o.vn, .string o.vs, .int .i64 o.ve].toArray 48 (0, 0)) ∧ w3.heap[A]? = some (.cells #[.int .i64 c.row, .int .i64 c.col, .string c.txt, .bool c.is, .int .i64 c.x.k, .int .i64 c.x.n, .string (bs c.x.s), .int .i64 c.x.e, .int .i64 c.x.r.1, .int .i64 c.x.r.2.1, .bool c.x.r.2.2.1, .bool c.x.r.2.2.2, .int .i64 c.x.q.1, .int .i64 c.x.q.2.1, .bool c.x.q.2.2.1, .bool c.x.q.2.2.2, .slice lp ln lc, .int .i64 c.vk, .int .i64 c.vn, .string c.vs, .int .i64 c.ve] 33 (0, 0))) := ⟨(HE.out.1.trans HE.out.2.1).trans E3, (E3.block _ (heap_lt HE.out.2.2.1)).trans HE.out.2.2.1, (E3.block _ (heap_lt HE.out.2.2.2.1)).trans HE.out.2.2.2.1⟩
 clear cG E3
 cases bb with
 | true =>
   have hne : rs ≠ [] := HG.out.2.2.2.2.1 (by have := HBB.out; unfold nxB at this; simp at this; exact this.1)
   obtain ⟨q, r, hqr⟩ : ∃ q r, rs = q ++ [r] := ⟨rs.dropLast, rs.getLast hne, (List.dropLast_concat_getLast hne).symm⟩
   obtain ⟨m, hm⟩ : ∃ m, q.length = m := ⟨_, rfl⟩
   have hsn : sn = m + 1 := by rw [← HG.out.2.2.2.2.2.1, hqr]; simp [hm]
   obtain ⟨gr, rfl, hgr⟩ : ∃ gr, sp = some ⟨gr, 0, none⟩ ∧ gr < A := by
     rcases HO.out.1.2 with ⟨h1, h2⟩ | ⟨g', cap', cur, h1, _, h2, _⟩
     · omega
     · cases h1; exact ⟨g', rfl, by have := heap_lt h2; have := HE.out.2.2.2.2.1; omega⟩
   have O3 := ownsRow_ext HO.out.1 H3.out.1
   have hS := HO.out.2
   rw [hqr] at O3
   have hlen := gm_len cRn_len (q ++ [r])
   have hst := World.ownsRow.stored O3 (m * 3 + 2) (.int .i64 c.row)
   rw [← hm, runs_last] at hst
   have hxs : ((q ++ [r]).flatMap cRn)[m * 3 + 2]? = some (.int .i64 r.2.2) := by
     rw [gm_at cRn_len (q ++ [r]) m r 2 (by rw [← hm]; simp) (by omega)]
     rfl
   have kx : w3.cell? ⟨gr, m * 3 + 2, none⟩ = some (.int .i64 r.2.2) := by rw [World.ownsRow.cellAt O3 _ (by omega)]; exact hxs
   have kf : w3.frozen? ⟨gr, m * 3 + 2, none⟩ = false := World.ownsRow.frozenAt O3 _
   have wl : IntKind.i64.wrap ((sn : Int) - 1) = (m : Int) := by have := HI.out.2.1; have := HG.out.2.2.2.2.2.2; rw [iwrap (by omega) (by omega)]; omega
   have hmI : (m : Int) < (sn : Int) := by omega
   have s0 : w3.cell? ⟨A + 1, 0, none⟩ = some (.slice (some ⟨gr, 0, none⟩) sn scap) := (cell_of_row _ _ 0 _ _ (0, 0) H3.out.2.1).trans rfl
   have j0 : w3.cell? ⟨A, 0, none⟩ = some (.int .i64 c.row) := (cell_of_row _ _ 0 _ _ (0, 0) H3.out.2.2).trans rfl
   obtain ⟨W4, hW4⟩ : ∃ W4, W4 = w3.setCell ⟨gr, m * 3 + 2, none⟩ (.int .i64 c.row) := ⟨_, rfl⟩
   rw [hm, ← hW4] at hst
   have K : Hid (W4.heap[A + 1]? = some (.cells [.slice (some ⟨gr, 0, none⟩) sn scap, .int .i64 o.row, .int .i64 o.col, .string o.txt, .bool o.is, .int .i64 o.x.k, .int .i64 o.x.n, .string (bs o.x.s), .int .i64 o.x.e, .int .i64 o.x.r.1, .int .i64 o.x.r.2.1, .bool o.x.r.2.2.1, .bool o.x.r.2.2.2, .int .i64 o.x.q.1, .int .i64 o.x.q.2.1, .bool o.x.q.2.2.1, .bool o.x.q.2.2.2, .slice mp mn mc, .int .i64 o.vk, .int .i64 o.vn, .string o.vs, .int .i64 o.ve].toArray 48 (0, 0)) ∧ W4.heap[A]? = some (.cells #[.int .i64 c.row, .int .i64 c.col, .string c.txt, .bool c.is, .int .i64 c.x.k, .int .i64 c.x.n, .string (bs c.x.s), .int .i64 c.x.e, .int .i64 c.x.r.1, .int .i64 c.x.r.2.1, .bool c.x.r.2.2.1, .bool c.x.r.2.2.2, .int .i64 c.x.q.1, .int .i64 c.x.q.2.1, .bool c.x.q.2.2.1, .bool c.x.q.2.2.2, .slice lp ln lc, .int .i64 c.vk, .int .i64 c.vn, .string c.vs, .int .i64 c.ve] 33 (0, 0)) ∧ ExtS (fun b => some b = (vs c.col).ownBlock) W W4 ∧ W4.ownsRow w0.heap.size 45 3 (.slice (some ⟨gr, 0, none⟩) sn scap) (q ++ [(r.1, r.2.1, c.row)]).length ((q ++ [(r.1, r.2.1, c.row)]).flatMap cRn) ∧ ((.slice (some ⟨gr, 0, none⟩) sn scap : Value).ownBlock = (vs c.col).ownBlock ∨ ∃ q, (.slice (some ⟨gr, 0, none⟩) sn scap : Value).ownBlock = some q ∧ W.heap.size ≤ q) ∧ (seeP (alk N) (rs, o) c).1 = q ++ [(r.1, r.2.1, c.row)]) := by
     refine ⟨(hst.2.block (A + 1) (heap_lt H3.out.2.1) (by simp; omega)).trans H3.out.2.1, (hst.2.block A (heap_lt H3.out.2.2) (by simp; omega)).trans H3.out.2.2, (H3.out.1.toS _).grown hst.2 (fun q hq => .inl (by rw [hS]; exact hq.symm)), ?_, .inl (by rw [hS]), ?_⟩
     · rw [show (q ++ [(r.1, r.2.1, c.row)]).length = sn by simp [hm, hsn]]
       exact hst.1
     · unfold seeP
       rw [if_pos HBB.out, hqr]
       simp [lsR]
   have HW4 : Hid (W4 = w3.setCell ⟨gr, m * 3 + 2, none⟩ (.int .i64 c.row)) := hW4
   clear hne hqr hm hsn hgr O3 hS hlen hst hxs hW4
   go_upto_region 5 with fail
   rw [← HW4.out]
   clear wl hmI s0 j0 kx kf
   have TH : Hid (W4.there (A + 1) 1 21 ∧ W4.rangeAt A 0 [.int .i64 c.row, .int .i64 c.col, .string c.txt, .bool c.is, .int .i64 c.x.k, .int .i64 c.x.n, .string (bs c.x.s), .int .i64 c.x.e, .int .i64 c.x.r.1, .int .i64 c.x.r.2.1, .bool c.x.r.2.2.1, .bool c.x.r.2.2.2, .int .i64 c.x.q.1, .int .i64 c.x.q.2.1, .bool c.x.q.2.2.1, .bool c.x.q.2.2.2, .slice lp ln lc, .int .i64 c.vk, .int .i64 c.vn, .string c.vs, .int .i64 c.ve]) := ⟨there_heap K.out.1 (by simp), rng_heap (o := 0) K.out.2.1 (fun j v hj => by rw [Nat.zero_add]; exact hj)⟩
   go_upto_region 6 with (first | (refine wpList_load_mid rfl 33 _ rfl A 0 rfl _ _ TH.out.2 Try.underlying33 rfl (by kernel_rfl) ?_) | (refine wpList_store_mid rfl 33 _ _ rfl (A + 1) 1 _ rfl rfl TH.out.1 (by kernel_rfl) (by simp [Value.oneCell']) ?_))
   obtain ⟨W5, hW5⟩ : ∃ W5, W5 = W4.setCells (A + 1) 1 [.int .i64 c.row, .int .i64 c.col, .string c.txt, .bool c.is, .int .i64 c.x.k, .int .i64 c.x.n, .string (bs c.x.s), .int .i64 c.x.e, .int .i64 c.x.r.1, .int .i64 c.x.r.2.1, .bool c.x.r.2.2.1, .bool c.x.r.2.2.2, .int .i64 c.x.q.1, .int .i64 c.x.q.2.1, .bool c.x.q.2.2.1, .bool c.x.q.2.2.2, .slice lp ln lc, .int .i64 c.vk, .int .i64 c.vn, .string c.vs, .int .i64 c.ve] := ⟨_, rfl⟩
   have h5 := heap_tail (ds := [.int .i64 c.row, .int .i64 c.col, .string c.txt, .bool c.is, .int .i64 c.x.k, .int .i64 c.x.n, .string (bs c.x.s), .int .i64 c.x.e, .int .i64 c.x.r.1, .int .i64 c.x.r.2.1, .bool c.x.r.2.2.1, .bool c.x.r.2.2.2, .int .i64 c.x.q.1, .int .i64 c.x.q.2.1, .bool c.x.q.2.2.1, .bool c.x.q.2.2.2, .slice lp ln lc, .int .i64 c.vk, .int .i64 c.vn, .string c.vs, .int .i64 c.ve]) K.out.1 rfl
   rw [← hW5] at h5
   rw [← hW5]
   have X5 : Hid (ExtS (fun b => some b = (vs c.col).ownBlock) W W5) := K.out.2.2.1.grown h5.2 (fun q hq => .inr (by cases hq; have := HE.out.2.2.2.2.1; omega))
   have O5 : Hid (W5.ownsRow w0.heap.size 45 3 (.slice (some ⟨gr, 0, none⟩) sn scap) (seeP (alk N) (rs, o) c).1.length ((seeP (alk N) (rs, o) c).1.flatMap cRn)) := by
     rw [K.out.2.2.2.2.2]
     exact own_kept K.out.2.2.2.1 (fun q hq hlt => h5.2.block q hlt (fun e => by
       cases e
       obtain ⟨_, cur, h2⟩ := own_heap K.out.2.2.2.1 hq
       rw [K.out.1] at h2; cases h2))
   have hmap : ∃ es cl, W.heap[g]? = some (.map es cl) := by obtain ⟨es, cl, hb, _⟩ := HM.out.2.1; exact ⟨es, cl, hb⟩
   have hgo : ∀ q, some q = (vs c.col).ownBlock → ∃ cur, W.heap[q]? = some (.cells cur 45 (0, 0)) := fun q hq => (own_heap (HM.out.2.2.row c.col) hq.symm).2
   have own5 : Hid (W5.ownsMap Try.prog 3 hR g n D) := by
     obtain ⟨es, cl, hb, r⟩ := HM.out.2.1
     exact ⟨es, cl, (X5.out.block g (heap_lt hb) (fun e => by obtain ⟨cur, h2⟩ := hgo g e; rw [hb] at h2; cases h2)).trans hb, r⟩
   have k0 : W5.cell? ⟨t, 0, none⟩ = some (.map (some g)) := (cell_of_row _ _ 0 _ _ (0, 0) ((X5.out.block t (heap_lt HM.out.1) (fun e => by obtain ⟨cur, h2⟩ := hgo t e; rw [HM.out.1] at h2; cases h2)).trans HM.out.1)).trans rfl
   have j1 : W5.cell? ⟨A, 1, none⟩ = some (.int .i64 c.col) := (cell_of_row _ _ 1 _ _ (0, 0) ((h5.2.block A (heap_lt K.out.2.1) (by simp)).trans K.out.2.1)).trans rfl
   have R5 : Hid (W5.rangeAt (A + 1) 0 [.slice (some ⟨gr, 0, none⟩) sn scap, .int .i64 c.row, .int .i64 c.col, .string c.txt, .bool c.is, .int .i64 c.x.k, .int .i64 c.x.n, .string (bs c.x.s), .int .i64 c.x.e, .int .i64 c.x.r.1, .int .i64 c.x.r.2.1, .bool c.x.r.2.2.1, .bool c.x.r.2.2.2, .int .i64 c.x.q.1, .int .i64 c.x.q.2.1, .bool c.x.q.2.2.1, .bool c.x.q.2.2.2, .slice lp ln lc, .int .i64 c.vk, .int .i64 c.vn, .string c.vs, .int .i64 c.ve]) := rng_heap (o := 0) h5.1 (fun j v hj => by rw [Nat.zero_add]; exact hj)
   have HK5 : Hid (keyOf Try.prog 3 (.int .i64 c.col) = some (.int .i64 c.col) ∧ n < maxLen) := ⟨ik_mk HI.out.1, by have := HI.out.2.1; unfold maxLen; omega⟩
   clear h5 hW5 hmap hgo
   go_wp2_with (first | (refine wpList_load_mid rfl 48 _ rfl (A + 1) 0 rfl _ _ R5.out Try.underlying48 rfl (by kernel_rfl) ?_) | (at_mapUpdate; refine wpList_mapUpdate_own _ rfl _ _ _ 46 rfl 3 48 ikLaw Try.underlying46 hR g n D rfl own5.out HK5.out.2 _ _ (.int .i64 c.col) rfl rfl HK5.out.1 (.held (.agg [.slice (some ⟨gr, 0, none⟩) sn scap, .int .i64 c.row, .int .i64 c.col, .string c.txt, .bool c.is, .int .i64 c.x.k, .int .i64 c.x.n, .string (bs c.x.s), .int .i64 c.x.e, .int .i64 c.x.r.1, .int .i64 c.x.r.2.1, .bool c.x.r.2.2.1, .bool c.x.r.2.2.2, .int .i64 c.x.q.1, .int .i64 c.x.q.2.1, .bool c.x.q.2.2.1, .bool c.x.q.2.2.2, .slice lp ln lc, .int .i64 c.vk, .int .i64 c.vn, .string c.vs, .int .i64 c.ve].toArray)) [] rfl ?_; intro w6 own6 grow6; have H6 : Hid (w6.ownsMap Try.prog 3 hR g (n + 1) (D.put (.int .i64 c.col) (.held (.agg [.slice (some ⟨gr, 0, none⟩) sn scap, .int .i64 c.row, .int .i64 c.col, .string c.txt, .bool c.is, .int .i64 c.x.k, .int .i64 c.x.n, .string (bs c.x.s), .int .i64 c.x.e, .int .i64 c.x.r.1, .int .i64 c.x.r.2.1, .bool c.x.r.2.2.1, .bool c.x.r.2.2.2, .int .i64 c.x.q.1, .int .i64 c.x.q.2.1, .bool c.x.q.2.2.1, .bool c.x.q.2.2.2, .slice lp ln lc, .int .i64 c.vk, .int .i64 c.vn, .string c.vs, .int .i64 c.ve].toArray))) ∧ W5.grownBy w6 (some g)) := ⟨own6, grow6⟩; clear own6 grow6))
   go_end0
   refine ⟨rfl, ?_⟩
   have hs2 : (seeP (alk N) (rs, o) c).2 = c := rfl
   have := HI.out.2.2.2.1
   rw [HI.out.2.2.2.2.2] at this ⊢
   exact see_end (s := seeP (alk N) (rs, o) c) (lv := .slice lp ln lc) HG.out.1 HM.out.1 HM.out.2.2 HM.out.2.1 X5.out H6.out.1 H6.out.2 HI.out.1 O5.out K.out.2.2.2.2.1 HI.out.2.2.2.2.1 this
 | false =>
   have s0 : w3.cell? ⟨A + 1, 0, none⟩ = some (.slice sp sn scap) := (cell_of_row _ _ 0 _ _ (0, 0) H3.out.2.1).trans rfl
   have j0 : w3.cell? ⟨A, 0, none⟩ = some (.int .i64 c.row) := (cell_of_row _ _ 0 _ _ (0, 0) H3.out.2.2).trans rfl
   have j1 : w3.cell? ⟨A, 1, none⟩ = some (.int .i64 c.col) := (cell_of_row _ _ 1 _ _ (0, 0) H3.out.2.2).trans rfl
   have O3 : Hid (w3.ownsRow w0.heap.size 45 3 (.slice sp sn scap) sn (rs.flatMap cRn)) := ownsRow_ext HO.out.1 H3.out.1
   go_upto_region 5 with (at_builtin; refine app_g eltRn cRn_len cRn_one (by decide) _ w0 _ _ _ _ sn 1 rs [(c.col, c.row, c.row)] w0.heap.size rfl rfl (by rfl) (by rfl) (ownsRow_ext O3.out ((Ext.refl _).alloc _)) rfl (rd_oneRn (Ext.refl _)) (by have := HI.out.2.1; have := HG.out.2.2.2.2.2.2; omega) ((HG.out.2.2.2.1.trans H3.out.1).alloc _) (Nat.le_refl _) ((HG.out.2.2.2.1.trans H3.out.1).alloc _).size ?_; intro v9 w9 O9 E9 G9 N9; obtain ⟨p9, c9, rfl, _⟩ := own_form O9; have H9 : Hid (w9.heap[A + 1]? = some (.cells [.slice sp sn scap, .int .i64 o.row, .int .i64 o.col, .string o.txt, .bool o.is, .int .i64 o.x.k, .int .i64 o.x.n, .string (bs o.x.s), .int .i64 o.x.e, .int .i64 o.x.r.1, .int .i64 o.x.r.2.1, .bool o.x.r.2.2.1, .bool o.x.r.2.2.2, .int .i64 o.x.q.1, .int .i64 o.x.q.2.1, .bool o.x.q.2.2.1, .bool o.x.q.2.2.2, .slice mp mn mc, .int .i64 o.vk, .int .i64 o.vn, .string o.vs, .int .i64 o.ve].toArray 48 (0, 0)) ∧ w9.heap[A]? = some (.cells #[.int .i64 c.row, .int .i64 c.col, .string c.txt, .bool c.is, .int .i64 c.x.k, .int .i64 c.x.n, .string (bs c.x.s), .int .i64 c.x.e, .int .i64 c.x.r.1, .int .i64 c.x.r.2.1, .bool c.x.r.2.2.1, .bool c.x.r.2.2.2, .int .i64 c.x.q.1, .int .i64 c.x.q.2.1, .bool c.x.q.2.2.1, .bool c.x.q.2.2.2, .slice lp ln lc, .int .i64 c.vk, .int .i64 c.vn, .string c.vs, .int .i64 c.ve] 33 (0, 0)) ∧ ExtS (fun b => some b = (vs c.col).ownBlock) W w9 ∧ w9.ownsRow w0.heap.size 45 3 (.slice p9 (sn + 1) c9) (sn + 1) ((rs ++ [(c.col, c.row, c.row)]).flatMap cRn) ∧ ((Value.slice p9 (sn + 1) c9).ownBlock = (vs c.col).ownBlock ∨ ∃ q, (Value.slice p9 (sn + 1) c9).ownBlock = some q ∧ W.heap.size ≤ q)) := (see_app HO.out HE.out.2.2.2.2.1 H3.out.2.1 H3.out.2.2 H3.out.1 O9 G9 N9); have s1 : w9.cell? ⟨A + 1, 0, none⟩ = some (.slice sp sn scap) := (cell_of_row _ _ 0 _ _ (0, 0) H9.out.1).trans rfl; have s2 : w9.frozen? ⟨A + 1, 0, none⟩ = false := frozen_of_row w9 _ _ _ _ H9.out.1; clear O9 E9 G9 N9)
   obtain ⟨W4, hW4⟩ : ∃ W4, W4 = w9.setCell ⟨A + 1, 0, none⟩ (.slice p9 (sn + 1) c9) := ⟨_, rfl⟩
   have g4 : w9.grownBy W4 (some (A + 1)) := by rw [hW4]; exact ⟨rfl, rfl, rfl, by simp [World.setCell], fun k _ hn => heap_setCell_other w9 ⟨A + 1, 0, none⟩ k _ (fun e => hn (by rw [e]))⟩
   have K : Hid (W4.heap[A + 1]? = some (.cells [.slice p9 (sn + 1) c9, .int .i64 o.row, .int .i64 o.col, .string o.txt, .bool o.is, .int .i64 o.x.k, .int .i64 o.x.n, .string (bs o.x.s), .int .i64 o.x.e, .int .i64 o.x.r.1, .int .i64 o.x.r.2.1, .bool o.x.r.2.2.1, .bool o.x.r.2.2.2, .int .i64 o.x.q.1, .int .i64 o.x.q.2.1, .bool o.x.q.2.2.1, .bool o.x.q.2.2.2, .slice mp mn mc, .int .i64 o.vk, .int .i64 o.vn, .string o.vs, .int .i64 o.ve].toArray 48 (0, 0)) ∧ W4.heap[A]? = some (.cells #[.int .i64 c.row, .int .i64 c.col, .string c.txt, .bool c.is, .int .i64 c.x.k, .int .i64 c.x.n, .string (bs c.x.s), .int .i64 c.x.e, .int .i64 c.x.r.1, .int .i64 c.x.r.2.1, .bool c.x.r.2.2.1, .bool c.x.r.2.2.2, .int .i64 c.x.q.1, .int .i64 c.x.q.2.1, .bool c.x.q.2.2.1, .bool c.x.q.2.2.2, .slice lp ln lc, .int .i64 c.vk, .int .i64 c.vn, .string c.vs, .int .i64 c.ve] 33 (0, 0)) ∧ ExtS (fun b => some b = (vs c.col).ownBlock) W W4 ∧ W4.ownsRow w0.heap.size 45 3 (.slice p9 (sn + 1) c9) (rs ++ [(c.col, c.row, c.row)]).length ((rs ++ [(c.col, c.row, c.row)]).flatMap cRn) ∧ ((Value.slice p9 (sn + 1) c9).ownBlock = (vs c.col).ownBlock ∨ ∃ q, (Value.slice p9 (sn + 1) c9).ownBlock = some q ∧ W.heap.size ≤ q) ∧ (seeP (alk N) (rs, o) c).1 = rs ++ [(c.col, c.row, c.row)]) := by
     refine ⟨by rw [hW4]; exact Lib.heap_setCell_same H9.out.1 _, (g4.block A (heap_lt H9.out.2.1) (by simp)).trans H9.out.2.1, H9.out.2.2.1.grown g4 (fun q hq => .inr (by cases hq; have := HE.out.2.2.2.2.1; omega)), ?_, H9.out.2.2.2.2, ?_⟩
     · rw [show (rs ++ [(c.col, c.row, c.row)]).length = sn + 1 by rw [List.length_append, HG.out.2.2.2.2.2.1]; rfl]
       exact own_kept H9.out.2.2.2.1 (fun q hq hlt => g4.block q hlt (fun e => by
         cases e
         obtain ⟨_, cur, h2⟩ := own_heap H9.out.2.2.2.1 hq
         rw [H9.out.1] at h2; cases h2))
     · unfold seeP
       rw [if_neg (by rw [HBB.out]; exact Bool.false_ne_true)]
   rw [← hW4]
   clear s0 j0 j1 s1 s2 g4 hW4
   have TH : Hid (W4.there (A + 1) 1 21 ∧ W4.rangeAt A 0 [.int .i64 c.row, .int .i64 c.col, .string c.txt, .bool c.is, .int .i64 c.x.k, .int .i64 c.x.n, .string (bs c.x.s), .int .i64 c.x.e, .int .i64 c.x.r.1, .int .i64 c.x.r.2.1, .bool c.x.r.2.2.1, .bool c.x.r.2.2.2, .int .i64 c.x.q.1, .int .i64 c.x.q.2.1, .bool c.x.q.2.2.1, .bool c.x.q.2.2.2, .slice lp ln lc, .int .i64 c.vk, .int .i64 c.vn, .string c.vs, .int .i64 c.ve]) := ⟨there_heap K.out.1 (by simp), rng_heap (o := 0) K.out.2.1 (fun j v hj => by rw [Nat.zero_add]; exact hj)⟩
   go_upto_region 6 with (first | (refine wpList_load_mid rfl 33 _ rfl A 0 rfl _ _ TH.out.2 Try.underlying33 rfl (by kernel_rfl) ?_) | (refine wpList_store_mid rfl 33 _ _ rfl (A + 1) 1 _ rfl rfl TH.out.1 (by kernel_rfl) (by simp [Value.oneCell']) ?_))
   obtain ⟨W5, hW5⟩ : ∃ W5, W5 = W4.setCells (A + 1) 1 [.int .i64 c.row, .int .i64 c.col, .string c.txt, .bool c.is, .int .i64 c.x.k, .int .i64 c.x.n, .string (bs c.x.s), .int .i64 c.x.e, .int .i64 c.x.r.1, .int .i64 c.x.r.2.1, .bool c.x.r.2.2.1, .bool c.x.r.2.2.2, .int .i64 c.x.q.1, .int .i64 c.x.q.2.1, .bool c.x.q.2.2.1, .bool c.x.q.2.2.2, .slice lp ln lc, .int .i64 c.vk, .int .i64 c.vn, .string c.vs, .int .i64 c.ve] := ⟨_, rfl⟩
   have h5 := heap_tail (ds := [.int .i64 c.row, .int .i64 c.col, .string c.txt, .bool c.is, .int .i64 c.x.k, .int .i64 c.x.n, .string (bs c.x.s), .int .i64 c.x.e, .int .i64 c.x.r.1, .int .i64 c.x.r.2.1, .bool c.x.r.2.2.1, .bool c.x.r.2.2.2, .int .i64 c.x.q.1, .int .i64 c.x.q.2.1, .bool c.x.q.2.2.1, .bool c.x.q.2.2.2, .slice lp ln lc, .int .i64 c.vk, .int .i64 c.vn, .string c.vs, .int .i64 c.ve]) K.out.1 rfl
   rw [← hW5] at h5
   rw [← hW5]
   have X5 : Hid (ExtS (fun b => some b = (vs c.col).ownBlock) W W5) := K.out.2.2.1.grown h5.2 (fun q hq => .inr (by cases hq; have := HE.out.2.2.2.2.1; omega))
   have O5 : Hid (W5.ownsRow w0.heap.size 45 3 (.slice p9 (sn + 1) c9) (seeP (alk N) (rs, o) c).1.length ((seeP (alk N) (rs, o) c).1.flatMap cRn)) := by
     rw [K.out.2.2.2.2.2]
     exact own_kept K.out.2.2.2.1 (fun q hq hlt => h5.2.block q hlt (fun e => by
       cases e
       obtain ⟨_, cur, h2⟩ := own_heap K.out.2.2.2.1 hq
       rw [K.out.1] at h2; cases h2))
   have hmap : ∃ es cl, W.heap[g]? = some (.map es cl) := by obtain ⟨es, cl, hb, _⟩ := HM.out.2.1; exact ⟨es, cl, hb⟩
   have hgo : ∀ q, some q = (vs c.col).ownBlock → ∃ cur, W.heap[q]? = some (.cells cur 45 (0, 0)) := fun q hq => (own_heap (HM.out.2.2.row c.col) hq.symm).2
   have own5 : Hid (W5.ownsMap Try.prog 3 hR g n D) := by
     obtain ⟨es, cl, hb, r⟩ := HM.out.2.1
     exact ⟨es, cl, (X5.out.block g (heap_lt hb) (fun e => by obtain ⟨cur, h2⟩ := hgo g e; rw [hb] at h2; cases h2)).trans hb, r⟩
   have k0 : W5.cell? ⟨t, 0, none⟩ = some (.map (some g)) := (cell_of_row _ _ 0 _ _ (0, 0) ((X5.out.block t (heap_lt HM.out.1) (fun e => by obtain ⟨cur, h2⟩ := hgo t e; rw [HM.out.1] at h2; cases h2)).trans HM.out.1)).trans rfl
   have j1 : W5.cell? ⟨A, 1, none⟩ = some (.int .i64 c.col) := (cell_of_row _ _ 1 _ _ (0, 0) ((h5.2.block A (heap_lt K.out.2.1) (by simp)).trans K.out.2.1)).trans rfl
   have R5 : Hid (W5.rangeAt (A + 1) 0 [.slice p9 (sn + 1) c9, .int .i64 c.row, .int .i64 c.col, .string c.txt, .bool c.is, .int .i64 c.x.k, .int .i64 c.x.n, .string (bs c.x.s), .int .i64 c.x.e, .int .i64 c.x.r.1, .int .i64 c.x.r.2.1, .bool c.x.r.2.2.1, .bool c.x.r.2.2.2, .int .i64 c.x.q.1, .int .i64 c.x.q.2.1, .bool c.x.q.2.2.1, .bool c.x.q.2.2.2, .slice lp ln lc, .int .i64 c.vk, .int .i64 c.vn, .string c.vs, .int .i64 c.ve]) := rng_heap (o := 0) h5.1 (fun j v hj => by rw [Nat.zero_add]; exact hj)
   have HK5 : Hid (keyOf Try.prog 3 (.int .i64 c.col) = some (.int .i64 c.col) ∧ n < maxLen) := ⟨ik_mk HI.out.1, by have := HI.out.2.1; unfold maxLen; omega⟩
   clear h5 hW5 hmap hgo
   go_wp2_with (first | (refine wpList_load_mid rfl 48 _ rfl (A + 1) 0 rfl _ _ R5.out Try.underlying48 rfl (by kernel_rfl) ?_) | (at_mapUpdate; refine wpList_mapUpdate_own _ rfl _ _ _ 46 rfl 3 48 ikLaw Try.underlying46 hR g n D rfl own5.out HK5.out.2 _ _ (.int .i64 c.col) rfl rfl HK5.out.1 (.held (.agg [.slice p9 (sn + 1) c9, .int .i64 c.row, .int .i64 c.col, .string c.txt, .bool c.is, .int .i64 c.x.k, .int .i64 c.x.n, .string (bs c.x.s), .int .i64 c.x.e, .int .i64 c.x.r.1, .int .i64 c.x.r.2.1, .bool c.x.r.2.2.1, .bool c.x.r.2.2.2, .int .i64 c.x.q.1, .int .i64 c.x.q.2.1, .bool c.x.q.2.2.1, .bool c.x.q.2.2.2, .slice lp ln lc, .int .i64 c.vk, .int .i64 c.vn, .string c.vs, .int .i64 c.ve].toArray)) [] rfl ?_; intro w6 own6 grow6; have H6 : Hid (w6.ownsMap Try.prog 3 hR g (n + 1) (D.put (.int .i64 c.col) (.held (.agg [.slice p9 (sn + 1) c9, .int .i64 c.row, .int .i64 c.col, .string c.txt, .bool c.is, .int .i64 c.x.k, .int .i64 c.x.n, .string (bs c.x.s), .int .i64 c.x.e, .int .i64 c.x.r.1, .int .i64 c.x.r.2.1, .bool c.x.r.2.2.1, .bool c.x.r.2.2.2, .int .i64 c.x.q.1, .int .i64 c.x.q.2.1, .bool c.x.q.2.2.1, .bool c.x.q.2.2.2, .slice lp ln lc, .int .i64 c.vk, .int .i64 c.vn, .string c.vs, .int .i64 c.ve].toArray))) ∧ W5.grownBy w6 (some g)) := ⟨own6, grow6⟩; clear own6 grow6))
   go_end0
   refine ⟨rfl, ?_⟩
   have hs2 : (seeP (alk N) (rs, o) c).2 = c := rfl
   have := HI.out.2.2.2.1
   rw [HI.out.2.2.2.2.2] at this ⊢
   exact see_end (s := seeP (alk N) (rs, o) c) (lv := .slice lp ln lc) HG.out.1 HM.out.1 HM.out.2.2 HM.out.2.1 X5.out H6.out.1 H6.out.2 HI.out.1 O5.out K.out.2.2.2.2.1 HI.out.2.2.2.2.1 this
open Go.RowKit
set_option maxHeartbeats 1000000
def smR (x : Rn) : Prop := -1000000 ≤ x.2.1 ∧ x.2.1 ≤ 1000000 ∧ -1000000 ≤ x.2.2 ∧ x.2.2 ≤ 1000000
abbrev RdRn := RdG cRn 3
theorem Rd3.cell {W : World} {p : Option Addr} {n cp : Nat} {l : List Rn} (h : RdRn W (.slice p n cp) l) {i : Nat} {x : Rn} (hi : l[i]? = some x) {u0 u1 u2 : Value} (hx : cRn x = [u0, u1, u2]) :
   ∃ b off, p = some ⟨b, off, none⟩ ∧ b < W.heap.size ∧ W.cell? ⟨b, off + i * 3, none⟩ = some u0 ∧ W.cell? ⟨b, off + i * 3 + 1, none⟩ = some u1 ∧ W.cell? ⟨b, off + i * 3 + 2, none⟩ = some u2 := by
 obtain ⟨b, off, h1, h2, h3⟩ := RdG.at h hi
 rw [hx] at h3
 exact ⟨b, off, h1, h2, h3 0 _ rfl, h3 1 _ rfl, h3 2 _ rfl⟩
theorem rkeep3 {w w1 : World} {a b c : Value} {T : TypeId} (E : Ext (w.alloc (.cells #[a, b, c] T)) w1) : w.heap.size < w1.heap.size ∧ (w1.cell? ⟨w.heap.size, 0, none⟩ = some a ∧ w1.cell? ⟨w.heap.size, 1, none⟩ = some b ∧ w1.cell? ⟨w.heap.size, 2, none⟩ = some c) ∧ True :=
 ⟨heap_lt E.top, ⟨(cell_of_row _ _ 0 _ _ (0, 0) E.top).trans rfl, (cell_of_row _ _ 1 _ _ (0, 0) E.top).trans rfl, (cell_of_row _ _ 2 _ _ (0, 0) E.top).trans rfl⟩, trivial⟩
theorem wrapNr (k : Nat) (h : k ≤ 1000000) : wrap64 ((k : Int) + 1) = ((k + 1 : Nat) : Int) := by unfold wrap64; omega
theorem closr_any (x : Rn) (hs : smR x) (W : World) : Calls Try.prog 15 #[.agg #[.int .i64 x.1, .int .i64 x.2.1, .int .i64 x.2.2]] W fun e w' => e = .returned (.bool (decide (okRn x = false))) ∧ Ext W w' := by
 unfold smR at hs
 have w1 : IntKind.i64.wrap (x.2.2 - x.2.1) = x.2.2 - x.2.1 := iwrap (by omega) (by omega)
 have w2 : IntKind.i64.wrap (x.2.2 - x.2.1 + 1) = x.2.2 - x.2.1 + 1 := iwrap (by omega) (by omega)
 have HD : Hid (decide (okRn x = false) = decide (x.2.2 - x.2.1 + 1 < 4)) := by
   unfold okRn
   by_cases h : x.2.2 - x.2.1 + 1 < 4
   · rw [decide_eq_true h, decide_eq_true_eq]; exact decide_eq_false (by clear w1 w2; omega)
   · rw [decide_eq_false h]; refine decide_eq_false (fun h2 => ?_); have := of_decide_eq_false h2; clear w1 w2 h2; omega
 clear hs
 go_enter Try.func15, Try.ntmps15
 go_wp2_with fail
 go_ret
 exact ⟨ret_bool HD.out.symm, (Ext.refl _).alloc _⟩
def FstR (l : List Rn) (e : Ending) : Prop :=
 (e = .returned (.int .i64 (-1)) ∧ ∀ x ∈ l, ¬ okRn x = false) ∨ ∃ k : Nat, e = .returned (.int .i64 (k : Int)) ∧ k < l.length ∧ (∀ x ∈ l.take k, ¬ okRn x = false) ∧ ∀ x, l[k]? = some x → okRn x = false
theorem idxr_any (w : World) (v : Value) (l : List Rn) (h : RdRn w v l) (hl : l.length ≤ 200000) (hs : ∀ x ∈ l, smR x) :
   Calls Try.prog 27 #[v, .func (.func 15) #[] #[]] w fun e w' => FstR l e ∧ Ext w w' := by
 obtain ⟨p, c, rfl, _⟩ := h.form
 have eg : ∀ args w, (callFunc 15 args).run Try.prog w = .ok (.enter 15 args) w := enters_of Try.func15 (by kernel_rfl) rfl
 have HR : Hid (RdRn w (.slice p l.length c) l) := h
 have HL : Hid (l.length ≤ 200000) := hl
 have HB : Hid (∀ x ∈ l, smR x) := hs
 clear h hl hs
 go_enter Try.func27, Try.ntmps27
 go_wp2_with fail
 go_loopw [8] (fun x wr => ∃ k : Nat, x = .int .i64 (k : Int) ∧ k ≤ l.length ∧ Ext w wr ∧ ∀ x ∈ l.take k, ¬ okRn x = false) (fun x _ => l.length - (intOf x).toNat)
 case atStart => exact ⟨0, rfl, Nat.zero_le _, Ext.refl _, by simp⟩
 case round =>
   obtain ⟨k, rfl, hk, hE, hn⟩ := hrel
   have HE : Hid (Ext w wr) := hE
   have HN : Hid (∀ x ∈ l.take k, ¬ okRn x = false) := hn
   clear hE hn
   rcases Nat.lt_or_ge k l.length with hlt | hge
   · have hltI : (k : Int) < (l.length : Int) := by omega
     obtain ⟨s, hs⟩ : ∃ s, l[k]? = some s := ⟨_, List.getElem?_eq_getElem hlt⟩
     obtain ⟨b, off, rfl, _, c1, c2, c3⟩ := Rd3.cell (HR.out.ext HE.out) hs rfl
     have wk := wrapI k (by have := HL.out; omega)
     have HS : Hid (l[k]? = some s) := hs
     clear hs
     have cC := closr_any s (HB.out s (List.mem_of_getElem? HS.out)) wr
     cases he : decide (okRn s = false)
     · have HT : Hid (∀ x ∈ l.take (k + 1), ¬ okRn x = false) := by
         intro x hx
         rw [take_at HS.out] at hx
         rcases List.mem_append.1 hx with hx | hx
         · exact HN.out x hx
         · simp at hx; subst hx; simpa using he
       rw [he] at cC
       clear he
       go_wp2_with fail
       refine cC.mono ?_
       rintro e w1 ⟨rfl, E1⟩
       have HE1 : Hid (Ext w w1) := HE.out.trans E1
       clear E1 cC
       go_wp2_with fail
       go_roundw
       case rel => exact ⟨k + 1, by rw [wk], hlt, HE1.out, HT.out⟩
       case measure => rw [wk]; simp [intOf]; omega
     · have ht : okRn s = false := of_decide_eq_true he
       have HT : Hid (okRn s = false) := ht
       rw [he] at cC
       clear he
       go_wp2_with fail
       refine cC.mono ?_
       rintro e w1 ⟨rfl, E1⟩
       have HE1 : Hid (Ext w w1) := HE.out.trans E1
       clear E1 cC
       go_wp2_with fail
       go_ret
       exact ⟨.inr ⟨k, rfl, hlt, HN.out, fun x hx => by rw [HS.out] at hx; cases hx; exact HT.out⟩, HE1.out⟩
   · have hltI : ¬ (k : Int) < (l.length : Int) := by omega
     go_wp2_with fail
     go_ret
     exact ⟨.inl ⟨rfl, fun x hx => HN.out x (by rw [List.take_of_length_le hge]; exact hx)⟩, HE.out⟩
theorem run_clear3 (w : World) (ty : TypeId) (b o n c : Nat) (hn : 0 < n) (hc : ∀ j, j < n * 3 → (w.cell? ⟨b, o + j, none⟩).isSome = true) (hf : ∀ j, j < n * 3 → w.frozen? ⟨b, o + j, none⟩ = false) :
   (Builtin.clear_ #[36] ty #[.slice (some ⟨b, o, none⟩) n c]).run Try.prog w = .ok (.tuple #[]) (w.setCells b o (List.replicate (n * 3) (.int .i64 0))) := by
 have hv : ∀ w, (zeroValue 45).run Try.prog w = .ok (.agg #[.int .i64 0, .int .i64 0, .int .i64 0]) w := fun w => by kernel_rfl
 have hzc : (Builtin.zeroCells (Value.agg #[.int .i64 0, .int .i64 0, .int .i64 0]).cells n).toList = List.replicate (n * 3) (.int .i64 0) := by
   simp only [Value.cells, Builtin.zeroCells]
   apply List.ext_getElem
   · simp
   · intro i h1 h2
     have : i % 3 < 3 := Nat.mod_lt _ (by decide)
     simp
     match i % 3, this with
     | 0, _ => rfl
     | 1, _ => rfl
     | 2, _ => rfl
 have hst := run_storeCells_cells (P := Try.prog) b o (List.replicate (n * 3) (.int .i64 0)) 0 w (by simpa using hc) (by simpa using hf) (by intro v hv'; rw [List.eq_of_mem_replicate hv']; rfl)
 simp only [Nat.add_zero] at hst
 obtain ⟨m, rfl⟩ : ∃ m, n = m + 1 := ⟨n - 1, by omega⟩
 simp [Builtin.clear_, run_underlying Try.underlying36, hv, hzc, hst]
structure DlR (w : World) (base g cap n : Nat) (l : List Rn) (i j : Nat) (M : List Rn) (wr : World) : Prop where
 fn : n = l.length
 fm : M.length = n
 fj : j ≤ n
 fij : i < j
 fo : wr.ownsRow base 45 3 (.slice (some ⟨g, 0, none⟩) n cap) n (M.flatMap cRn)
 ft : M.take i = (l.take j).filter okRn
 fd : M.drop j = l.drop j
 fg : w.grownBy wr (some g)
theorem DlR.il {w wr : World} {base g cap n : Nat} {l : List Rn} {i j : Nat} {M : List Rn} (h : DlR w base g cap n l i j M wr) : i = ((l.take j).filter okRn).length := by
 have h1 := congrArg List.length h.ft
 have := h.fm; have := h.fj; have := h.fij
 simp at h1
 omega
theorem DlR.at_ {w wr : World} {base g cap n : Nat} {l : List Rn} {i j : Nat} {M : List Rn} (h : DlR w base g cap n l i j M wr) : M[j]? = l[j]? := by
 have h1 := congrArg (fun l : List Rn => l[0]?) h.fd
 simpa using h1
theorem DlR.ext {w wr w1 : World} {base g cap n : Nat} {l : List Rn} {i j : Nat} {M : List Rn} (h : DlR w base g cap n l i j M wr) (e : Ext wr w1) : DlR w base g cap n l i j M w1 :=
 ⟨h.fn, h.fm, h.fj, h.fij, ownsRow_ext h.fo e, h.ft, h.fd, grown_tr h.fg (e.gr _)⟩
theorem DlR.drop {w wr : World} {base g cap n : Nat} {l : List Rn} {i j : Nat} {M : List Rn} {s : Rn} (h : DlR w base g cap n l i j M wr) (hs : l[j]? = some s) (ha : okRn s = false) : DlR w base g cap n l i (j + 1) M wr := by
 have hj : j < l.length := (List.getElem?_eq_some_iff.1 hs).1
 refine ⟨h.fn, h.fm, by have := h.fn; omega, by have := h.fij; omega, h.fo, ?_, ?_, h.fg⟩
 · rw [h.ft, take_at hs, List.filter_append]
   simp [ha]
 · rw [← List.drop_drop, h.fd, List.drop_drop]
theorem DlR.keep {w wr : World} {base g cap n : Nat} {l : List Rn} {i j : Nat} {M : List Rn} {s : Rn} (h : DlR w base g cap n l i j M wr) (hs : l[j]? = some s) (ha : ¬ okRn s = false) : DlR w base g cap n l (i + 1) (j + 1) (M.set i s) (wr.setCells g (i * 3) (cRn s)) := by
 have hj : j < l.length := (List.getElem?_eq_some_iff.1 hs).1
 have hij := h.fij; have hn := h.fn; have hm := h.fm
 obtain ⟨o1, g1⟩ := own_set cRn_len (by decide) h.fo (i := i) (by omega) s
 refine ⟨h.fn, by simp [h.fm], by omega, by omega, o1, ?_, ?_, grown_tr h.fg g1⟩
 · rw [take_at (s := s) (List.getElem?_set_self (by omega)), List.take_set_of_le (Nat.le_refl _), h.ft, take_at hs, List.filter_append]
   simp [ha]
 · rw [List.drop_set_of_lt (by omega), ← List.drop_drop, h.fd, List.drop_drop]
theorem own_cells3 {W : World} {base g cap n : Nat} {M : List Rn} (h : W.ownsRow base 45 3 (.slice (some ⟨g, 0, none⟩) n cap) n (M.flatMap cRn)) :
   (∀ j, j < n * 3 → (W.cell? ⟨g, j, none⟩).isSome = true) ∧ ∀ j, W.frozen? ⟨g, j, none⟩ = false := by
 rcases h.2 with ⟨h0, _⟩ | ⟨g', cap', cur, e, hb, hg, hn, hcm, hs, ht⟩
 · cases h0
 · cases e
   refine ⟨fun j hj => ?_, fun j => frozen_of_row W g j cur _ hg⟩
   rw [cell_of_row W g j cur _ (0, 0) hg]
   simp
   have : n * 3 ≤ cap * 3 := Nat.mul_le_mul_right 3 hn
   omega
theorem flt_no {l : List Rn} (h : ∀ x ∈ l, ¬ okRn x = false) : l.filter okRn = l := List.filter_eq_self.2 (fun x hx => by simpa using h x hx)
theorem DlR.start {w w1 : World} {base g cap k : Nat} {l : List Rn} (o : w1.ownsRow base 45 3 (.slice (some ⟨g, 0, none⟩) l.length cap) l.length (l.flatMap cRn)) (hk : k < l.length) (h1 : ∀ x ∈ l.take k, ¬ okRn x = false) (h2 : ∀ x, l[k]? = some x → okRn x = false) (hg : w.grownBy w1 (some g)) : DlR w base g cap l.length l k (k + 1) l w1 := by
 refine ⟨rfl, rfl, hk, Nat.lt_succ_self _, o, ?_, rfl, hg⟩
 have hs := List.getElem?_eq_getElem hk
 rw [take_at hs, List.filter_append, flt_no h1]
 simp [h2 _ hs]
theorem DlR.done {w wr : World} {base g cap n : Nat} {l : List Rn} {i : Nat} {M : List Rn} (h : DlR w base g cap n l i n M wr) :
   (wr.setCells g (i * 3) (List.replicate ((n - i) * 3) (.int .i64 0))).ownsRow base 45 3 (.slice (some ⟨g, 0, none⟩) i cap) (l.filter okRn).length ((l.filter okRn).flatMap cRn) ∧ w.grownBy (wr.setCells g (i * 3) (List.replicate ((n - i) * 3) (.int .i64 0))) (some g) := by
 have hij := h.fij
 obtain ⟨o1, g1⟩ := own_cut cRn_len (by decide) h.fo (i := i) (by omega) (List.replicate ((n - i) * 3) (.int .i64 0)) (by simp; omega)
 have hi := h.il
 have ht := h.ft
 have hn := h.fn
 have et : l.take n = l := List.take_of_length_le (by omega)
 rw [et] at hi ht
 rw [ht] at o1
 rw [← hi]
 exact ⟨o1, grown_tr h.fg g1⟩
set_option maxRecDepth 100000 in
theorem delr_any (w : World) (base : Nat) (v : Value) (l : List Rn) (hO : w.ownsRow base 45 3 v l.length (l.flatMap cRn)) (hl : l.length ≤ 200000) (hs : ∀ x ∈ l, smR x) :
   Calls Try.prog 14 #[v, .func (.func 15) #[] #[]] w fun e w' => ∃ v', e = .returned v' ∧ w'.ownsRow base 45 3 v' (l.filter okRn).length ((l.filter okRn).flatMap cRn) ∧ v'.ownBlock = v.ownBlock ∧ w.grownBy w' v.ownBlock := by
 have eg : ∀ args w, (callFunc 15 args).run Try.prog w = .ok (.enter 15 args) w := enters_of Try.func15 (by kernel_rfl) rfl
 have cI := idxr_any w v l (own_rdG cRn_len hO rfl) hl hs
 have HO : Hid (w.ownsRow base 45 3 v l.length (l.flatMap cRn) ∧ l.length ≤ 200000) := ⟨hO, hl⟩
 have HB : Hid (∀ x ∈ l, smR x) := hs
 clear hO hl hs
 go_enter Try.func14, Try.ntmps14
 go_wp2_with fail
 refine cI.mono ?_
 rintro e w1 ⟨⟨rfl, hN⟩ | ⟨k, rfl, hk, hN, hA⟩, E1⟩
 · have HQ : Hid (w1.ownsRow base 45 3 v (l.filter okRn).length ((l.filter okRn).flatMap cRn) ∧ w.grownBy w1 v.ownBlock) := by
     rw [flt_no hN]
     exact ⟨ownsRow_ext HO.out.1 E1, E1.gr _⟩
   clear cI hN E1
   go_wp2_with fail
   go_ret
   exact ⟨_, rfl, HQ.out.1, rfl, HQ.out.2⟩
 · rcases HO.out.1.2 with ⟨rfl, h0⟩ | ⟨g, cap, cur, rfl, -⟩
   · omega
   · have HS : Hid (DlR w base g cap l.length l k (k + 1) l w1) := DlR.start (ownsRow_ext HO.out.1 E1) hk hN hA (E1.gr _)
     obtain ⟨n, hn⟩ : ∃ n, l.length = n := ⟨_, rfl⟩
     have HN : Hid (n ≤ 200000 ∧ k < n) := ⟨by rw [← hn]; exact HO.out.2, by rw [← hn]; exact hk⟩
     rw [hn] at HS
     simp only [hn]
     have wk := wrapNr k (by have := HN.out; omega)
     have k1 : ((k : Int) == -1) = false := beq_eq_false_iff_ne.2 (by omega)
     clear cI hN hA E1 hk hn
     go_wp2_with fail
     go_loopw [5, 6] (fun x y wr => ∃ (i j : Nat) (M : List Rn), x = .int .i64 (i : Int) ∧ y = .int .i64 (j : Int) ∧ DlR w base g cap n l i j M wr) (fun _ y _ => n - (intOf y).toNat)
     case atStart => exact ⟨k, k + 1, l, rfl, by rw [wk], HS.out⟩
     case round =>
       clear HS
       obtain ⟨i, j, M, rfl, rfl, hS⟩ := hrel
       have HS : Hid (DlR w base g cap n l i j M wr) := hS
       have hj := hS.fj
       have hij := hS.fij
       have wi := wrapNr i (by have := HN.out; omega)
       have wj := wrapNr j (by have := HN.out; omega)
       clear hS k1 wk
       rcases Nat.lt_or_ge j n with hlt | hge
       · have hltI : (j : Int) < (n : Int) := by omega
         have hltJ : (i : Int) < (n : Int) := by omega
         obtain ⟨s, hs⟩ : ∃ s, l[j]? = some s := ⟨_, List.getElem?_eq_getElem (by rw [← HS.out.fn]; exact hlt)⟩
         have HK : Hid (l[j]? = some s) := hs
         obtain ⟨b', off', hbb, _, c1, c2, c3⟩ := Rd3.cell (own_rdG cRn_len HS.out.fo HS.out.fm.symm) (HS.out.at_.trans hs) rfl
         simp at hbb
         obtain ⟨rfl, rfl⟩ := hbb
         rw [Nat.zero_add] at c1 c2 c3
         have cC : ∀ W, Ext wr W → Calls Try.prog 15 #[.agg #[.int .i64 s.1, .int .i64 s.2.1, .int .i64 s.2.2]] W fun e w' => e = .returned (.bool (decide (okRn s = false))) ∧ Ext W w' := fun W _ => closr_any s (HB.out s (List.mem_of_getElem? HK.out)) W
         clear hs
         cases he : decide (okRn s = false)
         · have ha : ¬ okRn s = false := of_decide_eq_false he
           have HA : Hid (¬ okRn s = false) := ha
           rw [he] at cC
           clear he ha
           go_wp2_with fail
           refine (cC _ ((Ext.refl _).alloc _)).mono ?_
           rintro e w2 ⟨rfl, E2⟩
           have HS2 : Hid (DlR w base g cap n l i j M w2) := HS.out.ext (((Ext.refl _).alloc _).trans E2)
           obtain ⟨_, ⟨d0, d1, d2⟩, _⟩ := rkeep3 E2
           obtain ⟨y, hy⟩ : ∃ y, M[i]? = some y := ⟨_, List.getElem?_eq_getElem (by rw [HS.out.fm]; omega)⟩
           obtain ⟨b', off', hbb, _, f1, f2, f3⟩ := Rd3.cell (own_rdG cRn_len HS2.out.fo HS2.out.fm.symm) hy rfl
           simp at hbb
           obtain ⟨rfl, rfl⟩ := hbb
           rw [Nat.zero_add] at f1 f2 f3
           have fz := (own_cells3 HS2.out.fo).2
           have HK3 : Hid (DlR w base g cap n l (i + 1) (j + 1) (M.set i s) (w2.setCells g (i * 3) (cRn s))) := HS2.out.keep HK.out HA.out
           clear cC E2 hy c1 c2 c3 HS
           go_wp2_with fail
           go_roundw
           case rel => exact ⟨i + 1, j + 1, _, by rw [wi], by rw [wj], HK3.out⟩
           case measure => rw [wj]; simp [intOf]; omega
         · have ha : okRn s = false := of_decide_eq_true he
           have HA : Hid (okRn s = false) := ha
           rw [he] at cC
           clear he ha
           go_wp2_with fail
           refine (cC _ ((Ext.refl _).alloc _)).mono ?_
           rintro e w2 ⟨rfl, E2⟩
           have HS2 : Hid (DlR w base g cap n l i (j + 1) M w2) := (HS.out.ext (((Ext.refl _).alloc _).trans E2)).drop HK.out HA.out
           clear cC E2 c1 c2 c3 HS
           go_wp2_with fail
           go_roundw
           case rel => exact ⟨i, j + 1, _, rfl, by rw [wj], HS2.out⟩
           case measure => rw [wj]; simp [intOf]; omega
       · have hjn : j = n := by omega
         subst hjn
         have hltI : ¬ (j : Int) < (j : Int) := by omega
         have HD := HS.out.done
         have cells := own_cells3 HS.out.fo
         have hcap : i < cap := by
           rcases HS.out.fo.2 with ⟨h0, _⟩ | ⟨_, _, _, e, _, _, h4, _⟩
           · cases h0
           · cases e; omega
         have hci : ¬ cap = i := by omega
         have hcl : ∀ ty, (Builtin.clear_ #[36] ty #[.slice (some ⟨g, i * 3, none⟩) (j - i) (cap - i)]).run Try.prog wr = .ok (.tuple #[]) (wr.setCells g (i * 3) (List.replicate ((j - i) * 3) (.int .i64 0))) := fun ty =>
           run_clear3 wr ty g (i * 3) (j - i) (cap - i) (by omega) (fun q hq => cells.1 _ (by omega)) (fun q _ => cells.2 _)
         obtain ⟨w9, hw9⟩ : ∃ w9, wr.setCells g (i * 3) (List.replicate ((j - i) * 3) (.int .i64 0)) = w9 := ⟨_, rfl⟩
         rw [hw9] at hcl HD
         have HD2 : Hid (w9.ownsRow base 45 3 (.slice (some ⟨g, 0, none⟩) i cap) (l.filter okRn).length ((l.filter okRn).flatMap cRn) ∧ w.grownBy w9 (some g)) := HD
         clear HD cells hw9
         go_wp2_with fail
         go_ret
         exact ⟨_, rfl, HD2.out.1, rfl, HD2.out.2⟩
open Go.RowKit
set_option maxHeartbeats 4000000
theorem see_sm {A : Cl → Cl → Bool} {s : List Rn × Cl} {c : Cl} (hs : ∀ r ∈ s.1, smR r) (h1 : 1 ≤ c.row) (h2 : c.row ≤ 1000) : ∀ r ∈ (seeP A s c).1, smR r := by
 have hl : smR (lsR s.1) := by
   unfold lsR
   rw [List.getLastD_eq_getLast?]
   cases h : s.1.getLast? with
   | none => exact ⟨by decide, by decide, by decide, by decide⟩
   | some r => exact hs r (List.mem_of_getLast? h)
 intro r hr
 unfold seeP at hr
 unfold smR at hl ⊢
 split at hr
 · rcases List.mem_append.1 hr with hr | hr
   · exact hs r (List.dropLast_subset _ hr)
   · simp at hr; subst hr; dsimp only; omega
 · rcases List.mem_append.1 hr with hr | hr
   · exact hs r hr
   · simp at hr; subst hr; dsimp only; omega
theorem fo_sm {A : Cl → Cl → Bool} (l : List Cl) (h : ∀ c ∈ l, 1 ≤ c.row ∧ c.row ≤ 1000) (k : Int) : ∀ r ∈ (foP A l k).1, smR r := by
 have : ∀ (m : List Cl) (σ : Spn), (∀ c ∈ m, 1 ≤ c.row ∧ c.row ≤ 1000) → (∀ k, ∀ r ∈ (σ k).1, smR r) → ∀ k, ∀ r ∈ (m.foldl (stP A) σ k).1, smR r := by
   intro m
   induction m with
   | nil => intro σ _ h; exact h
   | cons c m ih =>
     intro σ hm hσ
     refine ih _ (fun x hx => hm x (List.mem_cons_of_mem _ hx)) (fun k => ?_)
     unfold stP
     split
     · unfold putS
       split
       · have := hm c (List.mem_cons_self ..)
         exact see_sm (hσ _) this.1 this.2
       · exact hσ k
     · exact hσ k
 exact this l spz h (fun _ r hr => by cases hr) k
theorem fo_hr {A : Cl → Cl → Bool} {N : Nat} (l : List Cl) (h : ∀ c ∈ l, Hr N c.x) (hz : Hr N tz) (k : Int) : Hr N (foP A l k).2.x := by
 have : ∀ (m : List Cl) (σ : Spn), (∀ c ∈ m, Hr N c.x) → (∀ k, Hr N (σ k).2.x) → ∀ k, Hr N (m.foldl (stP A) σ k).2.x := by
   intro m
   induction m with
   | nil => intro σ _ h; exact h
   | cons c m ih =>
     intro σ hm hσ
     refine ih _ (fun x hx => hm x (List.mem_cons_of_mem _ hx)) (fun k => ?_)
     unfold stP
     split
     · unfold putS
       split
       · exact hm c (List.mem_cons_self ..)
       · exact hσ k
     · exact hσ k
 exact this l spz h (fun _ => hz) k
theorem FsS.more {w0 W : World} {t n : Nat} {σ : Spn} (h : FsS w0 W t n σ) : FsS w0 W t (n + 1) σ := by
 obtain ⟨g, D, vs, lvs, h1, h2, h3⟩ := h.map
 exact ⟨h.e, h.bt, ⟨h.ok.ne, fun k => Nat.le_succ_of_le (h.ok.few k)⟩, g, D, vs, lvs, h1, h2.mono (Nat.le_succ n), h3⟩
theorem FsS.start {w0 w1 : World} (e : Ext w0 w1) : FsS w0 ((w1.alloc (.map #[] 0)).alloc (.cells #[.map (some w1.heap.size)] 46)) (w1.heap.size + 1) 0 spz := by
 refine ⟨(e.alloc _).alloc _, Nat.le_succ_of_le e.size, SpOk.zero, w1.heap.size, .map [], fun _ => .slice none 0 0, fun _ => .slice none 0 0, ?_, (World.ownsMap_made w1 Try.prog 3 hR).alloc _, ⟨e.size, fun k _ => ?_, fun k => ⟨by simp [spz], .inl ⟨rfl, rfl⟩⟩, fun k => .nil, fun k k' q _ h => by cases h⟩⟩
 · rw [show w1.heap.size + 1 = (w1.alloc (.map #[] 0)).heap.size by simp]
   exact top_heap _ _
 · rw [show (DataW.map [] : DataW Value).atKey (.int .i64 k) (.held zS) = .held zS from rfl, zS_eq]; rfl
theorem field_strip (v : Value) (c : Cl) (lv : Value) (W : World) : (Instr.field 48 (aggS v c lv) 0).run Try.prog W = .ok v W := by kernel_rfl
set_option maxRecDepth 100000 in
theorem find_any (N : Nat) (l : List Cl) (W : World) (v : Value) (h : RdC W.heap.size W v l) (hl : l.length ≤ 2000) (hr : ∀ c ∈ l, Hr N c.x) (hz : Hr N tz) : Calls Try.prog 7 #[v] W fun e w' => ∃ v', e = .returned v' ∧ RdRn w' v' (findP (alk N) l) ∧ Ext W w' := by
 have cO := ordered_any W.heap.size l W v h (by omega)
 obtain ⟨p, cp, rfl, _hcp⟩ := h.form
 obtain ⟨n, hn⟩ : ∃ n, l.length = n := ⟨_, rfl⟩
 have HL : Hid (RdC W.heap.size W (.slice p n cp) l ∧ l.length = n ∧ n ≤ 2000 ∧ (∀ c ∈ l, Hr N c.x) ∧ Hr N tz) := ⟨by rw [← hn]; exact h, hn, by omega, hr, hz⟩
 rw [hn] at cO
 rw [hn]
 obtain ⟨b, hb⟩ : ∃ b, sndB l = b := ⟨_, rfl⟩
 rw [hb] at cO
 have HB : Hid (sndB l = b) := hb
 have eg : ∀ args w, (callFunc 12 args).run Try.prog w = .ok (.enter 12 args) w := enters_of Try.func12 (by kernel_rfl) rfl
 clear h _hcp hn hl hr hz hb
 go_enter Try.func7, Try.ntmps7
 go_wp2_with fail
 refine cO.mono ?_
 rintro e w1 ⟨rfl, E1⟩
 have HE1 : Hid (Ext W w1) := E1
 clear cO E1
 cases b with
 | false =>
   go_wp2_with fail
   go_ret
   refine ⟨_, rfl, ?_, HE1.out⟩
   unfold findP
   rw [HB.out]
   exact RdG.nil _
 | true =>
   have hm : (Instr.makeMap 46 .none).run Try.prog w1 = .ok (.map (some w1.heap.size)) (w1.alloc (.map #[] 0)) := run_makeMap _ _
   go_upto_block 0 with fail
   obtain ⟨w2, hw2⟩ : ∃ w2, w2 = (w1.alloc (.map #[] 0)).alloc (.cells #[.map (some w1.heap.size)] 46) := ⟨_, rfl⟩
   have F0 := FsS.start HE1.out
   rw [← hw2] at F0
   rw [← hw2]
   obtain ⟨t, ht⟩ : ∃ t, t = w1.heap.size + 1 := ⟨_, rfl⟩
   rw [← ht] at F0
   rw [← ht]
   have HF0 : Hid (FsS W w2 t 0 spz) := F0
   clear F0 hw2 ht
   go_wp2_with fail
   go_loopw [16] (fun iv wr => ∃ i : Nat, iv = .int .i64 (i : Int) ∧ i ≤ n ∧ FsS W wr t i (foP (alk N) (l.take i))) (fun iv _ => n - (intOf iv).toNat)
   case atStart => exact ⟨0, rfl, Nat.zero_le _, HF0.out⟩
   case round =>
     obtain ⟨i, rfl, hi, hF⟩ := hrel
     have HF : Hid (FsS W wr t i (foP (alk N) (l.take i)) ∧ i ≤ n ∧ n ≤ 2000) := ⟨hF, hi, HL.out.2.2.1⟩
     have wi : wrap64 ((i : Int) + 1) = ((i + 1 : Nat) : Int) := wrapNr i (by have := HF.out; omega)
     clear hF hm HF0
     rcases Nat.lt_or_ge i n with hlt | hge
     · have hltI : (i : Int) < (n : Int) := by omega
       obtain ⟨x, hx⟩ : ∃ x, l[i]? = some x := ⟨_, List.getElem?_eq_getElem (by rw [HL.out.2.1]; exact hlt)⟩
       obtain ⟨gb, off, lv, rfl, hgb, hT, hce⟩ := (HL.out.1.ext HF.out.1.e).at hx
       obtain ⟨lp, ln, lc, rfl⟩ : ∃ lp ln lc, lv = .slice lp ln lc := by obtain ⟨a, b, hab, _⟩ := hT.form; exact ⟨a, _, b, hab⟩
       obtain ⟨b, hb⟩ : ∃ b, x.is = b := ⟨_, rfl⟩
       have hin : inB x.row x.col = true := by
         have := (snd_iff l).1 HB.out i (by rw [HL.out.2.1]; exact hlt)
         unfold okAt at this
         rw [clA_get hx] at this
         simp at this
         exact this.1
       have hmem : x ∈ l := List.mem_of_getElem? hx
       have HX : Hid (foP (alk N) (l.take (i + 1)) = stP (alk N) (foP (alk N) (l.take i)) x) := foP_take _ hx
       have HS : Hid (∀ V, Ext wr V → x.is = true → Calls Try.prog 12 #[aggC x (.slice lp ln lc), .pointer (some ⟨t, 0, none⟩)] V fun e w' => e = .returned (.tuple #[]) ∧ FsS W w' t (i + 1) (stP (alk N) (foP (alk N) (l.take i)) x)) := fun V e his =>
         see_any N W V t i _ (HF.out.1.ext e) (by have := HF.out.2; omega) x _ (hT.ext e) (HL.out.2.2.2.1 x hmem) (fo_hr _ (fun c hc => HL.out.2.2.2.1 c (List.mem_of_mem_take hc)) HL.out.2.2.2.2) hin his
       have HR : Hid (wr.rangeAt gb (off + i * 21) [.int .i64 x.row, .int .i64 x.col, .string x.txt, .bool b, .int .i64 x.x.k, .int .i64 x.x.n, .string (bs x.x.s), .int .i64 x.x.e, .int .i64 x.x.r.1, .int .i64 x.x.r.2.1, .bool x.x.r.2.2.1, .bool x.x.r.2.2.2, .int .i64 x.x.q.1, .int .i64 x.x.q.2.1, .bool x.x.q.2.2.1, .bool x.x.q.2.2.2, .slice lp ln lc, .int .i64 x.vk, .int .i64 x.vn, .string x.vs, .int .i64 x.ve]) := by
         have : wr.rangeAt gb (off + i * 21) [.int .i64 x.row, .int .i64 x.col, .string x.txt, .bool x.is, .int .i64 x.x.k, .int .i64 x.x.n, .string (bs x.x.s), .int .i64 x.x.e, .int .i64 x.x.r.1, .int .i64 x.x.r.2.1, .bool x.x.r.2.2.1, .bool x.x.r.2.2.2, .int .i64 x.x.q.1, .int .i64 x.x.q.2.1, .bool x.x.q.2.2.1, .bool x.x.q.2.2.2, .slice lp ln lc, .int .i64 x.vk, .int .i64 x.vn, .string x.vs, .int .i64 x.ve] := hce
         rw [hb] at this
         exact this
       have HBB : Hid (x.is = b ∧ i < n) := ⟨hb, hlt⟩
       clear hT hce hb hin hmem hx hi hlt hgb
       cases b with
       | false =>
         go_wp2_with (first | (refine wpList_load_mid rfl 33 _ rfl gb (off + i * 21) rfl _ _ HR.out Try.underlying33 rfl (by kernel_rfl) ?_) | (refine wpList_storeN _ rfl _ _ 33 rfl _ _ rfl rfl (by kernel_rfl) (by rfl) (by simp [Value.oneCell']) ?_))
         go_roundw
         case rel =>
           refine ⟨i + 1, by rw [wi], HBB.out.2, ?_⟩
           rw [HX.out]
           unfold stP
           rw [if_neg (by rw [HBB.out.1]; exact Bool.false_ne_true)]
           exact HF.out.1.more.ext ((Ext.refl _).alloc _)
         case measure => rw [wi]; have := HBB.out.2; simp [intOf]; omega
       | true =>
         have HS2 : Hid (∀ V, Ext wr V → Calls Try.prog 12 #[.agg #[.int .i64 x.row, .int .i64 x.col, .string x.txt, .bool true, .int .i64 x.x.k, .int .i64 x.x.n, .string (bs x.x.s), .int .i64 x.x.e, .int .i64 x.x.r.1, .int .i64 x.x.r.2.1, .bool x.x.r.2.2.1, .bool x.x.r.2.2.2, .int .i64 x.x.q.1, .int .i64 x.x.q.2.1, .bool x.x.q.2.2.1, .bool x.x.q.2.2.2, .slice lp ln lc, .int .i64 x.vk, .int .i64 x.vn, .string x.vs, .int .i64 x.ve], .pointer (some ⟨t, 0, none⟩)] V fun e w' => e = .returned (.tuple #[]) ∧ FsS W w' t (i + 1) (stP (alk N) (foP (alk N) (l.take i)) x)) := fun V e => by
           have := HS.out V e HBB.out.1
           unfold aggC at this
           rw [HBB.out.1] at this
           exact this
         have RT : Hid ((wr.alloc (.cells #[.int .i64 x.row, .int .i64 x.col, .string x.txt, .bool true, .int .i64 x.x.k, .int .i64 x.x.n, .string (bs x.x.s), .int .i64 x.x.e, .int .i64 x.x.r.1, .int .i64 x.x.r.2.1, .bool x.x.r.2.2.1, .bool x.x.r.2.2.2, .int .i64 x.x.q.1, .int .i64 x.x.q.2.1, .bool x.x.q.2.2.1, .bool x.x.q.2.2.2, .slice lp ln lc, .int .i64 x.vk, .int .i64 x.vn, .string x.vs, .int .i64 x.ve] 33)).rangeAt wr.heap.size 0 [.int .i64 x.row, .int .i64 x.col, .string x.txt, .bool true, .int .i64 x.x.k, .int .i64 x.x.n, .string (bs x.x.s), .int .i64 x.x.e, .int .i64 x.x.r.1, .int .i64 x.x.r.2.1, .bool x.x.r.2.2.1, .bool x.x.r.2.2.2, .int .i64 x.x.q.1, .int .i64 x.x.q.2.1, .bool x.x.q.2.2.1, .bool x.x.q.2.2.2, .slice lp ln lc, .int .i64 x.vk, .int .i64 x.vn, .string x.vs, .int .i64 x.ve]) := rng_top (Ext.refl _)
         clear HS
         go_wp2_with (first | (refine wpList_load_mid rfl 33 _ rfl gb (off + i * 21) rfl _ _ HR.out Try.underlying33 rfl (by kernel_rfl) ?_) | (refine wpList_load_mid rfl 33 _ rfl wr.heap.size 0 rfl _ _ RT.out Try.underlying33 rfl (by kernel_rfl) ?_) | (refine wpList_storeN _ rfl _ _ 33 rfl _ _ rfl rfl (by kernel_rfl) (by rfl) (by simp [Value.oneCell']) ?_))
         refine (HS2.out _ ((Ext.refl _).alloc _)).mono ?_
         rintro e w5 ⟨rfl, F5⟩
         have HF5 : Hid (FsS W w5 t (i + 1) (foP (alk N) (l.take (i + 1)))) := by rw [HX.out]; exact F5
         clear F5
         go_wp2_with fail
         go_roundw
         case rel => exact ⟨i + 1, by rw [wi], HBB.out.2, HF5.out⟩
         case measure => rw [wi]; have := HBB.out.2; simp [intOf]; omega
     · have hin : i = n := by omega
       have hltI : (n : Int) ≤ (i : Int) := by omega
       have HF2 : Hid (FsS W wr t n (foP (alk N) l)) := by
         have := HF.out.1
         rw [hin, List.take_of_length_le (by rw [HL.out.2.1]; exact Nat.le_refl _)] at this
         exact this
       obtain ⟨g, D, vs, lvs, ht, own, hM⟩ := HF2.out.map
       have HM : Hid (wr.heap[t]? = some (.cells #[.map (some g)] 46 (0, 0)) ∧ wr.ownsMap Try.prog 3 hR g n D ∧ ColM wr W.heap.size g D vs lvs (foP (alk N) l)) := ⟨ht, own, hM⟩
       clear hin hge hi HF wi ht own hM
       rename World => w3
       have d1 : decide (i < n) = false := decide_eq_false (by omega)
       go_wp2_with fail
       clear hltI d1
       go_loopw [7, 26] (fun x y wq => ∃ k : Nat, y = .int .i64 (k : Int) ∧ k ≤ 52 ∧ Ext w3 wq ∧ wq.ownsRow w3.heap.size 45 3 x (rnK (foP (alk N) l) k).length ((rnK (foP (alk N) l) k).flatMap cRn)) (fun _ y _ => 52 - (intOf y).toNat)
       case atStart => exact ⟨0, rfl, Nat.zero_le _, Ext.refl _, by simp [rnK], .inl ⟨rfl, by simp [rnK]⟩⟩
       case round =>
         obtain ⟨k, rfl, hk, hE, hO⟩ := hrel
         obtain ⟨xp, xc, rfl, _hxc⟩ := own_form hO
         obtain ⟨m, hm⟩ : ∃ m, (rnK (foP (alk N) l) k).length = m := ⟨_, rfl⟩
         rw [hm] at hO
         rw [hm]
         have HQ : Hid (Ext w3 wr ∧ wr.ownsRow w3.heap.size 45 3 (.slice xp m xc) m ((rnK (foP (alk N) l) k).flatMap cRn) ∧ k ≤ 52 ∧ (rnK (foP (alk N) l) k).length = m) := ⟨hE, hO, hk, hm⟩
         have HN : Hid (n ≤ 2000 ∧ (∀ c ∈ l, 1 ≤ c.row ∧ c.row ≤ 1000)) := by
           refine ⟨HL.out.2.2.1, fun c hc => ?_⟩
           obtain ⟨i, hi⟩ := List.mem_iff_getElem?.1 hc
           have := (snd_iff l).1 HB.out i (List.getElem?_eq_some_iff.1 hi).1
           unfold okAt inB at this
           rw [clA_get hi] at this
           simp at this
           omega
         clear hO hE hm _hxc
         rcases Nat.lt_or_ge k 52 with hlt | hge
         · have hltI : (k : Int) < 52 := by omega
           have wk : wrap64 ((k : Int) + 1) = ((k + 1 : Nat) : Int) := wrapNr k (by omega)
           have wk2 : IntKind.i64.wrap ((k : Int) + 1) = (k : Int) + 1 := iwrap (by omega) (by omega)
           have k0 : wr.cell? ⟨t, 0, none⟩ = some (.map (some g)) := (cell_of_row _ _ 0 _ _ (0, 0) ((HQ.out.1.block t (heap_lt HM.out.1)).trans HM.out.1)).trans rfl
           obtain ⟨sp, sc, hsv, _hsc⟩ := own_form (HM.out.2.2.row ((k : Int) + 1))
           obtain ⟨sn, hsn⟩ : ∃ sn, ((foP (alk N) l) ((k : Int) + 1)).1.length = sn := ⟨_, rfl⟩
           rw [hsn] at hsv
           have hlk := col_look (ownsMap_ext HM.out.2.1 HQ.out.1) (HM.out.2.2.ext HQ.out.1) (k := (k : Int) + 1) (by unfold I64; omega)
           rw [hsv] at hlk
           have HK : Hid ((Instr.lookup 46 (.map (some g)) (.int .i64 ((k : Int) + 1)) false).run Try.prog wr = .ok (aggS (.slice sp sn sc) ((foP (alk N) l) ((k : Int) + 1)).2 (lvs ((k : Int) + 1))) wr) := hlk
           have HR : Hid (RdRn wr (.slice sp sn sc) ((foP (alk N) l) ((k : Int) + 1)).1 ∧ ((foP (alk N) l) ((k : Int) + 1)).1.length = sn ∧ m + sn ≤ 1000000 ∧ rnK (foP (alk N) l) (k + 1) = rnK (foP (alk N) l) k ++ ((foP (alk N) l) ((k : Int) + 1)).1 ∧ k < 52) := by
             refine ⟨?_, hsn, ?_, rnK_succ _ _, hlt⟩
             · have := own_rdG cRn_len (ownsRow_ext (HM.out.2.2.row ((k : Int) + 1)) HQ.out.1) rfl
               rw [hsv] at this
               exact this
             · have h1 := rn_len HF2.out.ok k
               have h2 := HF2.out.ok.few ((k : Int) + 1)
               have h3 := HQ.out.2.2.2
               have h4 := HN.out.1
               have h5 : n * k ≤ 2000 * 52 := Nat.mul_le_mul h4 (by omega)
               omega
           have hf := fun V => field_strip (.slice sp sn sc) ((foP (alk N) l) ((k : Int) + 1)).2 (lvs ((k : Int) + 1)) V
           clear hlk hsv hsn hlt _hsc
           go_wp2_with (first | (at_lookup; refine wpList_look _ rfl _ _ 46 rfl _ _ _ rfl (by first | rfl | (rw [wk2]; rfl)) HK.out ?_) | (at_builtin; refine app_g eltRn cRn_len cRn_one (by decide) _ w3 _ _ _ _ m sn _ _ w3.heap.size rfl rfl (by rfl) (by rfl) HQ.out.2.1 HR.out.2.1 HR.out.1 HR.out.2.2.1 HQ.out.1 (Nat.le_refl _) HQ.out.1.size ?_; intro v9 w9 O9 E9 G9 N9; have H9 : Hid (Ext w3 w9 ∧ w9.ownsRow w3.heap.size 45 3 v9 (rnK (foP (alk N) l) (k + 1)).length ((rnK (foP (alk N) l) (k + 1)).flatMap cRn)) := ⟨E9, by rw [HR.out.2.2.2.1, List.length_append, HQ.out.2.2.2, HR.out.2.1]; exact O9⟩; clear O9 E9 G9 N9))
           go_roundw
           case rel => exact ⟨k + 1, rfl, HR.out.2.2.2.2, H9.out⟩
           case measure =>
             have := HR.out.2.2.2.2
             show 52 - ((k : Int) + 1).toNat < 52 - (k : Int).toNat
             omega
         · have hk52 : k = 52 := by have := HQ.out.2.2.1; omega
           have hltI : (52 : Int) ≤ (k : Int) := by omega
           have HQ2 : Hid (Ext W wr ∧ wr.ownsRow w3.heap.size 45 3 (.slice xp m xc) (rnK (foP (alk N) l) 52).length ((rnK (foP (alk N) l) 52).flatMap cRn) ∧ (rnK (foP (alk N) l) 52).length = m) := by
             have h1 := HQ.out.2.1
             have h2 := HQ.out.2.2.2
             rw [hk52] at h1 h2
             refine ⟨HF2.out.e.trans HQ.out.1, ?_, h2⟩
             rw [h2]; exact h1
           have cD := delr_any wr w3.heap.size (.slice xp m xc) (rnK (foP (alk N) l) 52) HQ2.out.2.1 (by have h1 := rn_len HF2.out.ok 52; have h4 := HN.out.1; omega) (fun r hr => by
             unfold rnK at hr
             obtain ⟨i, _, hi⟩ := List.mem_flatMap.1 hr
             exact fo_sm l HN.out.2 _ r hi)
           clear hge hk52 hk
           go_wp2_with fail
           refine cD.mono ?_
           rintro e w5 ⟨v5, rfl, O5, _, G5⟩
           have HO5 : Hid (RdRn w5 v5 (findP (alk N) l) ∧ Ext W w5) := by
             refine ⟨?_, ext_grownG HQ2.out.2.1 HF2.out.e.size HQ2.out.1 G5⟩
             unfold findP
             rw [HB.out]
             exact own_rdG cRn_len O5 rfl
           obtain ⟨yp, yc, rfl, _⟩ := own_form O5
           clear cD O5 G5
           go_wp2_with fail
           go_ret
           exact ⟨_, rfl, HO5.out⟩
open Go.RowKit
set_option maxHeartbeats 2000000
theorem eq_rn (x1 x2 x3 y1 y2 y3 : Int) (w : World) : Sem.run Try.prog (Op.equalIn 10000 45 (.agg #[.int .i64 x1, .int .i64 x2, .int .i64 x3]) (.agg #[.int .i64 y1, .int .i64 y2, .int .i64 y3])) w = .ok (x1 == y1 && (x2 == y2 && x3 == y3)) w := by
 have u3 := Try.underlying3
 have a3 := Try.isAgg3
 have z3 := Try.sizeOf3
 have hS : Try.prog.underlying 45 = some (.struct (Try.prog.fieldsOf 45)) := by kernel_rfl
 have hp : Try.prog.stoodInHeld 45 = false := by kernel_rfl
 rw [show (10000 : Nat) = 9999 + 1 from rfl, run_equalIn_agg w 9999 45 _ _ hS hp]
 simp only [Program.fieldsOf, Try.underlying45]
 go_simp
 by_cases h1 : x1 = y1 <;> by_cases h2 : x2 = y2 <;> by_cases h3 : x3 = y3 <;> simp [h1, h2, h3]
theorem gd_rn (x y : Array Value) (op : BinOp) (a b : Operand) (w : World) : (eqGuard op 45 a b (.agg x) (.agg y)).run Try.prog w = .ok () w := run_eqGuard_agg w op 45 a b x y (by kernel_rfl)
set_option maxRecDepth 100000 in
theorem rgsame_any (w : World) (v u : Value) (l m : List Rn) (h : RdRn w v l) (g : RdRn w u m) (hl : l.length ≤ 200000) :
   Calls Try.prog 6 #[v, u] w fun e w' => e = .returned (.bool (decide (l = m))) ∧ Ext w w' := by
 obtain ⟨p, c, rfl, _⟩ := h.form
 obtain ⟨q, d, rfl, _⟩ := g.form
 have HR : Hid (RdRn w (.slice p l.length c) l) := h
 have HG : Hid (RdRn w (.slice q m.length d) m) := g
 have HL : Hid (l.length ≤ 200000) := hl
 clear h hl g
 go_enter Try.func6, Try.ntmps6
 by_cases hne : l.length = m.length
 · have HM : Hid (l.length = m.length) := hne
   have e1 : ((l.length : Int) != (m.length : Int)) = false := by simp [hne]
   clear hne
   go_wp2
   go_loopw [5] (fun x wr => ∃ k : Nat, x = .int .i64 (k : Int) ∧ k ≤ l.length ∧ Ext w wr ∧ l.take k = m.take k) (fun x _ => l.length - (intOf x).toNat)
   case atStart => exact ⟨0, rfl, Nat.zero_le _, Ext.refl _, rfl⟩
   case round =>
     obtain ⟨k, rfl, hk, hE, hn⟩ := hrel
     have HE : Hid (Ext w wr) := hE
     have HN : Hid (l.take k = m.take k) := hn
     clear hE hn e1
     rcases Nat.lt_or_ge k l.length with hlt | hge
     · have hltI : (k : Int) < (l.length : Int) := by omega
       have hltJ : (k : Int) < (m.length : Int) := by have := HM.out; omega
       have hltm : k < m.length := by have := HM.out; omega
       obtain ⟨s, hs⟩ : ∃ s, l[k]? = some s := ⟨_, List.getElem?_eq_getElem hlt⟩
       obtain ⟨t, ht⟩ : ∃ t, m[k]? = some t := ⟨_, List.getElem?_eq_getElem hltm⟩
       obtain ⟨b, off, rfl, _, c1, c2, c2b⟩ := Rd3.cell (HR.out.ext HE.out) hs rfl
       obtain ⟨b', off', rfl, _, c3, c4, c4b⟩ := Rd3.cell (HG.out.ext HE.out) ht rfl
       obtain ⟨s1, s2, s3⟩ := s
       obtain ⟨t1, t2, t3⟩ := t
       have HS : Hid (l[k]? = some (s1, s2, s3) ∧ m[k]? = some (t1, t2, t3)) := ⟨hs, ht⟩
       clear hs ht hltm
       have wk := wrapNr k (by have := HL.out; omega)
       go_upto_region 6 with fail
       have qE := eq_rn s1 s2 s3 t1 t2 t3
       have qG := gd_rn
       by_cases he : (s1 == t1 && (s2 == t2 && s3 == t3)) = true
       · have HT : Hid (l.take (k + 1) = m.take (k + 1)) := by
           show _ = _
           rw [take_at HS.out.1, take_at HS.out.2, HN.out]
           simp at he
           rw [he.1, he.2.1, he.2.2]
         rw [he] at qE
         clear he
         go_quiet (fail)
         go_wp2
         go_roundw
         case rel => exact ⟨k + 1, by rw [wk], hlt, HE.out.drewN _, HT.out⟩
         case measure => rw [wk]; simp [intOf]; omega
       · rw [Bool.not_eq_true] at he
         have HT : Hid (l ≠ m) := by
           show l ≠ m
           rintro rfl
           have h1 := HS.out.1.symm.trans HS.out.2
           simp at h1
           simp [h1.1, h1.2.1, h1.2.2] at he
         rw [he] at qE
         clear he
         go_quiet (fail)
         go_wp2
         go_ret
         exact ⟨ret_bool (by simp [HT.out]), HE.out.drewN _⟩
     · have hltI : ¬ (k : Int) < (l.length : Int) := by omega
       go_wp2
       go_ret
       refine ⟨ret_bool ?_, HE.out⟩
       have h1 := HN.out
       rw [List.take_of_length_le hge, List.take_of_length_le (by have := HM.out; omega)] at h1
       simp [h1]
 · have e1 : ((l.length : Int) != (m.length : Int)) = true := by simp; omega
   have HM : Hid (l ≠ m) := by intro h; exact hne (by rw [h])
   clear hne
   go_wp2
   go_ret
   exact ⟨ret_bool (by simp [HM.out]), Ext.refl _⟩
open Go.RowKit
set_option maxHeartbeats 4000000
def fcl (row col : Int) (x : T) (q : ByteArray) : Cl := ⟨row, col, (⟨#[61]⟩ : ByteArray) ++ q, true, x, 0, 0, ⟨#[]⟩, 0⟩
theorem step_storeN {P : Program} {ops : Array Oper} {o : Oper} {a : Act} {w : World} {K : Act → World → Prop} {Q : Exit → Act → World → Prop} {E : Prop}
   (hg : o.guard = none) (x v : Operand) (t : TypeId) (hop : o.op = Op.store t x v) (xv vv : Value) (hx : a.eval x = xv) (hv : a.eval v = vv) (w' : World)
   (hrun : (Instr.storeAt t xv vv).run P w = .ok () w') (hK : K (a.put o.dst undef) w') : if Region.wanted o (yielded ops a.tmps) = true then Oper.wp P o a w K Q else E := by
 have hw : Region.wanted o (yielded ops a.tmps) = true := by simp [Region.wanted, hg]
 rw [if_pos hw]
 unfold Oper.wp
 simp [execOp, hop, hx, hv, hrun, Result.andThen]
 exact hK
set_option maxRecDepth 100000 in
theorem rcell_any (row col : Int) (x : T) (pp : Option Addr) (ln cl : Nat) (q : ByteArray) (hq : q.size ≤ 100000000) (W : World) (hS : ∀ V, Ext W V → Calls Try.prog 22 #[.agg #[.int .i64 x.k, .int .i64 x.n, .string (bs x.s), .int .i64 x.e, .int .i64 x.r.1, .int .i64 x.r.2.1, .bool x.r.2.2.1, .bool x.r.2.2.2, .int .i64 x.q.1, .int .i64 x.q.2.1, .bool x.q.2.2.1, .bool x.q.2.2.2, .slice pp ln cl]] V fun e w' => e = .returned (.string q) ∧ Ext V w') :
   Calls Try.prog 10 #[.int .i64 row, .int .i64 col, .agg #[.int .i64 x.k, .int .i64 x.n, .string (bs x.s), .int .i64 x.e, .int .i64 x.r.1, .int .i64 x.r.2.1, .bool x.r.2.2.1, .bool x.r.2.2.2, .int .i64 x.q.1, .int .i64 x.q.2.1, .bool x.q.2.2.1, .bool x.q.2.2.2, .slice pp ln cl]] W fun e w' => e = .returned (aggC (fcl row col x q) (.slice pp ln cl)) ∧ Ext W w' := by
 obtain ⟨W2, hW2⟩ : ∃ W2, W2 = (W.alloc (.cells #[.int .i64 x.k, .int .i64 x.n, .string (bs x.s), .int .i64 x.e, .int .i64 x.r.1, .int .i64 x.r.2.1, .bool x.r.2.2.1, .bool x.r.2.2.2, .int .i64 x.q.1, .int .i64 x.q.2.1, .bool x.q.2.2.1, .bool x.q.2.2.2, .slice pp ln cl] 29)).alloc (.cells #[.int .i64 0, .int .i64 0, .string ⟨#[]⟩, .bool false, .int .i64 0, .int .i64 0, .string ⟨#[]⟩, .int .i64 0, .int .i64 0, .int .i64 0, .bool false, .bool false, .int .i64 0, .int .i64 0, .bool false, .bool false, .slice none 0 0, .int .i64 0, .int .i64 0, .string ⟨#[]⟩, .int .i64 0] 33) := ⟨_, rfl⟩
 have E2 : Ext W W2 := by rw [hW2]; exact ((Ext.refl _).alloc _).alloc _
 have hA2 : W2.heap[W.heap.size]? = some (.cells #[.int .i64 x.k, .int .i64 x.n, .string (bs x.s), .int .i64 x.e, .int .i64 x.r.1, .int .i64 x.r.2.1, .bool x.r.2.2.1, .bool x.r.2.2.2, .int .i64 x.q.1, .int .i64 x.q.2.1, .bool x.q.2.2.1, .bool x.q.2.2.2, .slice pp ln cl] 29 (0, 0)) := by rw [hW2]; exact (((Ext.refl _).alloc _).block _ (by simp)).trans (top_heap _ _)
 have hB2 : W2.heap[W.heap.size + 1]? = some (.cells #[.int .i64 0, .int .i64 0, .string ⟨#[]⟩, .bool false, .int .i64 0, .int .i64 0, .string ⟨#[]⟩, .int .i64 0, .int .i64 0, .int .i64 0, .bool false, .bool false, .int .i64 0, .int .i64 0, .bool false, .bool false, .slice none 0 0, .int .i64 0, .int .i64 0, .string ⟨#[]⟩, .int .i64 0] 33 (0, 0)) := by rw [hW2, show W.heap.size + 1 = (W.alloc (.cells #[.int .i64 x.k, .int .i64 x.n, .string (bs x.s), .int .i64 x.e, .int .i64 x.r.1, .int .i64 x.r.2.1, .bool x.r.2.2.1, .bool x.r.2.2.2, .int .i64 x.q.1, .int .i64 x.q.2.1, .bool x.q.2.2.1, .bool x.q.2.2.2, .slice pp ln cl] 29)).heap.size by simp]; exact top_heap _ _
 have mkS : Hid (∀ V, Ext W2 V → (fun V => V.rangeAt W.heap.size 0 [.int .i64 x.k, .int .i64 x.n, .string (bs x.s), .int .i64 x.e, .int .i64 x.r.1, .int .i64 x.r.2.1, .bool x.r.2.2.1, .bool x.r.2.2.2, .int .i64 x.q.1, .int .i64 x.q.2.1, .bool x.q.2.2.1, .bool x.q.2.2.2, .slice pp ln cl]) V) := fun V e => rng_whole ((e.block _ (heap_lt hA2)).trans hA2)
 have cS := fun V (e : Ext W2 V) => hS V (E2.trans e)
 have HST : Hid (∀ V, Ext W2 V → ∃ w5, (Instr.storeAt 33 (.pointer (some ⟨W.heap.size + 1, 0, none⟩)) (.agg #[.int .i64 row, .int .i64 col, .string ((⟨#[61]⟩ : ByteArray) ++ q), .bool true, .int .i64 x.k, .int .i64 x.n, .string (bs x.s), .int .i64 x.e, .int .i64 x.r.1, .int .i64 x.r.2.1, .bool x.r.2.2.1, .bool x.r.2.2.2, .int .i64 x.q.1, .int .i64 x.q.2.1, .bool x.q.2.2.1, .bool x.q.2.2.2, .slice pp ln cl, .int .i64 0, .int .i64 0, .string ⟨#[]⟩, .int .i64 0])).run Try.prog V = .ok () w5 ∧ w5.heap[W.heap.size + 1]? = some (.cells #[.int .i64 row, .int .i64 col, .string ((⟨#[61]⟩ : ByteArray) ++ q), .bool true, .int .i64 x.k, .int .i64 x.n, .string (bs x.s), .int .i64 x.e, .int .i64 x.r.1, .int .i64 x.r.2.1, .bool x.r.2.2.1, .bool x.r.2.2.2, .int .i64 x.q.1, .int .i64 x.q.2.1, .bool x.q.2.2.1, .bool x.q.2.2.2, .slice pp ln cl, .int .i64 0, .int .i64 0, .string ⟨#[]⟩, .int .i64 0] 33 (0, 0)) ∧ Ext W w5 ∧ w5.rangeAt W.heap.size 0 [.int .i64 x.k, .int .i64 x.n, .string (bs x.s), .int .i64 x.e, .int .i64 x.r.1, .int .i64 x.r.2.1, .bool x.r.2.2.1, .bool x.r.2.2.2, .int .i64 x.q.1, .int .i64 x.q.2.1, .bool x.q.2.2.1, .bool x.q.2.2.2, .slice pp ln cl]) := fun V e => by
   have hV := (e.block _ (heap_lt hB2)).trans hB2
   have hVA := (e.block _ (heap_lt hA2)).trans hA2
   have hrun := run_storeAt_mid (P := Try.prog) V (W.heap.size + 1) 0 33 #[.int .i64 row, .int .i64 col, .string ((⟨#[61]⟩ : ByteArray) ++ q), .bool true, .int .i64 x.k, .int .i64 x.n, .string (bs x.s), .int .i64 x.e, .int .i64 x.r.1, .int .i64 x.r.2.1, .bool x.r.2.2.1, .bool x.r.2.2.2, .int .i64 x.q.1, .int .i64 x.q.2.1, .bool x.q.2.2.1, .bool x.q.2.2.2, .slice pp ln cl, .int .i64 0, .int .i64 0, .string ⟨#[]⟩, .int .i64 0] (there_heap (o := 0) (n := 21) (cs := [.int .i64 0, .int .i64 0, .string ⟨#[]⟩, .bool false, .int .i64 0, .int .i64 0, .string ⟨#[]⟩, .int .i64 0, .int .i64 0, .int .i64 0, .bool false, .bool false, .int .i64 0, .int .i64 0, .bool false, .bool false, .slice none 0 0, .int .i64 0, .int .i64 0, .string ⟨#[]⟩, .int .i64 0]) hV (by decide)) (by kernel_rfl) (by simp [Value.oneCell'])
   obtain ⟨h1, h4⟩ := heap_whole (ds := [.int .i64 row, .int .i64 col, .string ((⟨#[61]⟩ : ByteArray) ++ q), .bool true, .int .i64 x.k, .int .i64 x.n, .string (bs x.s), .int .i64 x.e, .int .i64 x.r.1, .int .i64 x.r.2.1, .bool x.r.2.2.1, .bool x.r.2.2.2, .int .i64 x.q.1, .int .i64 x.q.2.1, .bool x.q.2.2.1, .bool x.q.2.2.2, .slice pp ln cl, .int .i64 0, .int .i64 0, .string ⟨#[]⟩, .int .i64 0]) hV rfl
   refine ⟨_, hrun, h1, ?_, ?_⟩
   · exact ⟨h4.os.trans (E2.trans e).os, h4.tape.trans (E2.trans e).tape, h4.output.trans (E2.trans e).output, Nat.le_trans (E2.trans e).size h4.size, fun k hk => (h4.block k (Nat.lt_of_lt_of_le hk (E2.trans e).size) (fun e => by cases e; omega)).trans ((E2.trans e).block k hk)⟩
   · exact rng_whole ((h4.block _ (heap_lt hVA) (by simp)).trans hVA)
 have HW2 : Hid (W2 = (W.alloc (.cells #[.int .i64 x.k, .int .i64 x.n, .string (bs x.s), .int .i64 x.e, .int .i64 x.r.1, .int .i64 x.r.2.1, .bool x.r.2.2.1, .bool x.r.2.2.2, .int .i64 x.q.1, .int .i64 x.q.2.1, .bool x.q.2.2.1, .bool x.q.2.2.2, .slice pp ln cl] 29)).alloc (.cells #[.int .i64 0, .int .i64 0, .string ⟨#[]⟩, .bool false, .int .i64 0, .int .i64 0, .string ⟨#[]⟩, .int .i64 0, .int .i64 0, .int .i64 0, .bool false, .bool false, .int .i64 0, .int .i64 0, .bool false, .bool false, .slice none 0 0, .int .i64 0, .int .i64 0, .string ⟨#[]⟩, .int .i64 0] 33)) := hW2
 have hq3 : ¬ 9223372036854775807 < 1 + q.size := by omega
 clear hA2 hB2 hW2 hS E2
 go_enter Try.func10, Try.ntmps10
 go_wp2_with fail
 rw [← HW2.out]
 refine wp_region_held_drew (S := (fun V => V.rangeAt W.heap.size 0 [.int .i64 x.k, .int .i64 x.n, .string (bs x.s), .int .i64 x.e, .int .i64 x.r.1, .int .i64 x.r.2.1, .bool x.r.2.2.1, .bool x.r.2.2.2, .int .i64 x.q.1, .int .i64 x.q.2.1, .bool x.q.2.2.1, .bool x.q.2.2.2, .slice pp ln cl])) (by kernel_rfl) ?_ (fun hHeld0 => ?_)
 · (first | (refine mkS.out _ ?_; ((with_reducible (repeat (first | assumption | exact Ext.refl _ | apply Ext.drew | apply Ext.alloc))); done)) | exact R5.out)
 refine wpAnyH_take (i := 0) (oi := ⟨some 7, .move (.tmp 0), 3, "ref.go:32", #[], none⟩) (v := ?_) rfl (by kernel_rfl) (by kernel_rfl) (by kernel_rfl) (fun _ _ _ h => h) (Or.inl ⟨by rfl, ?_⟩) (by assumption) ?_
 rotate_left
 · intro w hSw; (try dsimp only at hSw); first | (go_simp; done) | (go_simp; with_reducible rfl)
 try simp only [Act.put, List.setIfInBounds_toArray, List.set_cons_zero, List.set_cons_succ]
 refine wpAnyH_take (i := 1) (oi := ⟨some 8, .move (.tmp 1), 3, "ref.go:32", #[], none⟩) (v := ?_) rfl (by kernel_rfl) (by kernel_rfl) (by kernel_rfl) (fun _ _ _ h => h) (Or.inl ⟨by rfl, ?_⟩) (by assumption) ?_
 rotate_left
 · intro w hSw; (try dsimp only at hSw); first | (go_simp; done) | (go_simp; with_reducible rfl)
 try simp only [Act.put, List.setIfInBounds_toArray, List.set_cons_zero, List.set_cons_succ]
 refine wpAnyH_take (i := 2) (oi := ⟨some 9, .load 29 (.tmp 5), 29, "ref.go:32", #[], none⟩) (v := .agg ([.int .i64 x.k, .int .i64 x.n, .string (bs x.s), .int .i64 x.e, .int .i64 x.r.1, .int .i64 x.r.2.1, .bool x.r.2.2.1, .bool x.r.2.2.2, .int .i64 x.q.1, .int .i64 x.q.2.1, .bool x.q.2.2.1, .bool x.q.2.2.2, .slice pp ln cl]).toArray) rfl (by kernel_rfl) (by kernel_rfl) (by kernel_rfl) (fun _ _ _ h => h) (yieldsIf_load_mid (by rfl) 29 _ rfl W.heap.size 0 rfl _ _ (fun _ h => h) Try.underlying29 rfl (by kernel_rfl)) (by assumption) ?_
 try simp only [Act.put, List.setIfInBounds_toArray, List.set_cons_zero, List.set_cons_succ]
 refine wpAnyH_take (i := 3) (oi := ⟨some 10, .load 29 (.tmp 5), 29, "ref.go:32", #[], none⟩) (v := .agg ([.int .i64 x.k, .int .i64 x.n, .string (bs x.s), .int .i64 x.e, .int .i64 x.r.1, .int .i64 x.r.2.1, .bool x.r.2.2.1, .bool x.r.2.2.2, .int .i64 x.q.1, .int .i64 x.q.2.1, .bool x.q.2.2.1, .bool x.q.2.2.2, .slice pp ln cl]).toArray) rfl (by kernel_rfl) (by kernel_rfl) (by kernel_rfl) (fun _ _ _ h => h) (yieldsIf_load_mid (by rfl) 29 _ rfl W.heap.size 0 rfl _ _ (fun _ h => h) Try.underlying29 rfl (by kernel_rfl)) (by assumption) ?_
 try simp only [Act.put, List.setIfInBounds_toArray, List.set_cons_zero, List.set_cons_succ]
 refine wpAnyH_ready (rs := [4]) (by kernel_rfl) (by simp) ?_
 refine AllReadyH.cons (o := ⟨some 11, .call { callee := .value (.func 22), args := #[.tmp 10], argTypes := #[29] }, 9, "ref.go:32", #[⟨3, .data⟩], none⟩) rfl (fun K hK => ?_) AllReadyH.nil
 go_simp
 refine (cS _ (by (with_reducible (first | assumption | exact Ext.refl _ | (apply Ext.drew; first | assumption | exact Ext.refl _))))).mono ?_; rintro e x1 ⟨rfl, E1⟩; have X1 : Ext W2 x1 := Ext.trans (by (with_reducible (first | assumption | exact Ext.refl _ | (apply Ext.drew; first | assumption | exact Ext.refl _)))) E1; clear E1; obtain ⟨w5, hrun, hh5, he5, hr5⟩ := HST.out x1 X1; have H5 : Hid (w5.heap[W.heap.size + 1]? = some (.cells #[.int .i64 row, .int .i64 col, .string ((⟨#[61]⟩ : ByteArray) ++ q), .bool true, .int .i64 x.k, .int .i64 x.n, .string (bs x.s), .int .i64 x.e, .int .i64 x.r.1, .int .i64 x.r.2.1, .bool x.r.2.2.1, .bool x.r.2.2.2, .int .i64 x.q.1, .int .i64 x.q.2.1, .bool x.q.2.2.1, .bool x.q.2.2.2, .slice pp ln cl, .int .i64 0, .int .i64 0, .string ⟨#[]⟩, .int .i64 0] 33 (0, 0)) ∧ Ext W w5) := ⟨hh5, he5⟩; have R5 : Hid (w5.rangeAt W.heap.size 0 [.int .i64 x.k, .int .i64 x.n, .string (bs x.s), .int .i64 x.e, .int .i64 x.r.1, .int .i64 x.r.2.1, .bool x.r.2.2.1, .bool x.r.2.2.2, .int .i64 x.q.1, .int .i64 x.q.2.1, .bool x.q.2.2.1, .bool x.q.2.2.2, .slice pp ln cl]) := hr5; have HRUN : Hid ((Instr.storeAt 33 (.pointer (some ⟨W.heap.size + 1, 0, none⟩)) (.agg #[.int .i64 row, .int .i64 col, .string ((⟨#[61]⟩ : ByteArray) ++ q), .bool true, .int .i64 x.k, .int .i64 x.n, .string (bs x.s), .int .i64 x.e, .int .i64 x.r.1, .int .i64 x.r.2.1, .bool x.r.2.2.1, .bool x.r.2.2.2, .int .i64 x.q.1, .int .i64 x.q.2.1, .bool x.q.2.2.1, .bool x.q.2.2.2, .slice pp ln cl, .int .i64 0, .int .i64 0, .string ⟨#[]⟩, .int .i64 0])).run Try.prog x1 = .ok () w5) := hrun; clear hrun hh5 he5 hr5
 try go_wp2_with fail
 refine hK.out _ _ ?_ (fun hHeld1 => ?_)
 · (try dsimp only); (first | (refine mkS.out _ ?_; ((with_reducible (repeat (first | assumption | exact Ext.refl _ | apply Ext.drew | apply Ext.alloc))); done)) | exact R5.out)
 clear hK K hHeld0
 try simp only [Act.put, List.setIfInBounds_toArray, List.set_cons_zero, List.set_cons_succ]
 refine wpAnyH_take (i := 5) (oi := ⟨some 12, .binOp .add 9 (.const (.string ⟨#[61]⟩)) (.tmp 11) 9, 9, "ref.go:32", #[⟨4, .data⟩], none⟩) (v := ?_) rfl (by kernel_rfl) (by kernel_rfl) (by kernel_rfl) (fun _ _ _ h => h) (Or.inl ⟨by rfl, ?_⟩) (by assumption) ?_
 rotate_left
 · intro w hSw; (try dsimp only at hSw); first | (go_simp; done) | (go_simp; with_reducible rfl)
 try simp only [Act.put, List.setIfInBounds_toArray, List.set_cons_zero, List.set_cons_succ]
 refine wpAnyH_take (i := 6) (oi := ⟨some 13, .build 33 #[(0, .tmp 7), (1, .tmp 8), (3, .const (.bool true)), (4, .tmp 9), (2, .tmp 12)], 33, "ref.go:32", #[⟨0, .data⟩, ⟨1, .data⟩, ⟨2, .data⟩, ⟨5, .data⟩], none⟩) (v := ?_) rfl (by kernel_rfl) (by kernel_rfl) (by kernel_rfl) (fun _ _ _ h => h) (Or.inl ⟨by rfl, ?_⟩) (by assumption) ?_
 rotate_left
 · intro w hSw; (try dsimp only at hSw); first | (go_simp; done) | (go_simp; with_reducible rfl)
 try simp only [Act.put, List.setIfInBounds_toArray, List.set_cons_zero, List.set_cons_succ]
 refine wpAnyH_ready (rs := [7]) (by kernel_rfl) (by simp) ?_
 refine AllReadyH.cons (o := ⟨none, .store 33 (.tmp 6) (.tmp 13), 0, "ref.go:32", #[⟨6, .data⟩, ⟨4, .chain⟩, ⟨0, .phase⟩, ⟨1, .phase⟩, ⟨2, .phase⟩, ⟨3, .phase⟩, ⟨4, .phase⟩, ⟨5, .phase⟩, ⟨6, .phase⟩], none⟩) rfl (fun K hK => ?_) AllReadyH.nil
 refine step_storeN rfl _ _ 33 rfl _ _ rfl rfl w5 HRUN.out ?_
 refine hK.out _ _ ?_ (fun hHeld2 => ?_)
 · (try dsimp only); (first | (refine mkS.out _ ?_; ((with_reducible (repeat (first | assumption | exact Ext.refl _ | apply Ext.drew | apply Ext.alloc))); done)) | exact R5.out)
 clear hK K hHeld1
 try simp only [Act.put]
 refine wpAnyH_done (by kernel_rfl) ?_ _
 have hld : (loadVar 33 ⟨W.heap.size + 1, 0, none⟩).run Try.prog w5 = .ok (.agg #[.int .i64 row, .int .i64 col, .string ((⟨#[61]⟩ : ByteArray) ++ q), .bool true, .int .i64 x.k, .int .i64 x.n, .string (bs x.s), .int .i64 x.e, .int .i64 x.r.1, .int .i64 x.r.2.1, .bool x.r.2.2.1, .bool x.r.2.2.2, .int .i64 x.q.1, .int .i64 x.q.2.1, .bool x.q.2.2.1, .bool x.q.2.2.2, .slice pp ln cl, .int .i64 0, .int .i64 0, .string ⟨#[]⟩, .int .i64 0]) w5 := run_loadVar_mid w5 (W.heap.size + 1) 0 33 [.int .i64 row, .int .i64 col, .string ((⟨#[61]⟩ : ByteArray) ++ q), .bool true, .int .i64 x.k, .int .i64 x.n, .string (bs x.s), .int .i64 x.e, .int .i64 x.r.1, .int .i64 x.r.2.1, .bool x.r.2.2.1, .bool x.r.2.2.2, .int .i64 x.q.1, .int .i64 x.q.2.1, .bool x.q.2.2.1, .bool x.q.2.2.2, .slice pp ln cl, .int .i64 0, .int .i64 0, .string ⟨#[]⟩, .int .i64 0] _ (rng_whole H5.out.1) Try.underlying33 rfl (by kernel_rfl)
 go_wp2_with fail
 refine bodyPost_ret (v := .agg #[.int .i64 row, .int .i64 col, .string ((⟨#[61]⟩ : ByteArray) ++ q), .bool true, .int .i64 x.k, .int .i64 x.n, .string (bs x.s), .int .i64 x.e, .int .i64 x.r.1, .int .i64 x.r.2.1, .bool x.r.2.2.1, .bool x.r.2.2.2, .int .i64 x.q.1, .int .i64 x.q.2.1, .bool x.q.2.2.1, .bool x.q.2.2.2, .slice pp ln cl, .int .i64 0, .int .i64 0, .string ⟨#[]⟩, .int .i64 0]) ?_ rfl ⟨rfl, H5.out.2⟩
 simp [results, Try.results10, asAddr, hld]
end Go.Proofs.Ytjhmbkdkjgjoaaa

import Derived.Test.YtjhmbkdkjgjoaaaX8
import Derived.Test.YtjhmbkdkjgjoaaaX4
import Derived.Test.YtjhmbkdkjgjoaaaX1
import Derived.Test.YtjhmbkdkjgjoaaaX2
import Derived.Test.YtjhmbkdkjgjoaaaX7
namespace Go.Proofs.Ytjhmbkdkjgjoaaa
open Go.RowKit
def quoB : List UInt8 → List UInt8
 | [] => []
 | c :: r => if c = 34 then 34 :: 34 :: quoB r else c :: quoB r
def quoL (s : List UInt8) : List UInt8 := 34 :: (quoB s ++ [34])
def rfL (r : Rf) : List UInt8 := printR r.1 r.2.1 r.2.2.1 r.2.2.2
def errL (e : Int) : List UInt8 := if e = 1 then [35, 82, 69, 70, 33] else if e = 2 then [35, 86, 65, 76, 85, 69, 33] else if e = 3 then [35, 68, 73, 86, 47, 48, 33] else if e = 4 then [35, 78, 85, 77, 33] else if e = 5 then [35, 67, 89, 67, 76, 69, 33] else []
def brkL (b : Bool) (l : List UInt8) : List UInt8 := if b then 40 :: (l ++ [41]) else l
def joinL : List (List UInt8) → List UInt8
 | [] => []
 | [a] => a
 | a :: b :: r => a ++ 44 :: joinL (b :: r)
def hdT (l : List T) : T := l.headD tz
def sdT (l : List T) : T := l.tail.headD tz
def loose (k : Nat) (x : T) : Bool := x.k == 7 && decide (bnd x.s < k)
def shT : Nat → T → List UInt8
 | 0, _ => []
 | n + 1, t => if t.k = 0 then printL t.n else if t.k = 1 then quoL t.s else if t.k = 2 then (if t.n = 1 then wTrue else wFalse) else if t.k = 3 then errL t.e else if t.k = 4 then rfL t.r else if t.k = 5 then rfL t.r ++ 58 :: rfL t.q else
   if t.k = 6 then 45 :: brkL (loose 5 (hdT t.l)) (shT n (hdT t.l)) else
   if t.k = 7 then brkL (loose (bnd t.s) (hdT t.l)) (shT n (hdT t.l)) ++ t.s ++ brkL (loose (bnd t.s + 1) (sdT t.l)) (shT n (sdT t.l)) else
   t.s ++ 40 :: (joinL (t.l.map (shT n)) ++ [41])
def szT : Nat → T → Nat
 | 0, _ => 1
 | n + 1, t => 1 + (t.l.map (szT n)).sum
theorem quoB_len (s : List UInt8) : (quoB s).length ≤ 2 * s.length := by
 induction s with
 | nil => simp [quoB]
 | cons c r ih => unfold quoB; split <;> simp <;> omega
theorem sg_len (b : Bool) : (signL b).length ≤ 1 := by cases b <;> decide
theorem rfL_len (r : Rf) : (rfL r).length ≤ 8 := by
 unfold rfL printR
 split
 · rename_i h
   obtain ⟨h1, h2, _, _⟩ := in_bd h
   have a := row_sz r.1 h1 h2
   rw [← size_list] at a
   have b := name_len r.2.1
   have c := sg_len r.2.2.1
   have d := sg_len r.2.2.2
   have e : (⟨(Lib.itoa r.1).toArray⟩ : ByteArray).data.toList.length = (Lib.itoa r.1).length := rfl
   simp only [List.length_append]
   omega
 · simp
theorem errL_len (e : Int) : (errL e).length ≤ 7 := by unfold errL; repeat (first | (split; · simp) | simp)
theorem brkL_len (b : Bool) (l : List UInt8) : (brkL b l).length ≤ l.length + 2 := by cases b <;> simp [brkL]
theorem joinL_len (ls : List (List UInt8)) : (joinL ls).length ≤ (ls.map (fun l => l.length + 1)).sum := by
 match ls with
 | [] => simp [joinL]
 | [a] => simp [joinL]
 | a :: b :: r =>
   have ih := joinL_len (b :: r)
   unfold joinL
   simp only [List.length_append, List.length_cons, List.map_cons, List.sum_cons] at ih ⊢
   omega
theorem szT_pos (n : Nat) (t : T) : 1 ≤ szT n t := by cases n <;> simp [szT]
theorem sz_mem {n : Nat} {l : List T} {x : T} (h : x ∈ l) : szT n x ≤ (l.map (szT n)).sum := by
 induction l with
 | nil => cases h
 | cons a r ih =>
   simp only [List.map_cons, List.sum_cons]
   rcases List.mem_cons.1 h with rfl | h
   · omega
   · have := ih h; omega
theorem kno_len {s : List UInt8} (h : (kno s).isSome = true) : s.length ≤ 8 := by
 unfold kno at h
 split at h
 · rename_i hs; simp [kn1] at hs; rcases hs with rfl | rfl | rfl | rfl | rfl | rfl | rfl | rfl <;> simp
 · split at h
   · rename_i hs; simp [kn2] at hs; rcases hs with rfl | rfl <;> simp
   · split at h
     · rename_i hs; simp [kn3] at hs; rcases hs with rfl | rfl | rfl <;> simp
     · split at h
       · rename_i hs; simp [kn4] at hs; subst hs; simp
       · split at h
         · rename_i hs; simp [kn5] at hs; rcases hs with rfl | rfl | rfl | rfl | rfl | rfl <;> simp
         · cases h
theorem bnd_len {s : List UInt8} (h : bnd s ≠ 0) : s.length ≤ 2 := by
 unfold bnd at h
 split at h
 · rename_i hs; simp [bd1] at hs; rcases hs with rfl | rfl | rfl | rfl | rfl | rfl <;> simp
 · split at h
   · rename_i hs; subst hs; simp
   · split at h
     · rename_i hs; rcases hs with rfl | rfl <;> simp
     · split at h
       · rename_i hs; rcases hs with rfl | rfl <;> simp
       · exact absurd rfl h
theorem body_len (n : Nat) (h : n ≤ 9223372036854775807) : (bodyL n).length ≤ 20 := by
 obtain ⟨k, hk, hl⟩ := frac_back (n % 10000) (Nat.mod_lt _ (by decide))
 have hd := dec_len (n / 10000) 14 (by omega)
 unfold bodyL; rw [List.length_append]
 split
 · simp; omega
 · simp; omega
theorem printL_len (a : Int) (h : I64 a) : (printL a).length ≤ 21 := by
 obtain ⟨h1, h2⟩ := h
 unfold printL
 split
 · rename_i hc
   have hb : a.natAbs ≤ 9223372036854775807 := by unfold canB at hc; simp at hc; omega
   have := body_len a.natAbs hb
   split <;> simp <;> omega
 · simp
theorem psum_le {α : Type} {l : List α} {f g : α → Nat} (h : ∀ x ∈ l, f x ≤ g x) : (l.map f).sum ≤ (l.map g).sum := by
 induction l with
 | nil => simp
 | cons a r ih =>
   simp only [List.map_cons, List.sum_cons]
   have := h a (List.mem_cons_self ..)
   have := ih (fun x hx => h x (List.mem_cons_of_mem _ hx))
   omega
theorem sum_mul {α : Type} (l : List α) (f : α → Nat) (c : Nat) : (l.map (fun x => c * f x)).sum = c * (l.map f).sum := by
 induction l with
 | nil => simp
 | cons a r ih => simp only [List.map_cons, List.sum_cons, ih, Nat.mul_add]
theorem sh_len (n : Nat) : ∀ t : T, Wf t → (wellT n t = true ∨ t.k = 5) → (shT n t).length + 1 ≤ 701 * szT n t := by
 induction n with
 | zero => intro t _ _; simp [shT, szT]
 | succ n ih =>
   intro t hw h
   have hz : 701 ≤ 701 * szT (n + 1) t := Nat.le_mul_of_pos_right _ (szT_pos _ _)
   obtain ⟨_, w1, w2, w3, w4, w5, w6, w7, w8, w9⟩ := hw
   unfold shT
   by_cases k0 : t.k = 0
   · rw [if_pos k0]; have := printL_len t.n w2; omega
   by_cases k1 : t.k = 1
   · rw [if_neg k0, if_pos k1]
     have hs : t.s.length ≤ 300 := by
       rcases h with h | h
       · unfold wellT at h; simpa [k1] using h
       · omega
     have := quoB_len t.s
     unfold quoL; simp; omega
   by_cases k2 : t.k = 2
   · rw [if_neg k0, if_neg k1, if_pos k2]; split <;> simp [wTrue, wFalse] <;> omega
   by_cases k3 : t.k = 3
   · rw [if_neg k0, if_neg k1, if_neg k2, if_pos k3]; have := errL_len t.e; omega
   by_cases k4 : t.k = 4
   · rw [if_neg k0, if_neg k1, if_neg k2, if_neg k3, if_pos k4]; have := rfL_len t.r; omega
   by_cases k5 : t.k = 5
   · rw [if_neg k0, if_neg k1, if_neg k2, if_neg k3, if_neg k4, if_pos k5]; have := rfL_len t.r; have := rfL_len t.q; simp; omega
   have h := h.resolve_right k5
   unfold wellT at h
   have one : ∀ x ∈ t.l, wellT n x = true → (shT n x).length + 1 ≤ 701 * szT n x := fun x hx hx1 => ih x (w9 x hx) (.inl hx1)
   by_cases k6 : t.k = 6
   · rw [if_neg k0, if_neg k1, if_neg k2, if_neg k3, if_neg k4, if_neg k5, if_pos k6]
     simp only [k6] at h
     simp at h
     obtain ⟨h1, h2⟩ := h
     match hl : t.l, h1 with
     | [x], _ =>
       have := one x (by rw [hl]; simp) (h2 x (by rw [hl]; simp))
       have hb := brkL_len (loose 5 x) (shT n x)
       have e : szT (n + 1) t = 1 + szT n x := by rw [szT, hl]; simp
       rw [e]
       simp [hdT]
       omega
   by_cases k7 : t.k = 7
   · rw [if_neg k0, if_neg k1, if_neg k2, if_neg k3, if_neg k4, if_neg k5, if_neg k6, if_pos k7]
     simp only [k7] at h
     simp at h
     obtain ⟨⟨h0, h1⟩, h2⟩ := h
     match hl : t.l, h1 with
     | [x, y], _ =>
       have a1 := one x (by rw [hl]; simp) (h2 x (by rw [hl]; simp))
       have a2 := one y (by rw [hl]; simp) (h2 y (by rw [hl]; simp))
       have b1 := brkL_len (loose (bnd t.s) x) (shT n x)
       have b2 := brkL_len (loose (bnd t.s + 1) y) (shT n y)
       have e : szT (n + 1) t = 1 + (szT n x + szT n y) := by rw [szT, hl]; simp
       have hs := bnd_len h0
       rw [e]
       simp [hdT, sdT]
       omega
   · rw [if_neg k0, if_neg k1, if_neg k2, if_neg k3, if_neg k4, if_neg k5, if_neg k6, if_neg k7]
     by_cases k8 : t.k = 8
     · simp only [k8] at h
       simp at h
       obtain ⟨⟨⟨h1, _⟩, _⟩, h2⟩ := h
       have hs := kno_len h1
       have hj := joinL_len (t.l.map (shT n))
       have hm : ((t.l.map (shT n)).map (fun l => l.length + 1)).sum ≤ (t.l.map (fun x => 701 * szT n x)).sum := by
         rw [List.map_map]
         refine psum_le fun x hx => ?_
         refine ih x (w9 x hx) ?_
         have := h2 x hx
         by_cases k : x.k = 5
         · exact .inr k
         · exact .inl (by simpa [k] using this)
       rw [sum_mul] at hm
       have e : szT (n + 1) t = 1 + (t.l.map (szT n)).sum := by rw [szT]
       rw [e]
       simp
       omega
     · simp [k0, k1, k2, k3, k4, k6, k7, k8] at h
open Go.RowKit
set_option maxHeartbeats 6000000
def SmQ (n : Nat) (t : T) (most : Int) (W : World) (e : Ending) (w' : World) : Prop :=
 ∃ (m : Int) (ok : Bool), e = .returned (.tuple #[.int .i64 m, .bool ok]) ∧ Ext W w' ∧ 1 ≤ m ∧ m ≤ 2000 + n ∧ m ≤ max most 1 + n ∧ (ok = true → m = szT n t ∧ Hr n t ∧ m ≤ max most 1)
def Sml (n : Nat) (t : T) : Prop := ∀ (W : World) (P : Nat → Prop) (pp : Option Addr) (ln cl : Nat) (most : Int), (n : Int) - 402 ≤ most → most ≤ 2000 → IsL W P (.slice pp ln cl) t.l →
 Calls Try.prog 4 #[.agg #[.int .i64 t.k, .int .i64 t.n, .string (bs t.s), .int .i64 t.e, .int .i64 t.r.1, .int .i64 t.r.2.1, .bool t.r.2.2.1, .bool t.r.2.2.2, .int .i64 t.q.1, .int .i64 t.q.2.1, .bool t.q.2.2.1, .bool t.q.2.2.2, .slice pp ln cl], .int .i64 most, .int .i64 (401 - (n : Int))] W (SmQ n t most W)
theorem tsum_take {l : List T} {n j : Nat} {x : T} (h : l[j]? = some x) : ((l.take (j + 1)).map (szT n)).sum = ((l.take j).map (szT n)).sum + szT n x := by
 rw [List.take_add_one, h]; simp
set_option maxRecDepth 100000 in
theorem small_deep (t : T) : Sml 0 t := by
 intro W P pp ln cl most _ _ _
 have hd : (401 : Int) - ((0 : Nat) : Int) = 401 := rfl
 rw [hd]
 clear hd
 go_enter Try.func4, Try.ntmps4
 go_wp2_with fail
 go_ret2
 exact ⟨1, false, rfl, (Ext.refl _).alloc _, by omega, by omega, by omega, fun h => by cases h⟩
set_option maxRecDepth 100000 in
theorem small_step (n : Nat) (hn : n ≤ 400) (ih : ∀ x, Sml n x) (t : T) : Sml (n + 1) t := by
 intro W P pp ln cl most hm1 hm2 hL
 have hln : ln = t.l.length := by
   obtain ⟨p, c, h1, _⟩ := hL.form
   cases h1; rfl
 obtain ⟨d, hd⟩ : ∃ d : Int, 401 - ((n + 1 : Nat) : Int) = d := ⟨_, rfl⟩
 have HD : Hid (401 - (n : Int) = d + 1) := by show _ = _; omega
 have hd0 : 0 ≤ d := by omega
 have hd1 : d ≤ 400 := by omega
 rw [hd]
 have HI : Hid (IsL W P (.slice pp ln cl) t.l) := hL
 have HLN : Hid (ln = t.l.length) := hln
 have HN : Hid (n ≤ 400 ∧ ((n + 1 : Nat) : Int) - 402 ≤ most ∧ most ≤ 2000) := ⟨hn, hm1, hm2⟩
 have HIH : Hid (∀ x, Sml n x) := ih
 have hmA : -1000 ≤ most := by omega
 clear hL hln hd ih hn hm1
 go_enter Try.func4, Try.ntmps4
 go_wp2_with fail
 go_loopw [8, 9] (fun nv iv wr => ∃ (j : Nat) (a : Int), j ≤ ln ∧ nv = .int .i64 a ∧ iv = .int .i64 (j : Int) ∧ (j : Int) + 1 ≤ a ∧ a ≤ max most 1 ∧ a = 1 + (((t.l.take j).map (szT n)).sum : Nat) ∧ (∀ x ∈ t.l.take j, Hr n x) ∧ BlkX wr W.heap.size t (.slice pp ln cl) ∧ Ext W wr) (fun _ iv _ => ln - (intOf iv).toNat)
 case atStart => exact ⟨0, 1, Nat.zero_le _, rfl, rfl, by omega, by omega, by simp, fun x hx => by simp at hx, blk13_top rfl (Ext.refl _), (Ext.refl _).alloc _⟩
 case round =>
   obtain ⟨j, a, hj, rfl, rfl, ha1, ha2, ha3, hg, hB, hE⟩ := hrel
   have HE : Hid (Ext W wr ∧ (∀ x ∈ t.l.take j, Hr n x) ∧ a = 1 + (((t.l.take j).map (szT n)).sum : Nat)) := ⟨hE, hg, ha3⟩
   have HBX : Hid (BlkX wr W.heap.size t (.slice pp ln cl)) := hB
   have HA2 : Hid (a ≤ max most 1) := ha2
   have ha4 : a ≤ 2000 := by omega
   obtain ⟨qz, ⟨k0, k1, k2, k3, k4, k5, k6, k7, k8, k9, k10, k11, k12⟩, gz⟩ := hB
   clear hE hg ha3 ha2 gz
   by_cases hlt : j < ln
   · have hltI : (j : Int) < (ln : Int) := by omega
     have hI := HI.out.ext HE.out.1
     obtain ⟨gb, off, x, lv, hpp, hx1, hA1, hgb, hA2, hLx, hce⟩ := hI.at (i := j) (by rw [← HLN.out]; exact hlt)
     clear hA1 hA2
     subst hpp
     obtain ⟨pp, cl', hlv, hcl⟩ := hLx.form
     obtain ⟨ln', hln'⟩ : ∃ ln', x.l.length = ln' := ⟨_, rfl⟩
     rw [hln'] at hlv
     subst hlv
     have HX1 : Hid (t.l[j]? = some x) := hx1
     have HC : Hid (Calls Try.prog 4 #[.agg #[.int .i64 x.k, .int .i64 x.n, .string (bs x.s), .int .i64 x.e, .int .i64 x.r.1, .int .i64 x.r.2.1, .bool x.r.2.2.1, .bool x.r.2.2.2, .int .i64 x.q.1, .int .i64 x.q.2.1, .bool x.q.2.2.1, .bool x.q.2.2.2, .slice pp ln' cl'], .int .i64 (most - a), .int .i64 (d + 1)] wr (SmQ n x (most - a) wr)) := by
       have := HIH.out x wr P pp ln' cl' (most - a) (by have := HN.out; have := HA2.out; omega) (by omega) hLx
       rw [HD.out] at this
       exact this
     have e0 : wr.cell? ⟨gb, off + j * 13, none⟩ = some (.int .i64 x.k) := hce 0 _ rfl
     have e1 : wr.cell? ⟨gb, off + j * 13 + 1, none⟩ = some (.int .i64 x.n) := hce 1 _ rfl
     have e2 : wr.cell? ⟨gb, off + j * 13 + 2, none⟩ = some (.string (bs x.s)) := hce 2 _ rfl
     have e3 : wr.cell? ⟨gb, off + j * 13 + 3, none⟩ = some (.int .i64 x.e) := hce 3 _ rfl
     have e4 : wr.cell? ⟨gb, off + j * 13 + 4, none⟩ = some (.int .i64 x.r.1) := hce 4 _ rfl
     have e5 : wr.cell? ⟨gb, off + j * 13 + 5, none⟩ = some (.int .i64 x.r.2.1) := hce 5 _ rfl
     have e6 : wr.cell? ⟨gb, off + j * 13 + 6, none⟩ = some (.bool x.r.2.2.1) := hce 6 _ rfl
     have e7 : wr.cell? ⟨gb, off + j * 13 + 7, none⟩ = some (.bool x.r.2.2.2) := hce 7 _ rfl
     have e8 : wr.cell? ⟨gb, off + j * 13 + 8, none⟩ = some (.int .i64 x.q.1) := hce 8 _ rfl
     have e9 : wr.cell? ⟨gb, off + j * 13 + 9, none⟩ = some (.int .i64 x.q.2.1) := hce 9 _ rfl
     have e10 : wr.cell? ⟨gb, off + j * 13 + 10, none⟩ = some (.bool x.q.2.2.1) := hce 10 _ rfl
     have e11 : wr.cell? ⟨gb, off + j * 13 + 11, none⟩ = some (.bool x.q.2.2.2) := hce 11 _ rfl
     have e12 : wr.cell? ⟨gb, off + j * 13 + 12, none⟩ = some (.slice pp ln' cl') := hce 12 _ rfl
     clear hI hx1 hLx hce hcl hln'
     go_wp2_with fail
     refine HC.out.mono ?_
     rintro e w1 ⟨m, ok, rfl, E1, hm1, hm2', hm3, hok⟩
     have HR : Hid (Ext W w1 ∧ m ≤ max (most - a) 1 + n ∧ (ok = true → m = szT n x ∧ Hr n x ∧ m ≤ max (most - a) 1)) := ⟨HE.out.1.trans E1, hm3, hok⟩
     have HBX1 : Hid (BlkX w1 W.heap.size t (.slice (some ⟨gb, off, none⟩) ln cl)) := HBX.out.ext E1
     have hmm : m ≤ 3000 := by have := HN.out; omega
     clear hm3 hok hm2' E1 k0 k1 k2 k3 k4 k5 k6 k7 k8 k9 k10 k11 k12 e0 e1 e2 e3 e4 e5 e6 e7 e8 e9 e10 e11 e12
     cases ok
     · go_wp2_with fail
       go_ret2
       have q1 := HR.out.2.1
       have q2 := HA2.out
       have q3 := HN.out
       exact ⟨a + m, false, rfl, HR.out.1, by omega, by omega, by omega, fun h => by cases h⟩
     · by_cases hgt : most < a + m
       · go_wp2_with fail
         go_ret2
         have q1 := HR.out.2.1
         have q2 := HA2.out
         have q3 := HN.out
         exact ⟨a + m, false, rfl, HR.out.1, by omega, by omega, by omega, fun h => by cases h⟩
       · go_wp2_with fail
         go_roundw
         case rel =>
           obtain ⟨y1, y2, y3⟩ := HR.out.2.2 trivial
           refine ⟨j + 1, a + m, by omega, rfl, by go_num, by omega, by omega, ?_, ?_, HBX1.out, HR.out.1⟩
           · rw [tsum_take HX1.out, y1, HE.out.2.2]; omega
           · intro z hz
             rw [List.take_add_one, HX1.out] at hz
             rcases List.mem_append.1 hz with hz | hz
             · exact HE.out.2.1 z hz
             · simp at hz; subst hz; exact y2
         case measure => show ln - ((j : Int) + 1).toNat < ln - ((j : Int)).toNat; omega
   · have hltI : ¬ (j : Int) < (ln : Int) := by omega
     have hjl : j = ln := by omega
     have HT : Hid (t.l.take j = t.l) := by show _ = _; rw [hjl, HLN.out]; exact List.take_length
     clear hlt hjl
     go_wp2_with fail
     go_ret2
     have q1 := HE.out.2.2
     have q2 := HE.out.2.1
     rw [HT.out] at q1 q2
     have q3 := HA2.out
     refine ⟨a, true, rfl, HE.out.1, by omega, by omega, by omega, fun _ => ⟨?_, ⟨?_, q2⟩, q3⟩⟩
     · rw [q1, szT]; omega
     · have h1 : ∀ l : List T, l.length ≤ (l.map (szT n)).sum := by
         intro l
         induction l with
         | nil => simp
         | cons y r ih => simp only [List.map_cons, List.sum_cons, List.length_cons]; have := szT_pos n y; omega
       have := h1 t.l
       omega
theorem small_any (n : Nat) (hn : n ≤ 401) (t : T) : Sml n t := by
 induction n generalizing t with
 | zero => exact small_deep t
 | succ n ih => exact small_step n (by omega) (fun x => ih (by omega) x) t
open Go.RowKit
set_option maxHeartbeats 1000000
def Blk2 (W : World) (b : Nat) (x0 x1 : Value) : Prop := b < W.heap.size ∧
 (W.cell? ⟨b, 0, none⟩ = some x0 ∧ W.cell? ⟨b, 1, none⟩ = some x1) ∧
 (W.frozen? ⟨b, 0, none⟩ = false ∧ W.frozen? ⟨b, 1, none⟩ = false)
theorem blk2_top {w w1 : World} {x0 x1 : Value} {T : TypeId} {b : Nat} (hb : b = w.heap.size) (E : Ext (w.alloc (.cells #[x0, x1] T)) w1) : Blk2 w1 b x0 x1 := by
 subst hb
 have hs : w.heap.size < (w.alloc (.cells #[x0, x1] T)).heap.size := by simp
 have k := fun o => E.cell.1 w.heap.size o hs
 have f := fun o => E.cell.2 w.heap.size o hs
 refine ⟨Nat.lt_of_lt_of_le hs E.sz, ⟨(k 0).trans ?_, (k 1).trans ?_⟩, (f 0).trans ?_, (f 1).trans ?_⟩
 all_goals simp [go_sem]
theorem Blk2.ext {w w' : World} {b : Nat} {x0 x1 : Value} (h : Blk2 w b x0 x1) (e : Ext w w') : Blk2 w' b x0 x1 := by
 obtain ⟨z, ⟨k0, k1⟩, f0, f1⟩ := h
 have k := fun o => e.cell.1 b o z
 have f := fun o => e.cell.2 b o z
 exact ⟨Nat.lt_of_lt_of_le z e.sz, ⟨(k 0).trans k0, (k 1).trans k1⟩, (f 0).trans f0, (f 1).trans f1⟩
theorem Blk2.far1 {w : World} {b c : Nat} {x0 x1 : Value} (h : Blk2 w b x0 x1) (hc : c ≠ b) (o : Nat) (v : Value) : Blk2 (w.setCell ⟨c, o, none⟩ v) b x0 x1 := by
 obtain ⟨z, ⟨k0, k1⟩, f0, f1⟩ := h
 refine ⟨by simpa [World.setCell] using z, ⟨?_, ?_⟩, ?_, ?_⟩
 · rw [World.cell?_setCell_far _ _ _ _ hc]; exact k0
 · rw [World.cell?_setCell_far _ _ _ _ hc]; exact k1
 · rw [World.frozen?_setCell]; exact f0
 · rw [World.frozen?_setCell]; exact f1
theorem Blk2.far {w : World} {b c : Nat} {x0 x1 : Value} (h : Blk2 w b x0 x1) (hc : c ≠ b) (y0 y1 : Value) :
   Blk2 ((w.setCell ⟨c, 0, none⟩ y0).setCell ⟨c, 1, none⟩ y1) b x0 x1 := ((h.far1 hc _ _).far1 hc _ _)
theorem Blk2.put0 {w : World} {b : Nat} {x0 x1 : Value} (h : Blk2 w b x0 x1) (v : Value) : Blk2 (w.setCell ⟨b, 0, none⟩ v) b v x1 := by
 obtain ⟨z, ⟨k0, k1⟩, f0, f1⟩ := h
 have e := World.cell?_setCell_same w ⟨b, 0, none⟩ v (by rw [k0])
 refine ⟨by simpa [World.setCell] using z, ⟨e, ?_⟩, ?_, ?_⟩
 · rw [World.cell?_setCell_other _ _ _ _ (by simp)]; exact k1
 · rw [World.frozen?_setCell]; exact f0
 · rw [World.frozen?_setCell]; exact f1
theorem Blk2.put1 {w : World} {b : Nat} {x0 x1 : Value} (h : Blk2 w b x0 x1) (v : Value) : Blk2 (w.setCell ⟨b, 1, none⟩ v) b x0 v := by
 obtain ⟨z, ⟨k0, k1⟩, f0, f1⟩ := h
 have e := World.cell?_setCell_same w ⟨b, 1, none⟩ v (by rw [k1])
 refine ⟨by simpa [World.setCell] using z, ⟨?_, e⟩, ?_, ?_⟩
 · rw [World.cell?_setCell_other _ _ _ _ (by simp)]; exact k0
 · rw [World.frozen?_setCell]; exact f0
 · rw [World.frozen?_setCell]; exact f1
theorem Blk2.set {w : World} {b : Nat} {o0 o1 : Value} (h : Blk2 w b o0 o1) (x0 x1 : Value) :
   Blk2 ((w.setCell ⟨b, 0, none⟩ x0).setCell ⟨b, 1, none⟩ x1) b x0 x1 := ((h.put0 _).put1 _)
theorem Blk2.dr {w : World} {b : Nat} {x0 x1 : Value} (h : Blk2 w b x0 x1) : Blk2 w.drew b x0 x1 := h.ext (Ext.drew (Ext.refl _))
theorem Blk2.al {w : World} {b : Nat} {x0 x1 : Value} (o : Obj) (h : Blk2 w b x0 x1) : Blk2 (w.alloc o) b x0 x1 := h.ext (Ext.alloc (Ext.refl _) _)
theorem fin2 (v : Value) {fn : Func} {Q : Ending → World → Prop} {a : Act} {w W : World} {b : Nat} {x0 x1 : Value}
   (B : Blk2 W b x0 x1) (hd : a.defers = []) (E : Ext w W)
   (hr : W.cell? ⟨b, 0, none⟩ = some x0 → W.cell? ⟨b, 1, none⟩ = some x1 → (results fn a.tmps).run Try.prog W = .ok v W)
   (hQ : Ext w W → Q (.returned v) W) : bodyPost Try.prog fn Q .ret a W :=
 bodyPost_ret (hr B.2.1.1 B.2.1.2) hd (hQ E)
open Go.RowKit
set_option maxHeartbeats 1000000
open Go.RowKit
set_option maxHeartbeats 1000000
theorem rknown_any (s : ByteArray) (w : World) :
   Calls Try.prog 73 #[.string s] w fun e w' => e = .returned (.tuple #[.int .i64 (knA s.data.toList), .int .i64 (knB s.data.toList), .bool (kno s.data.toList).isSome]) ∧ w' = w := by
 have hs := ByteArray.toList_eq s
 obtain ⟨l, hl⟩ : ∃ l, s.data.toList = l := ⟨_, rfl⟩
 rw [hl] at hs ⊢
 clear hl
 by_cases h0 : l = [83, 85, 77]
 · subst h0
   have e0 : (s.toList == [83, 85, 77]) = true := by rw [hs]; decide
   clear hs 
   go_enter Try.func73, Try.ntmps73
   go_wp2_with fail
   go_ret3
   exact ⟨rfl, rfl⟩
 have e0 : (s.toList == [83, 85, 77]) = false := by rw [hs]; simpa using h0
 by_cases h1 : l = [67, 79, 85, 78, 84]
 · subst h1
   have e1 : (s.toList == [67, 79, 85, 78, 84]) = true := by rw [hs]; decide
   clear hs h0
   go_enter Try.func73, Try.ntmps73
   go_wp2_with fail
   go_ret3
   exact ⟨rfl, rfl⟩
 have e1 : (s.toList == [67, 79, 85, 78, 84]) = false := by rw [hs]; simpa using h1
 by_cases h2 : l = [77, 73, 78]
 · subst h2
   have e2 : (s.toList == [77, 73, 78]) = true := by rw [hs]; decide
   clear hs h0 h1
   go_enter Try.func73, Try.ntmps73
   go_wp2_with fail
   go_ret3
   exact ⟨rfl, rfl⟩
 have e2 : (s.toList == [77, 73, 78]) = false := by rw [hs]; simpa using h2
 by_cases h3 : l = [77, 65, 88]
 · subst h3
   have e3 : (s.toList == [77, 65, 88]) = true := by rw [hs]; decide
   clear hs h0 h1 h2
   go_enter Try.func73, Try.ntmps73
   go_wp2_with fail
   go_ret3
   exact ⟨rfl, rfl⟩
 have e3 : (s.toList == [77, 65, 88]) = false := by rw [hs]; simpa using h3
 by_cases h4 : l = [65, 86, 69, 82, 65, 71, 69]
 · subst h4
   have e4 : (s.toList == [65, 86, 69, 82, 65, 71, 69]) = true := by rw [hs]; decide
   clear hs h0 h1 h2 h3
   go_enter Try.func73, Try.ntmps73
   go_wp2_with fail
   go_ret3
   exact ⟨rfl, rfl⟩
 have e4 : (s.toList == [65, 86, 69, 82, 65, 71, 69]) = false := by rw [hs]; simpa using h4
 by_cases h5 : l = [65, 78, 68]
 · subst h5
   have e5 : (s.toList == [65, 78, 68]) = true := by rw [hs]; decide
   clear hs h0 h1 h2 h3 h4
   go_enter Try.func73, Try.ntmps73
   go_wp2_with fail
   go_ret3
   exact ⟨rfl, rfl⟩
 have e5 : (s.toList == [65, 78, 68]) = false := by rw [hs]; simpa using h5
 by_cases h6 : l = [79, 82]
 · subst h6
   have e6 : (s.toList == [79, 82]) = true := by rw [hs]; decide
   clear hs h0 h1 h2 h3 h4 h5
   go_enter Try.func73, Try.ntmps73
   go_wp2_with fail
   go_ret3
   exact ⟨rfl, rfl⟩
 have e6 : (s.toList == [79, 82]) = false := by rw [hs]; simpa using h6
 by_cases h7 : l = [67, 79, 78, 67, 65, 84]
 · subst h7
   have e7 : (s.toList == [67, 79, 78, 67, 65, 84]) = true := by rw [hs]; decide
   clear hs h0 h1 h2 h3 h4 h5 h6
   go_enter Try.func73, Try.ntmps73
   go_wp2_with fail
   go_ret3
   exact ⟨rfl, rfl⟩
 have e7 : (s.toList == [67, 79, 78, 67, 65, 84]) = false := by rw [hs]; simpa using h7
 by_cases h8 : l = [73, 70]
 · subst h8
   have e8 : (s.toList == [73, 70]) = true := by rw [hs]; decide
   clear hs h0 h1 h2 h3 h4 h5 h6 h7
   go_enter Try.func73, Try.ntmps73
   go_wp2_with fail
   go_ret3
   exact ⟨rfl, rfl⟩
 have e8 : (s.toList == [73, 70]) = false := by rw [hs]; simpa using h8
 by_cases h9 : l = [73, 78, 68, 69, 88]
 · subst h9
   have e9 : (s.toList == [73, 78, 68, 69, 88]) = true := by rw [hs]; decide
   clear hs h0 h1 h2 h3 h4 h5 h6 h7 h8
   go_enter Try.func73, Try.ntmps73
   go_wp2_with fail
   go_ret3
   exact ⟨rfl, rfl⟩
 have e9 : (s.toList == [73, 78, 68, 69, 88]) = false := by rw [hs]; simpa using h9
 by_cases h10 : l = [82, 79, 85, 78, 68]
 · subst h10
   have e10 : (s.toList == [82, 79, 85, 78, 68]) = true := by rw [hs]; decide
   clear hs h0 h1 h2 h3 h4 h5 h6 h7 h8 h9
   go_enter Try.func73, Try.ntmps73
   go_wp2_with fail
   go_ret3
   exact ⟨rfl, rfl⟩
 have e10 : (s.toList == [82, 79, 85, 78, 68]) = false := by rw [hs]; simpa using h10
 by_cases h11 : l = [77, 79, 68]
 · subst h11
   have e11 : (s.toList == [77, 79, 68]) = true := by rw [hs]; decide
   clear hs h0 h1 h2 h3 h4 h5 h6 h7 h8 h9 h10
   go_enter Try.func73, Try.ntmps73
   go_wp2_with fail
   go_ret3
   exact ⟨rfl, rfl⟩
 have e11 : (s.toList == [77, 79, 68]) = false := by rw [hs]; simpa using h11
 by_cases h12 : l = [73, 70, 69, 82, 82, 79, 82]
 · subst h12
   have e12 : (s.toList == [73, 70, 69, 82, 82, 79, 82]) = true := by rw [hs]; decide
   clear hs h0 h1 h2 h3 h4 h5 h6 h7 h8 h9 h10 h11
   go_enter Try.func73, Try.ntmps73
   go_wp2_with fail
   go_ret3
   exact ⟨rfl, rfl⟩
 have e12 : (s.toList == [73, 70, 69, 82, 82, 79, 82]) = false := by rw [hs]; simpa using h12
 by_cases h13 : l = [76, 69, 70, 84]
 · subst h13
   have e13 : (s.toList == [76, 69, 70, 84]) = true := by rw [hs]; decide
   clear hs h0 h1 h2 h3 h4 h5 h6 h7 h8 h9 h10 h11 h12
   go_enter Try.func73, Try.ntmps73
   go_wp2_with fail
   go_ret3
   exact ⟨rfl, rfl⟩
 have e13 : (s.toList == [76, 69, 70, 84]) = false := by rw [hs]; simpa using h13
 by_cases h14 : l = [78, 79, 84]
 · subst h14
   have e14 : (s.toList == [78, 79, 84]) = true := by rw [hs]; decide
   clear hs h0 h1 h2 h3 h4 h5 h6 h7 h8 h9 h10 h11 h12 h13
   go_enter Try.func73, Try.ntmps73
   go_wp2_with fail
   go_ret3
   exact ⟨rfl, rfl⟩
 have e14 : (s.toList == [78, 79, 84]) = false := by rw [hs]; simpa using h14
 by_cases h15 : l = [65, 66, 83]
 · subst h15
   have e15 : (s.toList == [65, 66, 83]) = true := by rw [hs]; decide
   clear hs h0 h1 h2 h3 h4 h5 h6 h7 h8 h9 h10 h11 h12 h13 h14
   go_enter Try.func73, Try.ntmps73
   go_wp2_with fail
   go_ret3
   exact ⟨rfl, rfl⟩
 have e15 : (s.toList == [65, 66, 83]) = false := by rw [hs]; simpa using h15
 by_cases h16 : l = [70, 76, 79, 79, 82]
 · subst h16
   have e16 : (s.toList == [70, 76, 79, 79, 82]) = true := by rw [hs]; decide
   clear hs h0 h1 h2 h3 h4 h5 h6 h7 h8 h9 h10 h11 h12 h13 h14 h15
   go_enter Try.func73, Try.ntmps73
   go_wp2_with fail
   go_ret3
   exact ⟨rfl, rfl⟩
 have e16 : (s.toList == [70, 76, 79, 79, 82]) = false := by rw [hs]; simpa using h16
 by_cases h17 : l = [83, 81, 82, 84]
 · subst h17
   have e17 : (s.toList == [83, 81, 82, 84]) = true := by rw [hs]; decide
   clear hs h0 h1 h2 h3 h4 h5 h6 h7 h8 h9 h10 h11 h12 h13 h14 h15 h16
   go_enter Try.func73, Try.ntmps73
   go_wp2_with fail
   go_ret3
   exact ⟨rfl, rfl⟩
 have e17 : (s.toList == [83, 81, 82, 84]) = false := by rw [hs]; simpa using h17
 by_cases h18 : l = [76, 69, 78]
 · subst h18
   have e18 : (s.toList == [76, 69, 78]) = true := by rw [hs]; decide
   clear hs h0 h1 h2 h3 h4 h5 h6 h7 h8 h9 h10 h11 h12 h13 h14 h15 h16 h17
   go_enter Try.func73, Try.ntmps73
   go_wp2_with fail
   go_ret3
   exact ⟨rfl, rfl⟩
 have e18 : (s.toList == [76, 69, 78]) = false := by rw [hs]; simpa using h18
 by_cases h19 : l = [73, 83, 69, 82, 82, 79, 82]
 · subst h19
   have e19 : (s.toList == [73, 83, 69, 82, 82, 79, 82]) = true := by rw [hs]; decide
   clear hs h0 h1 h2 h3 h4 h5 h6 h7 h8 h9 h10 h11 h12 h13 h14 h15 h16 h17 h18
   go_enter Try.func73, Try.ntmps73
   go_wp2_with fail
   go_ret3
   exact ⟨rfl, rfl⟩
 have e19 : (s.toList == [73, 83, 69, 82, 82, 79, 82]) = false := by rw [hs]; simpa using h19
 have HK : Hid (kno l = none) := by show _ = _; simp [kno, kn1, kn2, kn3, kn4, kn5, h0, h1, h2, h3, h4, h5, h6, h7, h8, h9, h10, h11, h12, h13, h14, h15, h16, h17, h18, h19]
 clear hs h0 h1 h2 h3 h4 h5 h6 h7 h8 h9 h10 h11 h12 h13 h14 h15 h16 h17 h18 h19
 go_enter Try.func73, Try.ntmps73
 go_wp2_with fail
 go_ret3
 unfold knA knB
 rw [HK.out]
 exact ⟨rfl, rfl⟩
open Go.RowKit
set_option maxHeartbeats 1000000
theorem rpow8_any (s : ByteArray) (w : World) :
   Calls Try.prog 34 #[.string s] w fun e w' => e = .returned (.int .i64 ((bnd s.data.toList : Nat) : Int)) ∧ w' = w := by
 have hs := ByteArray.toList_eq s
 obtain ⟨l, hl⟩ : ∃ l, s.data.toList = l := ⟨_, rfl⟩
 rw [hl] at hs ⊢
 clear hl
 by_cases h0 : l = [61]
 · subst h0
   have e0 : (s.toList == [61]) = true := by rw [hs]; decide
   clear hs 
   go_enter Try.func34, Try.ntmps34
   go_wp2_with fail
   go_ret
   exact ⟨rfl, rfl⟩
 have e0 : (s.toList == [61]) = false := by rw [hs]; simpa using h0
 by_cases h1 : l = [60, 62]
 · subst h1
   have e1 : (s.toList == [60, 62]) = true := by rw [hs]; decide
   clear hs h0
   go_enter Try.func34, Try.ntmps34
   go_wp2_with fail
   go_ret
   exact ⟨rfl, rfl⟩
 have e1 : (s.toList == [60, 62]) = false := by rw [hs]; simpa using h1
 by_cases h2 : l = [60]
 · subst h2
   have e2 : (s.toList == [60]) = true := by rw [hs]; decide
   clear hs h0 h1
   go_enter Try.func34, Try.ntmps34
   go_wp2_with fail
   go_ret
   exact ⟨rfl, rfl⟩
 have e2 : (s.toList == [60]) = false := by rw [hs]; simpa using h2
 by_cases h3 : l = [60, 61]
 · subst h3
   have e3 : (s.toList == [60, 61]) = true := by rw [hs]; decide
   clear hs h0 h1 h2
   go_enter Try.func34, Try.ntmps34
   go_wp2_with fail
   go_ret
   exact ⟨rfl, rfl⟩
 have e3 : (s.toList == [60, 61]) = false := by rw [hs]; simpa using h3
 by_cases h4 : l = [62]
 · subst h4
   have e4 : (s.toList == [62]) = true := by rw [hs]; decide
   clear hs h0 h1 h2 h3
   go_enter Try.func34, Try.ntmps34
   go_wp2_with fail
   go_ret
   exact ⟨rfl, rfl⟩
 have e4 : (s.toList == [62]) = false := by rw [hs]; simpa using h4
 by_cases h5 : l = [62, 61]
 · subst h5
   have e5 : (s.toList == [62, 61]) = true := by rw [hs]; decide
   clear hs h0 h1 h2 h3 h4
   go_enter Try.func34, Try.ntmps34
   go_wp2_with fail
   go_ret
   exact ⟨rfl, rfl⟩
 have e5 : (s.toList == [62, 61]) = false := by rw [hs]; simpa using h5
 by_cases h6 : l = [38]
 · subst h6
   have e6 : (s.toList == [38]) = true := by rw [hs]; decide
   clear hs h0 h1 h2 h3 h4 h5
   go_enter Try.func34, Try.ntmps34
   go_wp2_with fail
   go_ret
   exact ⟨rfl, rfl⟩
 have e6 : (s.toList == [38]) = false := by rw [hs]; simpa using h6
 by_cases h7 : l = [43]
 · subst h7
   have e7 : (s.toList == [43]) = true := by rw [hs]; decide
   clear hs h0 h1 h2 h3 h4 h5 h6
   go_enter Try.func34, Try.ntmps34
   go_wp2_with fail
   go_ret
   exact ⟨rfl, rfl⟩
 have e7 : (s.toList == [43]) = false := by rw [hs]; simpa using h7
 by_cases h8 : l = [45]
 · subst h8
   have e8 : (s.toList == [45]) = true := by rw [hs]; decide
   clear hs h0 h1 h2 h3 h4 h5 h6 h7
   go_enter Try.func34, Try.ntmps34
   go_wp2_with fail
   go_ret
   exact ⟨rfl, rfl⟩
 have e8 : (s.toList == [45]) = false := by rw [hs]; simpa using h8
 by_cases h9 : l = [42]
 · subst h9
   have e9 : (s.toList == [42]) = true := by rw [hs]; decide
   clear hs h0 h1 h2 h3 h4 h5 h6 h7 h8
   go_enter Try.func34, Try.ntmps34
   go_wp2_with fail
   go_ret
   exact ⟨rfl, rfl⟩
 have e9 : (s.toList == [42]) = false := by rw [hs]; simpa using h9
 by_cases h10 : l = [47]
 · subst h10
   have e10 : (s.toList == [47]) = true := by rw [hs]; decide
   clear hs h0 h1 h2 h3 h4 h5 h6 h7 h8 h9
   go_enter Try.func34, Try.ntmps34
   go_wp2_with fail
   go_ret
   exact ⟨rfl, rfl⟩
 have e10 : (s.toList == [47]) = false := by rw [hs]; simpa using h10
 have HK : Hid (bnd l = 0) := by show _ = _; simp [bnd, bd1, h0, h1, h2, h3, h4, h5, h6, h7, h8, h9, h10]
 clear hs h0 h1 h2 h3 h4 h5 h6 h7 h8 h9 h10
 go_enter Try.func34, Try.ntmps34
 go_wp2_with fail
 go_ret
 exact ⟨ret_int (by rw [HK.out]; rfl), rfl⟩
open Go.RowKit
inductive Rt (tl : List Tk) : List Tk → List Tk → Prop
 | nil (e : Tk) : e.1 = 5 → Rt tl [e] tl
 | cons (t t' : Tk) (ts ts' : List Tk) : t.1 ≠ 5 → t'.1 = t.1 → t'.2.2 = t.2.2 → Rt tl ts ts' → Rt tl (t :: ts) (t' :: ts')
def Stp (z : Bool) (tl : List Tk) : Prop := if z then ∃ e, tl = [e] ∧ e.1 = 5 else ∃ t r, tl = t :: r ∧ t.1 = 3 ∧ (t.2.2.1 = [41] ∨ t.2.2.1 = [44])
def DD (z : Bool) (d d' : Nat) : Prop := d ≤ d' ∧ (z = true → d' = d)
def RG {α β : Type} (z : Bool) (N : α → Prop) (P : α → β → Prop) (r : Except Ft α) (r' : Except Ft β) : Prop := match r with
 | .ok x => N x ∨ (∃ x', r' = .ok x' ∧ P x x') ∨ (z = false ∧ ∃ p, r' = .error (p, true))
 | .error e => z = true → ∃ p, r' = .error (p, e.2)
def no {α : Type} : α → Prop := fun _ => False
theorem RG.long {α β : Type} {z : Bool} {N : α → Prop} {P : α → β → Prop} {r : Except Ft α} (hz : z = false) (p : Int) : RG z N P r (.error (p, true)) := by
 cases r with
 | ok x => exact .inr (.inr ⟨hz, p, rfl⟩)
 | error e => intro h; rw [hz] at h; cases h
theorem RG.ok {α β : Type} {z : Bool} {N : α → Prop} {P : α → β → Prop} {x : α} {x' : β} (h : P x x') : RG z N P (.ok x) (.ok x') := .inr (.inl ⟨x', rfl, h⟩)
theorem RG.err {α β : Type} {z : Bool} {N : α → Prop} {P : α → β → Prop} {e e' : Ft} (h : e'.2 = e.2) : RG z N P (.error e) (.error e') := fun _ => ⟨e'.1, by rw [← h]⟩
theorem RG.off {α β : Type} {z : Bool} {N : α → Prop} {P : α → β → Prop} {e : Ft} {r' : Except Ft β} (h : z = false) : RG z N P (.error e) r' := by intro h1; rw [h] at h1; cases h1
theorem RG.then {α β γ δ : Type} {z : Bool} {N : α → Prop} {P : α → β → Prop} {N2 : γ → Prop} {P2 : γ → δ → Prop} {r : Except Ft α} {r' : Except Ft β} {f : α → Except Ft γ} {f' : β → Except Ft δ}
   (h : RG z N P r r') (hN : ∀ x, r = .ok x → N x → ∀ y', RG z N2 P2 (f x) y') (hf : ∀ x x', r = .ok x → P x x' → RG z N2 P2 (f x) (f' x')) : RG z N2 P2 (r.bind f) (r'.bind f') := by
 cases r with
 | error e =>
   intro hz
   obtain ⟨p, rfl⟩ := h hz
   exact ⟨p, rfl⟩
 | ok x =>
   rcases h with h | ⟨x', rfl, h⟩ | ⟨hz, p, rfl⟩
   · exact hN x rfl h _
   · exact hf x x' rfl h
   · exact RG.long hz p
theorem Rt.len {tl ts ts' : List Tk} (h : Rt tl ts ts') : ts'.length + 1 = ts.length + tl.length := by
 induction h with
 | nil e h => simp; omega
 | cons t t' ts ts' h1 h2 h3 h4 ih => simp; omega
theorem Rt.nz {tl ts ts' : List Tk} (h : Rt tl ts ts') : Nz ts := by
 induction h with
 | nil e h => exact ⟨[], e, rfl, h⟩
 | cons t t' ts ts' h1 h2 h3 h4 ih =>
   obtain ⟨pre, x, rfl, hx⟩ := ih
   exact ⟨t :: pre, x, rfl, hx⟩
theorem Rt.ends {z : Bool} {tl ts ts' : List Tk} (h : Rt tl ts ts') (hS : Stp z tl) (h5 : (hd ts).1 = 5) : ts' = tl ∧ (z = true → (hd ts').1 = 5) ∧ (z = false → (hd ts').1 = 3 ∧ ((hd ts').2.2.1 = [41] ∨ (hd ts').2.2.1 = [44])) := by
 cases h with
 | nil e h =>
   refine ⟨rfl, ?_, ?_⟩
   · intro hz; subst hz
     obtain ⟨x, rfl, hx⟩ := hS
     exact hx
   · intro hz; subst hz
     obtain ⟨t, r, rfl, h1, h2⟩ := hS
     exact ⟨h1, h2⟩
 | cons t t' ts ts' h1 h2 h3 h4 => exact absurd h5 h1
def Pt {α : Type} (tl : List Tk) (a b : α × List Tk) : Prop := b.1 = a.1 ∧ Rt tl a.2 b.2
def RF (z : Bool) (tl : List Tk) (n m : Nat) (F F' : Rd) : Prop := ∀ d d' ts ts', DD z d d' → Rt tl ts ts' → ts.length ≤ n → ts'.length ≤ m → RG z no (Pt tl) (F d ts) (F' d' ts')
def RW (z : Bool) (tl : List Tk) (n m : Nat) (F F' : Rd) : Prop := ∀ d d' ts ts', DD z d d' → Rt tl ts ts' → ts.length ≤ n → ts'.length ≤ m → RG z (fun x => z = false ∧ (hd x.2).1 = 5) (Pt tl) (F d ts) (F' d' ts')
theorem RF.weak {z : Bool} {tl : List Tk} {n m : Nat} {F F' : Rd} (h : RF z tl n m F F') : RW z tl n m F F' := by
 intro d d' ts ts' h1 h2 h3 h4
 have k := h d d' ts ts' h1 h2 h3 h4
 unfold RG at k ⊢
 split
 · rename_i x hx
   rw [hx] at k
   exact .inr (k.resolve_left (fun h => h.elim))
 · rename_i x hx
   rw [hx] at k
   exact k
theorem DD.up {z : Bool} {d d' : Nat} (h : DD z d d') : DD z (d + 1) (d' + 1) := ⟨Nat.succ_le_succ h.1, fun e => by rw [h.2 e]⟩
open Go.RowKit
set_option maxHeartbeats 1000000
theorem Blk.extB {b g : Nat} {w w' : World} {x0 x1 x2 x3 : Value} (h : Blk w g x0 x1 x2 x3) (e : ExtB b w w') (hg : g ≠ b) : Blk w' g x0 x1 x2 x3 := by
 obtain ⟨z, ⟨k0, k1, k2, k3⟩, f0, f1, f2, f3⟩ := h
 have k := fun o => (e.cell z hg o).1
 have f := fun o => (e.cell z hg o).2
 exact ⟨Nat.lt_of_lt_of_le z e.size, ⟨(k 0).trans k0, (k 1).trans k1, (k 2).trans k2, (k 3).trans k3⟩, (f 0).trans f0, (f 1).trans f1, (f 2).trans f2, (f 3).trans f3⟩
theorem hd_mem {ts : List Tk} (h : 1 ≤ ts.length) : hd ts ∈ ts := by
 cases ts with
 | nil => simp at h
 | cons t r => simp [hd]
end Go.Proofs.Ytjhmbkdkjgjoaaa

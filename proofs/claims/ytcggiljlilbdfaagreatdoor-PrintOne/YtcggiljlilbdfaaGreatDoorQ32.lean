/-
 There and back: a reference that was read is written as it was, one that is written is read as it was. Plain mathematics.
 There and back: a reference that is written is read as it was. Plain mathematics.
 The words of a tree that is written. Plain mathematics: no program in sight.
 Reading by powers is reading by levels. Plain mathematics: no program in sight.
-/
import Derived.Test.YtcggiljlilbdfaaGreatDoorQ31
import Derived.Test.YtcggiljlilbdfaaGreatDoorQ28
import Derived.Test.YtcggiljlilbdfaaGreatDoorQ10
namespace Go.Proofs.YtcggiljlilbdfaaGreatDoor
open Go.RowKit

open Go.RowKit

theorem name_let (c : Int) (h1 : 1 ≤ c) (h2 : c ≤ 52) : (nameL c).all upB = true ∧ ∃ a t, nameL c = a :: t := by
 have all : ∀ c : Fin 53, 1 ≤ c.val → (nameL c.val).all upB = true ∧ (nameL c.val) ≠ [] := by decide +kernel
 obtain ⟨g1, g2⟩ := all ⟨c.toNat, by omega⟩ (by show 1 ≤ c.toNat; omega)
 rw [show ((⟨c.toNat, by omega⟩ : Fin 53).val : Int) = c from by show ((c.toNat : Nat) : Int) = c; omega] at g1 g2
 exact ⟨g1, List.exists_cons_of_ne_nil g2⟩
theorem sign_read (b : Bool) (l : List UInt8) (h : dlB l = false) : dlB (signL b ++ l) = b ∧ undl (signL b ++ l) = l := by
 cases b with
 | true => exact ⟨rfl, rfl⟩
 | false =>
   have e : signL false ++ l = l := rfl
   rw [e]
   exact ⟨h, by unfold undl; rw [h]; rfl⟩
theorem dl_no {c : UInt8} {l : List UInt8} (h : c ≠ 36) : dlB (c :: l) = false := by unfold dlB; simpa using h
theorem print_read (r c : Int) (ar ac : Bool) (hin : inB r c = true) : okP (printR r c ar ac) = true ∧ prV (printR r c ar ac) = refD r c ar ac := by
 obtain ⟨r1, r2, c1, c2⟩ := in_bd hin
 obtain ⟨n, hn⟩ : ∃ n : Nat, r = n := ⟨r.toNat, by omega⟩
 obtain ⟨k, hk⟩ : ∃ k : Nat, c = k := ⟨c.toNat, by omega⟩
 obtain ⟨hl, a, t, ht⟩ := name_let c c1 c2
 have hd : Lib.itoa r = Lib.decDigits n := by rw [hn, itoa_nat]
 obtain ⟨x, y, hx, hx48⟩ := dec_head n (by omega)
 have hxd : dgB x = true := by
   have := dec_all n; rw [hx, List.all_cons, Bool.and_eq_true] at this; exact this.1
 have hx36 : x ≠ 36 := fun e => by rw [e] at hxd; exact absurd hxd (by decide)
 have ha : upB a = true := by rw [ht, List.all_cons, Bool.and_eq_true] at hl; exact hl.1
 have ha36 : a ≠ 36 := fun e => by rw [e] at ha; exact absurd ha (by decide)
 have e0 : printR r c ar ac = signL ac ++ (nameL c ++ (signL ar ++ Lib.itoa r)) := by
   unfold printR; rw [if_pos hin, List.append_assoc, List.append_assoc]
 obtain ⟨p1, p2⟩ := sign_read ac (nameL c ++ (signL ar ++ Lib.itoa r)) (by rw [ht]; exact dl_no ha36)
 rw [← e0] at p1 p2
 obtain ⟨q1, q2⟩ := sign_read ar (Lib.itoa r) (by rw [hd, hx]; exact dl_no hx36)
 have hA : (nameL c).all (fun c => !sgns.contains c) = true := by
   rw [List.all_eq_true]
   intro z hz
   rw [lt_sgn (List.all_eq_true.1 hl z hz)]; rfl
 have hB : ∀ z, (signL ar ++ Lib.itoa r).head? = some z → (!sgns.contains z) = false := by
   intro z hz
   rw [sgn_eq]
   cases ar with
   | true =>
     have : (36 : UInt8) = z := Option.some.inj hz
     rw [← this]; rfl
   | false =>
     have e : signL false ++ Lib.itoa r = Lib.itoa r := rfl
     rw [e, hd, hx] at hz
     have : x = z := Option.some.inj hz
     rw [← this, hxd]; simp
 obtain ⟨t1, t2⟩ := tw_of (rfl : nameL c ++ (signL ar ++ Lib.itoa r) = _) hA hB
 rw [← p2] at t1 t2
 have n1 : nmL (printR r c ar ac) = nameL c := t1
 have n2 : rsL (printR r c ar ac) = signL ar ++ Lib.itoa r := t2
 have hro : rowP (printR r c ar ac) = r := by
   unfold rowP
   rw [n2, q2, hd]
   unfold rowC
   rw [rd_dec n (by omega), Int.mul_tdiv_cancel _ (by decide), itoa_nat, if_pos rfl, hn]
 have hco : colP (printR r c ar ac) = c := by
   unfold colP
   rw [n1, hk, colN_name k (by omega) (by omega)]
 have hok : okP (printR r c ar ac) = true := by unfold okP; rw [hro, hco]; exact hin
 refine ⟨hok, ?_⟩
 unfold prV
 rw [hok, if_pos rfl, hro, hco, n2, q1, p1]

open Go.RowKit
set_option maxHeartbeats 2000000

/-- What may stand behind a part: nothing, or a sign. -/
def foL : List UInt8 := [40, 41, 44, 58, 60, 61, 62, 43, 45, 42, 47, 38]
def Fo (r : List UInt8) : Prop := r = [] ∨ ∃ c t, r = c :: t ∧ c ∈ foL
theorem fo_cons {c : UInt8} {t : List UInt8} (h : c ∈ foL) : Fo (c :: t) := .inr ⟨c, t, rfl, h⟩
theorem Fo.head {r : List UInt8} (h : Fo r) (c : UInt8) (hc : r[0]? = some c) : c ∈ foL := by
 rcases h with rfl | ⟨d, t, rfl, h⟩
 · cases hc
 · simp at hc; subst hc; exact h
theorem fo_all {p : UInt8 → Bool} (h : foL.all (fun c => !p c) = true) {c : UInt8} (hc : c ∈ foL) : p c = false := by
 have := List.all_eq_true.1 h c hc
 simpa using this
theorem run_fo (p : UInt8 → Bool) (hp : foL.all (fun c => !p c) = true) (l r : List UInt8) (hr : Fo r) : run p (l ++ r) = run p l := by
 induction l with
 | nil =>
   rcases hr with rfl | ⟨c, t, rfl, h⟩
   · rfl
   · rw [List.nil_append, run_cons, run_nil, if_neg]
     rw [fo_all hp h]; decide
 | cons c l ih => rw [List.cons_append, run_cons, run_cons, ih]
theorem run_fullB (p : UInt8 → Bool) (l : List UInt8) (h : l.all p = true) : run p l = l.length := by
 induction l with
 | nil => rfl
 | cons c r ih =>
   simp only [List.all_cons, Bool.and_eq_true] at h
   rw [run_cons, if_pos h.1, ih h.2, List.length_cons]
theorem numE_fo (l r : List UInt8) (hr : Fo r) : numE (l ++ r) = numE l := by
 unfold numE
 rw [run_fo dgB (by decide) l r hr]
 have hn := runL_le dgB l
 by_cases h : run dgB l < l.length
 · rw [List.getElem?_append_left h, List.drop_append_of_le_length (by omega), run_fo dgB (by decide) _ r hr]
 · have e : run dgB l = l.length := by omega
   rw [e]
   have h1 : (l ++ r)[l.length]? = r[0]? := by rw [List.getElem?_append_right (Nat.le_refl _), Nat.sub_self]
   rw [h1, if_neg, if_neg]
   · rintro ⟨h2, _⟩; rw [List.getElem?_eq_none (Nat.le_refl _)] at h2; cases h2
   · rintro ⟨h2, _⟩; exact absurd (hr.head _ h2) (by decide)
theorem txt_quo (s r : List UInt8) (hr : ∀ c, r[0]? = some c → c ≠ 34) : txt (quoB s ++ 34 :: r) = some (s, (quoB s).length + 1) := by
 induction s with
 | nil => exact txt_stop r hr
 | cons c s ih =>
   unfold quoB
   by_cases hc : c = 34
   · rw [if_pos hc]
     show txt (34 :: 34 :: (quoB s ++ 34 :: r)) = _
     rw [txt, if_pos rfl, if_pos rfl, ih, hc]
     rfl
   · rw [if_neg hc]
     show txt (c :: (quoB s ++ 34 :: r)) = _
     rw [txt_cne c _ hc, ih]
     rfl
theorem nxt_num {n : Nat} (hn : n ≤ 9223372036854775807) (r : List UInt8) (hr : Fo r) : nxt (bodyL n ++ r) = .ok (0, [], (n : Int), 0, (bodyL n).length) := by
 have h := body_nxt n hn
 obtain ⟨c, t, hb, hc⟩ := body_head n
 have h1 : ∀ t, nxt (c :: t) = numR (c :: t) := fun t => by rw [nxt_cons, if_pos hc]
 rw [hb, h1] at h
 rw [hb, List.cons_append, h1, ← List.cons_append, ← hb]
 rw [← hb] at h
 unfold numR at h ⊢
 rw [numE_fo _ r hr, List.take_append_of_le_length (numE_le _)]
 exact h
theorem nxt_txt (s r : List UInt8) (hr : Fo r) : nxt (quoL s ++ r) = .ok (1, s, 0, 0, (quoL s).length) := by
 show nxt (34 :: (quoB s ++ [34] ++ r)) = _
 rw [nxt_cons, if_neg (by decide), if_pos rfl]
 unfold txtR
 rw [List.tail_cons, List.append_assoc]
 show (match txt (quoB s ++ 34 :: r) with | none => _ | some x => _) = _
 rw [txt_quo s r (fun c hc e => by subst e; exact absurd (hr.head _ hc) (by decide))]
 simp [quoL]
theorem nxt_wd {w : List UInt8} (h1 : w.all inW = true) (h2 : ∃ c t, w = c :: t ∧ ltB c = true) (r : List UInt8) (hr : Fo r) : nxt (w ++ r) = .ok (2, w, 0, 0, w.length) := by
 obtain ⟨c, t, rfl, hc⟩ := h2
 have hd : dgB c = false := by
   unfold ltB at hc; unfold dgB
   simp at hc ⊢
   omega
 have hq : c ≠ 34 := by intro e; subst e; exact absurd hc (by decide)
 have hw : run inW (c :: t ++ r) = (c :: t).length := by
   rw [run_fo inW (by decide) _ r hr]
   exact run_fullB inW _ h1
 rw [List.cons_append, nxt_cons, if_neg (by rw [hd]; decide), if_neg hq, if_pos hc]
 unfold wdR
 rw [← List.cons_append, hw, List.take_left]
theorem nxtB_err {e : Int} (h : 1 ≤ e ∧ e ≤ 5) (r : List UInt8) : nxt (errL e ++ r) = .ok (4, [], 0, e, (errL e).length) := by
 have hh : e = 1 ∨ e = 2 ∨ e = 3 ∨ e = 4 ∨ e = 5 := by omega
 rcases hh with rfl | rfl | rfl | rfl | rfl <;> rfl
/-- What a part begins with. -/
def opB (c : UInt8) : Bool := dgB c || c == 34 || ltB c || c == 35 || c == 45 || c == 40
def Op (r : List UInt8) : Prop := ∃ c t, r = c :: t ∧ opB c = true
theorem nxtB_sg {s : List UInt8} (h : bnd s ≠ 0) (r : List UInt8) (hr : Op r) : nxt (s ++ r) = .ok (3, s, 0, 0, s.length) := by
 obtain ⟨c, t, rfl, hc⟩ := hr
 have h1 : (61 == c) = false := by
   cases he : (61 == c) with
   | false => rfl
   | true => have := eq_of_beq he; subst this; exact absurd hc (by decide)
 have h2 : (62 == c) = false := by
   cases he : (62 == c) with
   | false => rfl
   | true => have := eq_of_beq he; subst this; exact absurd hc (by decide)
 have hm : s ∈ bd1 ∨ s = [38] ∨ (s = [43] ∨ s = [45]) ∨ (s = [42] ∨ s = [47]) := by
   unfold bnd at h
   split at h
   · exact .inl (by assumption)
   · split at h
     · exact .inr (.inl (by assumption))
     · split at h
       · exact .inr (.inr (.inl (by assumption)))
       · split at h
         · exact .inr (.inr (.inr (by assumption)))
         · exact absurd rfl h
 simp only [bd1, List.mem_cons, List.not_mem_nil, or_false] at hm
 have go : ∀ (a : UInt8) (x : List UInt8), dgB a = false → a ≠ 34 → ltB a = false → a ≠ 35 → nxt (a :: x) = sgR (a :: x) := by
   intro a x e1 e2 e3 e4
   rw [nxt_cons, if_neg (by rw [e1]; decide), if_neg e2, if_neg (by rw [e3]; decide), if_neg e4]
 rcases hm with (rfl | rfl | rfl | rfl | rfl | rfl) | rfl | (rfl | rfl) | (rfl | rfl) <;>
   (simp only [List.cons_append, List.nil_append]; rw [go _ _ (by decide) (by decide) (by decide) (by decide)]; simp [sgR, sgT, sgsL, List.find?, List.isPrefixOf, h1, h2])
theorem nxt_colon (r : List UInt8) : nxt (58 :: r) = .ok (3, [58], 0, 0, 1) := by
 rw [nxt_cons, if_neg (by decide), if_neg (by decide), if_neg (by decide), if_neg (by decide)]
 simp [sgR, sgT, sgsL, List.isPrefixOf]
theorem nxt_minus (r : List UInt8) : nxt (45 :: r) = .ok (3, [45], 0, 0, 1) := by
 rw [nxt_cons, if_neg (by decide), if_neg (by decide), if_neg (by decide), if_neg (by decide)]
 simp [sgR, sgT, sgsL, List.isPrefixOf]

/-- A word without its place. -/
abbrev Sk := Int × List UInt8 × Int × Int
def stp (t : Tk) : Sk := (t.1, t.2.2)
/-- l has the words us, whatever of R stands behind it. -/
def Ws (l : List UInt8) (us : List Sk) (R : List UInt8 → Prop) : Prop := ∀ p r, R r → ∃ ts : List Tk, ts.map stp = us ∧ W p (l ++ r) = (W (p + l.length) r).map (fun xs => ts ++ xs)
theorem Ws.app {l m : List UInt8} {us vs : List Sk} {R S : List UInt8 → Prop} (h1 : Ws l us R) (h2 : Ws m vs S) (hR : ∀ r, S r → R (m ++ r)) : Ws (l ++ m) (us ++ vs) S := by
 intro p r hr
 obtain ⟨t1, a1, b1⟩ := h1 p (m ++ r) (hR r hr)
 obtain ⟨t2, a2, b2⟩ := h2 (p + l.length) r hr
 refine ⟨t1 ++ t2, by rw [List.map_append, a1, a2], ?_⟩
 rw [List.append_assoc, b1, b2, List.length_append, ← Nat.add_assoc]
 cases W (p + l.length + m.length) r with
 | error e => rfl
 | ok xs => show Except.ok (t1 ++ (t2 ++ xs)) = Except.ok (t1 ++ t2 ++ xs); rw [List.append_assoc]
theorem Ws.mono {l : List UInt8} {us : List Sk} {R S : List UInt8 → Prop} (h : Ws l us R) (hR : ∀ r, S r → R r) : Ws l us S := fun p r hr => h p r (hR r hr)
theorem Ws.one {l : List UInt8} {k n e : Int} {s : List UInt8} {R : List UInt8 → Prop} (hl : ∃ c t, l = c :: t ∧ c ≠ 32) (h : ∀ r, R r → nxt (l ++ r) = .ok (k, s, n, e, l.length)) : Ws l [(k, s, n, e)] R := by
 intro p r hr
 obtain ⟨c, t, rfl, hc⟩ := hl
 have hx := h r hr
 refine ⟨[(k, (p : Int), s, n, e)], rfl, ?_⟩
 rw [List.cons_append] at hx ⊢
 rw [W_at_one p hc hx]
 show (W (p + (c :: t).length) (List.drop (c :: t).length (c :: (t ++ r)))).map _ = _
 rw [← List.cons_append, List.drop_left]
 rfl
def Tr (_ : List UInt8) : Prop := True
theorem ws_open : Ws [40] [(3, [40], 0, 0)] Tr := Ws.one ⟨40, [], rfl, by decide⟩ (fun r _ => nxt_open r)
theorem ws_close : Ws [41] [(3, [41], 0, 0)] Tr := Ws.one ⟨41, [], rfl, by decide⟩ (fun r _ => nxt_close r)
theorem ws_comma : Ws [44] [(3, [44], 0, 0)] Tr := Ws.one ⟨44, [], rfl, by decide⟩ (fun r _ => nxt_comma r)
theorem ws_colon : Ws [58] [(3, [58], 0, 0)] Tr := Ws.one ⟨58, [], rfl, by decide⟩ (fun r _ => nxt_colon r)
theorem ws_minus : Ws [45] [(3, [45], 0, 0)] Tr := Ws.one ⟨45, [], rfl, by decide⟩ (fun r _ => nxt_minus r)
def bkT (b : Bool) (us : List Sk) : List Sk := if b then (3, [40], 0, 0) :: (us ++ [(3, [41], 0, 0)]) else us
theorem ws_brk {l : List UInt8} {us : List Sk} (h : Ws l us Fo) (b : Bool) : Ws (brkL b l) (bkT b us) Fo := by
 cases b with
 | false => exact h
 | true =>
   have h1 : Ws ([40] ++ (l ++ [41])) ([(3, [40], 0, 0)] ++ (us ++ [(3, [41], 0, 0)])) Tr := ws_open.app (h.app ws_close (fun r _ => fo_cons (by decide))) (fun _ _ => trivial)
   exact h1.mono (fun _ _ => trivial)
def joinT : List (List Sk) → List Sk
 | [] => []
 | [a] => a
 | a :: b :: r => a ++ (3, [44], 0, 0) :: joinT (b :: r)
theorem ws_join : ∀ (ls : List (List UInt8)) (us : List (List Sk)), ls.length = us.length → (∀ i (h : i < ls.length) (h' : i < us.length), Ws ls[i] us[i] Fo) → Ws (joinL ls) (joinT us) Fo
 | [], [], _, _ => by
   intro p r _
   refine ⟨[], rfl, ?_⟩
   show W p r = (W p r).map _
   cases W p r <;> rfl
 | [a], [u], _, h => h 0 (by simp) (by simp)
 | a :: b :: r, u :: v :: s, hl, h => by
   have i := ws_join (b :: r) (v :: s) (by simpa using hl) (fun i h1 h2 => h (i + 1) (by simpa using h1) (by simpa using h2))
   have h1 : Ws (a ++ ([44] ++ joinL (b :: r))) (u ++ ([(3, [44], 0, 0)] ++ joinT (v :: s))) Fo := (h 0 (by simp) (by simp)).app (ws_comma.app i (fun _ _ => trivial)) (fun r _ => fo_cons (by decide))
   exact h1
 | [], _ :: _, hl, _ => by simp at hl
 | _ :: _, [], hl, _ => by simp at hl
 | [a], _ :: _ :: _, hl, _ => by simp at hl
 | _ :: _ :: _, [u], hl, _ => by simp at hl
/-- A tree's words. -/
def tkL : Nat → T → List Sk
 | 0, _ => []
 | n + 1, t => if t.k = 0 then [(0, [], t.n, 0)] else if t.k = 1 then [(1, t.s, 0, 0)] else if t.k = 2 then [(2, (if t.n = 1 then wTrue else wFalse), 0, 0)] else if t.k = 3 then [(4, [], 0, t.e)] else if t.k = 4 then [(2, rfL t.r, 0, 0)] else if t.k = 5 then [(2, rfL t.r, 0, 0), (3, [58], 0, 0), (2, rfL t.q, 0, 0)] else
   if t.k = 6 then (3, [45], 0, 0) :: bkT (loose 5 (hdT t.l)) (tkL n (hdT t.l)) else
   if t.k = 7 then bkT (loose (bnd t.s) (hdT t.l)) (tkL n (hdT t.l)) ++ (3, t.s, 0, 0) :: bkT (loose (bnd t.s + 1) (sdT t.l)) (tkL n (sdT t.l)) else
   (2, t.s, 0, 0) :: (3, [40], 0, 0) :: (joinT (t.l.map (tkL n)) ++ [(3, [41], 0, 0)])
/-- The ways in which a tree is well made. -/
theorem well6 {n : Nat} {t : T} (h : wellT (n + 1) t = true) (k : t.k = 6) : ∃ x, t.l = [x] ∧ wellT n x = true := by
 unfold wellT at h
 simp only [k] at h
 simp at h
 obtain ⟨h1, h2⟩ := h
 match hl : t.l, h1 with
 | [x], _ => exact ⟨x, rfl, h2 x (by rw [hl]; simp)⟩
theorem well7 {n : Nat} {t : T} (h : wellT (n + 1) t = true) (k : t.k = 7) : ∃ x y, t.l = [x, y] ∧ bnd t.s ≠ 0 ∧ wellT n x = true ∧ wellT n y = true := by
 unfold wellT at h
 simp only [k] at h
 simp at h
 obtain ⟨⟨h0, h1⟩, h2⟩ := h
 match hl : t.l, h1 with
 | [x, y], _ => exact ⟨x, y, rfl, h0, h2 x (by rw [hl]; simp), h2 y (by rw [hl]; simp)⟩
theorem well8 {n : Nat} {t : T} (h : wellT (n + 1) t = true) (k : t.k = 8) : ∃ a b, kno t.s = some (a, b) ∧ a ≤ t.l.length ∧ t.l.length ≤ b ∧ ∀ x ∈ t.l, argT n x = true := by
 unfold wellT at h
 simp only [k] at h
 simp at h
 obtain ⟨⟨⟨h1, h2⟩, h3⟩, h4⟩ := h
 cases hk : kno t.s with
 | none => rw [hk] at h1; cases h1
 | some q =>
   obtain ⟨a, b⟩ := q
   refine ⟨a, b, rfl, ?_, ?_, ?_⟩
   · unfold knA at h2; rw [hk] at h2; simp at h2; omega
   · unfold knB at h3; rw [hk] at h3; simp at h3; omega
   · intro x hx
     have := h4 x hx
     unfold argT
     by_cases k5 : x.k = 5
     · rw [if_pos k5]; simpa [k5] using this
     · rw [if_neg k5]; simpa [k5] using this
theorem well_k {n : Nat} {t : T} (h : wellT (n + 1) t = true) : t.k = 0 ∨ t.k = 1 ∨ t.k = 2 ∨ t.k = 3 ∨ t.k = 4 ∨ t.k = 6 ∨ t.k = 7 ∨ t.k = 8 := by
 unfold wellT at h
 repeat (first | (split at h; · omega) | cases h)
theorem kno_wd {s : List UInt8} {q : Nat × Nat} (h : kno s = some q) : s.all inW = true ∧ (∃ c t, s = c :: t ∧ ltB c = true) ∧ 1 ≤ q.1 ∧ q.2 ≤ 20 ∧ s ≠ wTrue ∧ s ≠ wFalse := by
 unfold kno at h
 split at h
 · rename_i hs; cases h; simp [kn1] at hs; rcases hs with rfl | rfl | rfl | rfl | rfl | rfl | rfl | rfl <;> exact ⟨by decide, ⟨_, _, rfl, by decide⟩, by decide, by decide, by decide, by decide⟩
 · split at h
   · rename_i hs; cases h; simp [kn2] at hs; rcases hs with rfl | rfl <;> exact ⟨by decide, ⟨_, _, rfl, by decide⟩, by decide, by decide, by decide, by decide⟩
   · split at h
     · rename_i hs; cases h; simp [kn3] at hs; rcases hs with rfl | rfl | rfl <;> exact ⟨by decide, ⟨_, _, rfl, by decide⟩, by decide, by decide, by decide, by decide⟩
     · split at h
       · rename_i hs; cases h; simp [kn4] at hs; subst hs; exact ⟨by decide, ⟨_, _, rfl, by decide⟩, by decide, by decide, by decide, by decide⟩
       · split at h
         · rename_i hs; cases h; simp [kn5] at hs; rcases hs with rfl | rfl | rfl | rfl | rfl | rfl <;> exact ⟨by decide, ⟨_, _, rfl, by decide⟩, by decide, by decide, by decide, by decide⟩
         · cases h
theorem up_lt {c : UInt8} (h : upB c = true) : ltB c = true := by
 unfold upB at h; unfold ltB
 simp at h ⊢; omega
theorem lt_in {c : UInt8} (h : ltB c = true) : inW c = true := by unfold inW; rw [h]; rfl
theorem dg_in {c : UInt8} (h : dgB c = true) : inW c = true := by unfold inW; rw [h]; simp
theorem all_imp {p q : UInt8 → Bool} {l : List UInt8} (h : l.all p = true) (hi : ∀ c, p c = true → q c = true) : l.all q = true := by
 rw [List.all_eq_true] at h ⊢
 exact fun c hc => hi c (h c hc)
theorem rf_wd {r : Rf} (h : inB r.1 r.2.1 = true) : (rfL r).all inW = true ∧ ∃ c t, rfL r = c :: t ∧ ltB c = true := by
 obtain ⟨h1, h2, h3, h4⟩ := in_bd h
 obtain ⟨n1, a, t, n2⟩ := name_let r.2.1 h3 h4
 have n3 : (nameL r.2.1).all inW = true := all_imp n1 (fun c hc => lt_in (up_lt hc))
 have n4 : (Lib.itoa r.1).all inW = true := by
   obtain ⟨n, hn⟩ : ∃ n : Nat, r.1 = n := ⟨r.1.toNat, by omega⟩
   rw [hn, itoa_nat]
   exact all_imp (dec_all n) (fun c hc => dg_in hc)
 have sg : ∀ b, (signL b).all inW = true := by intro b; cases b <;> decide
 have hL : rfL r = signL r.2.2.2 ++ nameL r.2.1 ++ signL r.2.2.1 ++ Lib.itoa r.1 := by unfold rfL printR; rw [if_pos h]
 rw [hL]
 refine ⟨by rw [List.all_append, List.all_append, List.all_append, sg, sg, n3, n4]; rfl, ?_⟩
 cases r.2.2.2 with
 | true => exact ⟨36, _, rfl, by decide⟩
 | false =>
   rw [n2] at n1 ⊢
   simp only [List.all_cons, Bool.and_eq_true] at n1
   exact ⟨a, _, rfl, up_lt n1.1⟩
theorem ws_rf {r : Rf} (h : inB r.1 r.2.1 = true) : Ws (rfL r) [(2, rfL r, 0, 0)] Fo ∧ Op (rfL r) := by
 obtain ⟨h1, c, t, h2, h3⟩ := rf_wd h
 have hc : c ≠ 32 := by intro e; subst e; exact absurd h3 (by decide)
 exact ⟨Ws.one ⟨c, t, h2, hc⟩ (fun r hr => nxt_wd h1 ⟨c, t, h2, h3⟩ r hr), c, t, h2, by unfold opB; rw [h3]; simp⟩
theorem op_brk {l : List UInt8} (h : Op l) (b : Bool) : Op (brkL b l) := by
 cases b with
 | false => exact h
 | true => exact ⟨40, _, rfl, by decide⟩
theorem Op.app {l : List UInt8} (h : Op l) (r : List UInt8) : Op (l ++ r) := by
 obtain ⟨c, t, rfl, hc⟩ := h
 exact ⟨c, t ++ r, rfl, hc⟩
/-- The words of a tree that is written. -/
theorem ws_all (n : Nat) : ∀ t : T, Wf t → Hr n t → argT n t = true → Ws (shT n t) (tkL n t) Fo ∧ Op (shT n t) := by
 induction n with
 | zero => intro t _ h; cases h
 | succ n ih =>
   intro t hw hr h
   have hH := hr.2
   obtain ⟨_, w1, w2, w3, w4, w5, w6, w7, w8, w9⟩ := hw
   by_cases k5 : t.k = 5
   · unfold argT at h
     rw [if_pos k5, Bool.and_eq_true] at h
     unfold shT tkL
     rw [if_neg (by omega), if_neg (by omega), if_neg (by omega), if_neg (by omega), if_neg (by omega), if_pos k5, if_neg (by omega), if_neg (by omega), if_neg (by omega), if_neg (by omega), if_neg (by omega), if_pos k5]
     obtain ⟨a1, a2⟩ := ws_rf h.1
     obtain ⟨b1, b2⟩ := ws_rf h.2
     have := a1.app (ws_colon.app b1 (fun _ _ => trivial)) (fun r _ => fo_cons (by decide))
     exact ⟨this, a2.app _⟩
   · unfold argT at h
     rw [if_neg k5] at h
     have hk := well_k h
     by_cases k0 : t.k = 0
     · unfold shT tkL
       rw [if_pos k0, if_pos k0]
       have hn : 0 ≤ t.n := by unfold wellT at h; simpa [k0] using h
       obtain ⟨q1, q2⟩ := w2
       obtain ⟨m, hm⟩ : ∃ m : Nat, t.n = m := ⟨t.n.toNat, by omega⟩
       have hp : printL t.n = bodyL m := by
         unfold printL
         rw [if_pos (by unfold canB; simp; omega), if_neg (by omega), hm]
         rfl
       rw [hp, hm]
       obtain ⟨c, r, hb, hc⟩ := body_head m
       exact ⟨Ws.one ⟨c, r, hb, dg_ne hc⟩ (fun r hr => nxt_num (by omega) r hr), c, r, hb, by unfold opB; rw [hc]; rfl⟩
     by_cases k1 : t.k = 1
     · unfold shT tkL
       rw [if_neg k0, if_pos k1, if_neg k0, if_pos k1]
       exact ⟨Ws.one ⟨34, _, rfl, by decide⟩ (fun r hr => nxt_txt t.s r hr), 34, _, rfl, by decide⟩
     by_cases k2 : t.k = 2
     · unfold shT tkL
       rw [if_neg k0, if_neg k1, if_pos k2, if_neg k0, if_neg k1, if_pos k2]
       by_cases hn : t.n = 1
       · rw [if_pos hn]
         exact ⟨Ws.one ⟨84, _, rfl, by decide⟩ (fun r hr => nxt_wd (by decide) ⟨84, _, rfl, by decide⟩ r hr), 84, _, rfl, by decide⟩
       · rw [if_neg hn]
         exact ⟨Ws.one ⟨70, _, rfl, by decide⟩ (fun r hr => nxt_wd (by decide) ⟨70, _, rfl, by decide⟩ r hr), 70, _, rfl, by decide⟩
     by_cases k3 : t.k = 3
     · unfold shT tkL
       rw [if_neg k0, if_neg k1, if_neg k2, if_pos k3, if_neg k0, if_neg k1, if_neg k2, if_pos k3]
       have he : 1 ≤ t.e ∧ t.e ≤ 5 := by unfold wellT at h; simpa [k3] using h
       have hh : ∃ r, errL t.e = 35 :: r := by
         have hh : t.e = 1 ∨ t.e = 2 ∨ t.e = 3 ∨ t.e = 4 ∨ t.e = 5 := by omega
         rcases hh with h | h | h | h | h <;> rw [h] <;> exact ⟨_, rfl⟩
       obtain ⟨r, hr⟩ := hh
       exact ⟨Ws.one ⟨35, r, hr, by decide⟩ (fun r _ => nxtB_err he r), 35, r, hr, by decide⟩
     by_cases k4 : t.k = 4
     · unfold shT tkL
       rw [if_neg k0, if_neg k1, if_neg k2, if_neg k3, if_pos k4, if_neg k0, if_neg k1, if_neg k2, if_neg k3, if_pos k4]
       exact ws_rf (by unfold wellT at h; simpa [k4] using h)
     have hwa : ∀ x, wellT n x = true → argT n x = true := by
       intro x hx
       unfold argT
       rw [if_neg]
       · exact hx
       · intro k
         cases n with
         | zero => cases hx
         | succ n => have := well_k hx; omega
     by_cases k6 : t.k = 6
     · obtain ⟨x, hl, hx⟩ := well6 h k6
       unfold shT tkL
       rw [if_neg k0, if_neg k1, if_neg k2, if_neg k3, if_neg k4, if_neg k5, if_pos k6, if_neg k0, if_neg k1, if_neg k2, if_neg k3, if_neg k4, if_neg k5, if_pos k6, hl]
       obtain ⟨i1, i2⟩ := ih x (w9 x (by rw [hl]; simp)) (hH x (by rw [hl]; simp)) (hwa x hx)
       exact ⟨ws_minus.app (ws_brk i1 _) (fun _ _ => trivial), 45, _, rfl, by decide⟩
     by_cases k7 : t.k = 7
     · obtain ⟨x, y, hl, hb, hx, hy⟩ := well7 h k7
       unfold shT tkL
       rw [if_neg k0, if_neg k1, if_neg k2, if_neg k3, if_neg k4, if_neg k5, if_neg k6, if_pos k7, if_neg k0, if_neg k1, if_neg k2, if_neg k3, if_neg k4, if_neg k5, if_neg k6, if_pos k7, hl]
       obtain ⟨i1, i2⟩ := ih x (w9 x (by rw [hl]; simp)) (hH x (by rw [hl]; simp)) (hwa x hx)
       obtain ⟨j1, j2⟩ := ih y (w9 y (by rw [hl]; simp)) (hH y (by rw [hl]; simp)) (hwa y hy)
       have hs : ∃ c r, t.s = c :: r ∧ c ≠ 32 ∧ c ∈ foL := by
         unfold bnd at hb
         split at hb
         · rename_i hs; simp [bd1] at hs; rcases hs with h | h | h | h | h | h <;> rw [h] <;> exact ⟨_, _, rfl, by decide, by decide⟩
         · split at hb
           · rename_i hs; rw [hs]; exact ⟨_, _, rfl, by decide, by decide⟩
           · split at hb
             · rename_i hs; rcases hs with h | h <;> rw [h] <;> exact ⟨_, _, rfl, by decide, by decide⟩
             · split at hb
               · rename_i hs; rcases hs with h | h <;> rw [h] <;> exact ⟨_, _, rfl, by decide, by decide⟩
               · exact absurd rfl hb
       obtain ⟨c, r, hs, hc, hf⟩ := hs
       have hS : Ws t.s [(3, t.s, 0, 0)] Op := Ws.one ⟨c, r, hs, hc⟩ (fun r hr => nxtB_sg hb r hr)
       have := (ws_brk i1 (loose (bnd t.s) x)).app (hS.app (ws_brk j1 (loose (bnd t.s + 1) y)) (fun r _ => (op_brk j2 _).app r)) (fun q _ => by rw [hs]; exact fo_cons hf)
       refine ⟨?_, ?_⟩
       · rw [List.append_assoc]
         exact this
       · rw [List.append_assoc]
         exact (op_brk i2 _).app _
     · have k8 : t.k = 8 := by omega
       obtain ⟨a, b, hk, ha, hb, hx⟩ := well8 h k8
       unfold shT tkL
       rw [if_neg k0, if_neg k1, if_neg k2, if_neg k3, if_neg k4, if_neg k5, if_neg k6, if_neg k7, if_neg k0, if_neg k1, if_neg k2, if_neg k3, if_neg k4, if_neg k5, if_neg k6, if_neg k7]
       obtain ⟨q1, ⟨c, r, hs, hc⟩, q3, q4, _⟩ := kno_wd hk
       have hc2 : c ≠ 32 := by intro e; subst e; exact absurd hc (by decide)
       have hS : Ws t.s [(2, t.s, 0, 0)] Fo := Ws.one ⟨c, r, hs, hc2⟩ (fun r' hr => nxt_wd q1 ⟨c, r, hs, hc⟩ r' hr)
       have hJ : Ws (joinL (t.l.map (shT n))) (joinT (t.l.map (tkL n))) Fo := by
         refine ws_join _ _ (by simp) (fun i h1 h2 => ?_)
         simp only [List.getElem_map]
         have hm : t.l[i]'(by simpa using h1) ∈ t.l := List.getElem_mem _
         exact (ih _ (w9 _ hm) (hH _ hm) (hx _ hm)).1
       refine ⟨?_, c, _, by rw [hs]; rfl, by unfold opB; rw [hc]; simp⟩
       have := hS.app (ws_open.app (hJ.app ws_close (fun r _ => fo_cons (by decide))) (fun _ _ => trivial)) (fun r _ => fo_cons (by decide))
       exact this.mono (fun _ _ => trivial)

open Go.RowKit

/-- The reading of what signs that bind at least so tightly make. -/
def LvK (o : Rd) (k : Nat) : Rd := if k = 1 then frm o else if k = 2 then lv (lv (lv o 4) 3) 2 else if k = 3 then lv (lv o 4) 3 else if k = 4 then lv o 4 else o
theorem LvK_step (o : Rd) (k : Nat) (h1 : 1 ≤ k) (h4 : k ≤ 4) : LvK o k = lv (LvK o (k + 1)) k := by
 have hh : k = 1 ∨ k = 2 ∨ k = 3 ∨ k = 4 := by omega
 rcases hh with rfl | rfl | rfl | rfl <;> rfl
theorem LvK_top (o : Rd) (k : Nat) (h : 5 ≤ k) : LvK o k = o := by
 unfold LvK
 rw [if_neg (by omega), if_neg (by omega), if_neg (by omega), if_neg (by omega)]
theorem bnd_le4 (s : List UInt8) : bnd s ≤ 4 := by unfold bnd; repeat (first | (split; · omega) | omega)
/-- Reading on by powers. -/
def cl (o : Rd) (d : Nat) : Nat → Nat → T → List Tk → Rs
 | 0, _, x, ts => .ok (x, ts)
 | f + 1, k, x, ts => if (hd ts).1 = 3 ∧ k ≤ bnd (hd ts).2.2.1 then (match LvK o (bnd (hd ts).2.2.1 + 1) d ts.tail with
   | .error e => .error e
   | .ok (y, ts2) => cl o d f k (tBin (hd ts).2.2.1 x y) ts2) else .ok (x, ts)
theorem LvK_sh {n : Nat} {o : Rd} (ho : ShF n o) (k : Nat) : ShF n (LvK o k) := by
 unfold LvK
 split
 · exact frm_sh ho
 · split
   · exact lv_sh (lv_sh (lv_sh ho 4) 3) 2
   · split
     · exact lv_sh (lv_sh ho 4) 3
     · split
       · exact lv_sh ho 4
       · exact ho
theorem tk1_ok {d : Nat} (hd4 : d ≤ 40) (ts : List Tk) : tk1 d ts = .ok ts.tail := by unfold tk1; rw [if_neg (by omega)]
theorem tail_sh {ts : List Tk} (h : Nz ts) (h3 : (hd ts).1 = 3) : Nz ts.tail ∧ ts.tail.length + 1 = ts.length := h.tail (by rw [h3]; decide)
/-- The fuel plays no part. -/
theorem lp_fuel {n : Nat} {F : Rd} (hF : ShF n F) (k d : Nat) : ∀ (f g : Nat) (x : T) (ts : List Tk), Nz ts → ts.length ≤ n → ts.length ≤ f → ts.length ≤ g → lp F k d f x ts = lp F k d g x ts := by
 intro f
 induction f with
 | zero => intro g x ts h _ h1 _; have := h.pos; omega
 | succ f ih =>
   intro g x ts h hn h1 h2
   cases g with
   | zero => have := h.pos; omega
   | succ g =>
     unfold lp
     split
     · rename_i hk
       cases ht : tk1 d ts with
       | error e => rfl
       | ok ts1 =>
         have s1 := tk1_sh h (by rw [hk.1]; decide) ht
         show (match F d ts1 with | .error e => (.error e : Rs) | .ok (y, ts2) => lp F k d f (tBin (hd ts).2.2.1 x y) ts2) = (match F d ts1 with | .error e => (.error e : Rs) | .ok (y, ts2) => lp F k d g (tBin (hd ts).2.2.1 x y) ts2)
         cases hr : F d ts1 with
         | error e => rfl
         | ok p =>
           obtain ⟨y, ts2⟩ := p
           have s2 := hF d ts1 s1.1 (by have := s1.2; omega) y ts2 hr
           have a1 := s1.2
           have a2 := s2.2
           exact ih g _ ts2 s2.1 (by omega) (by omega) (by omega)
     · rfl
theorem cl_fuel {n : Nat} {o : Rd} (ho : ShF n o) (k d : Nat) : ∀ (f g : Nat) (x : T) (ts : List Tk), Nz ts → ts.length ≤ n → ts.length ≤ f → ts.length ≤ g → cl o d f k x ts = cl o d g k x ts := by
 intro f
 induction f with
 | zero => intro g x ts h _ h1 _; have := h.pos; omega
 | succ f ih =>
   intro g x ts h hn h1 h2
   cases g with
   | zero => have := h.pos; omega
   | succ g =>
     unfold cl
     split
     · rename_i hk
       have s1 := tail_sh h hk.1
       cases hr : LvK o (bnd (hd ts).2.2.1 + 1) d ts.tail with
       | error e => rfl
       | ok p =>
         obtain ⟨y, ts2⟩ := p
         have s2 := LvK_sh ho _ d ts.tail s1.1 (by omega) y ts2 hr
         have a2 := s2.2
         exact ih g _ ts2 s2.1 (by omega) (by omega) (by omega)
     · rfl
/-- Behind it stands no sign that binds so tightly. -/
theorem cl_stop {n : Nat} {o : Rd} (ho : ShF n o) (k d : Nat) : ∀ (f : Nat) (x y : T) (ts ts' : List Tk), Nz ts → ts.length ≤ n → ts.length ≤ f → cl o d f k x ts = .ok (y, ts') → ¬ ((hd ts').1 = 3 ∧ k ≤ bnd (hd ts').2.2.1) := by
 intro f
 induction f with
 | zero => intro x y ts ts' h _ h1 _; have := h.pos; omega
 | succ f ih =>
   intro x y ts ts' h hn h1 e
   unfold cl at e
   split at e
   · rename_i hk
     have s1 := tail_sh h hk.1
     split at e
     · cases e
     · rename_i z ts2 hr
       have s2 := LvK_sh ho _ d ts.tail s1.1 (by omega) z ts2 hr
       have a2 := s2.2
       exact ih _ _ ts2 ts' s2.1 (by omega) (by omega) e
   · rename_i hk
     cases e; exact hk
def thenR (r : Rs) (g : T → List Tk → Rs) : Rs := match r with
 | .error e => .error e
 | .ok (x, ts) => g x ts
/-- What a level is by powers. -/
def Clm (o : Rd) (n d k : Nat) : Prop := ∀ ts, Nz ts → ts.length ≤ n → LvK o k d ts = thenR (o d ts) (fun x ts1 => cl o d ts1.length k x ts1)
theorem clm_bind {n d k : Nat} {o : Rd} (ho : ShF n o) (hd4 : d ≤ 40) (hC : Clm o n d (k + 1)) : ∀ (f : Nat) (x : T) (ts : List Tk), Nz ts → ts.length ≤ n → ts.length ≤ f →
   thenR (cl o d f (k + 1) x ts) (fun x' ts' => lp (LvK o (k + 1)) k d ts'.length x' ts') = cl o d f k x ts := by
 intro f
 induction f with
 | zero => intro x ts h _ h1 ; have := h.pos; omega
 | succ f ih =>
   intro x ts h hn hf
   by_cases h3 : (hd ts).1 = 3
   · have s1 := tail_sh h h3
     by_cases hb : k + 1 ≤ bnd (hd ts).2.2.1
     · rw [cl, cl, if_pos ⟨h3, hb⟩, if_pos ⟨h3, by omega⟩]
       cases hr : LvK o (bnd (hd ts).2.2.1 + 1) d ts.tail with
       | error e => rfl
       | ok p =>
         obtain ⟨y, ts2⟩ := p
         have s2 := LvK_sh ho _ d ts.tail s1.1 (by omega) y ts2 hr
         have a2 := s2.2
         exact ih _ ts2 s2.1 (by omega) (by omega)
     · by_cases hk : bnd (hd ts).2.2.1 = k
       · rw [cl, cl, if_neg (by rintro ⟨_, h⟩; omega), if_pos ⟨h3, by omega⟩]
         show lp (LvK o (k + 1)) k d ts.length x ts = _
         obtain ⟨g, hg⟩ : ∃ g, ts.length = g + 1 := ⟨ts.length - 1, by omega⟩
         rw [hg, lp, if_pos ⟨h3, hk⟩, tk1_ok hd4, hk]
         show (match LvK o (k + 1) d ts.tail with | .error e => (.error e : Rs) | .ok (y, ts2) => lp (LvK o (k + 1)) k d g (tBin (hd ts).2.2.1 x y) ts2) = _
         cases hr : LvK o (k + 1) d ts.tail with
         | error e => rfl
         | ok p =>
           obtain ⟨y, ts2⟩ := p
           have s2 := LvK_sh ho _ d ts.tail s1.1 (by omega) y ts2 hr
           have a2 := s2.2
           show lp (LvK o (k + 1)) k d g (tBin (hd ts).2.2.1 x y) ts2 = cl o d f k (tBin (hd ts).2.2.1 x y) ts2
           rw [← ih _ ts2 s2.1 (by omega) (by omega)]
           have hstop : ¬ ((hd ts2).1 = 3 ∧ k + 1 ≤ bnd (hd ts2).2.2.1) := by
             rw [hC ts.tail s1.1 (by omega)] at hr
             cases ho1 : o d ts.tail with
             | error e => rw [ho1] at hr; cases hr
             | ok q =>
               obtain ⟨z, ts3⟩ := q
               rw [ho1] at hr
               have s3 := ho d ts.tail s1.1 (by omega) z ts3 ho1
               have a3 := s3.2
               exact cl_stop ho (k + 1) d _ _ _ ts3 ts2 s3.1 (by omega) (Nat.le_refl _) hr
           have hcl : cl o d f (k + 1) (tBin (hd ts).2.2.1 x y) ts2 = .ok (tBin (hd ts).2.2.1 x y, ts2) := by
             cases f with
             | zero => rfl
             | succ f => rw [cl, if_neg hstop]
           rw [hcl]
           exact lp_fuel (LvK_sh ho _) k d g ts2.length _ ts2 s2.1 (by omega) (by omega) (Nat.le_refl _)
       · rw [cl, cl, if_neg (by rintro ⟨_, h⟩; omega), if_neg (by rintro ⟨_, h⟩; omega)]
         show lp (LvK o (k + 1)) k d ts.length x ts = _
         obtain ⟨g, hg⟩ : ∃ g, ts.length = g + 1 := ⟨ts.length - 1, by omega⟩
         rw [hg, lp, if_neg (by rintro ⟨_, h⟩; exact hk h)]
   · rw [cl, cl, if_neg (by rintro ⟨h, _⟩; exact h3 h), if_neg (by rintro ⟨h, _⟩; exact h3 h)]
     show lp (LvK o (k + 1)) k d ts.length x ts = _
     obtain ⟨g, hg⟩ : ∃ g, ts.length = g + 1 := ⟨ts.length - 1, by have := h.pos; omega⟩
     rw [hg, lp, if_neg (by rintro ⟨h, _⟩; exact h3 h)]
theorem clm5 (o : Rd) (n d : Nat) (ho : ShF n o) : Clm o n d 5 := by
 intro ts h hn
 rw [LvK_top o 5 (by omega)]
 cases ho1 : o d ts with
 | error e => rfl
 | ok q =>
   obtain ⟨z, ts3⟩ := q
   have s3 := ho d ts h hn z ts3 ho1
   show _ = cl o d ts3.length 5 z ts3
   obtain ⟨g, hg⟩ : ∃ g, ts3.length = g + 1 := ⟨ts3.length - 1, by have := s3.1.pos; omega⟩
   rw [hg, cl, if_neg (by rintro ⟨_, h⟩; have := bnd_le4 (hd ts3).2.2.1; omega)]
theorem clm_down {n d k : Nat} {o : Rd} (ho : ShF n o) (hd4 : d ≤ 40) (h1 : 1 ≤ k) (h4 : k ≤ 4) (hC : Clm o n d (k + 1)) : Clm o n d k := by
 intro ts h hn
 rw [LvK_step o k h1 h4]
 unfold lv
 rw [hC ts h hn]
 cases ho1 : o d ts with
 | error e => rfl
 | ok q =>
   obtain ⟨z, ts3⟩ := q
   have s3 := ho d ts h hn z ts3 ho1
   have a3 := s3.2
   show (match cl o d ts3.length (k + 1) z ts3 with | .error e => (.error e : Rs) | .ok (x, ts1) => lp (LvK o (k + 1)) k d ts1.length x ts1) = cl o d ts3.length k z ts3
   exact clm_bind ho hd4 hC ts3.length z ts3 s3.1 (by omega) (Nat.le_refl _)
/-- A level is read by powers. -/
theorem clm_all {n d : Nat} {o : Rd} (ho : ShF n o) (hd4 : d ≤ 40) (k : Nat) (h1 : 1 ≤ k) (h5 : k ≤ 5) : Clm o n d k := by
 have c5 := clm5 o n d ho
 have c4 := clm_down ho hd4 (by decide) (by decide) c5
 have c3 := clm_down ho hd4 (by decide) (by decide) c4
 have c2 := clm_down ho hd4 (by decide) (by decide) c3
 have c1 := clm_down ho hd4 (by decide) (by decide) c2
 have hh : k = 1 ∨ k = 2 ∨ k = 3 ∨ k = 4 ∨ k = 5 := by omega
 rcases hh with rfl | rfl | rfl | rfl | rfl <;> assumption
/-- Too deep, nothing is read. -/
theorem O_deep (n d : Nat) (h : 40 < d) (ts : List Tk) : ∃ e, O n d ts = .error e := by
 have ht : ∀ ts, tk1 d ts = .error (ft ts true) := fun ts => if_pos h
 cases n with
 | zero => exact ⟨_, rfl⟩
 | succ n =>
   show ∃ e, opn (frm (O n)) (O n) d ts = .error e
   unfold opn
   split
   · rw [ht]; exact ⟨_, rfl⟩
   · unfold smp one
     rw [ht]
     split
     · exact ⟨_, rfl⟩
     · split
       · exact ⟨_, rfl⟩
       · split
         · exact ⟨_, rfl⟩
         · split
           · unfold wrd one
             rw [ht]
             split
             · exact ⟨_, rfl⟩
             · split
               · exact ⟨_, rfl⟩
               · split
                 · exact ⟨_, rfl⟩
                 · have hr : ∃ e, refr d ts = .error e := by
                     unfold refr
                     rw [ht]
                     split <;> exact ⟨_, rfl⟩
                   obtain ⟨e, he⟩ := hr
                   rw [he]; exact ⟨_, rfl⟩
           · have hr : ∃ e, pass1 [40] d ts = .error e := by
               unfold pass1
               rw [ht]
               split <;> exact ⟨_, rfl⟩
             obtain ⟨e, he⟩ := hr
             unfold brk
             rw [he]; exact ⟨_, rfl⟩
theorem LvK_deep (n d k : Nat) (h : 40 < d) (ts : List Tk) : ∃ e, LvK (O n) k d ts = .error e := by
 have one : ∀ (F : Rd) (j : Nat), (∀ ts, ∃ e, F d ts = .error e) → ∀ ts, ∃ e, lv F j d ts = .error e := by
   intro F j hF ts
   obtain ⟨e, he⟩ := hF ts
   exact ⟨e, by unfold lv; rw [he]⟩
 have o0 := O_deep n d h
 unfold LvK
 split
 · exact one _ _ (one _ _ (one _ _ (one _ _ o0))) ts
 · split
   · exact one _ _ (one _ _ (one _ _ o0)) ts
   · split
     · exact one _ _ (one _ _ o0) ts
     · split
       · exact one _ _ o0 ts
       · exact o0 ts
end Go.Proofs.YtcggiljlilbdfaaGreatDoor

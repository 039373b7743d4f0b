/-
 A tree that is written is read as it was. Plain mathematics: no program in sight.
 A tree without what plays no part is the same tree. Plain mathematics: no program in sight.
 What is read of a formula: well made, no greater than its words, and no deeper when it is written. Plain mathematics: no program in sight.
 Two formulas that are read are one tree just if they are written as one text. Plain mathematics: no program in sight.
-/
import Derived.Test.YtcggiljlilbdfaaGreatDoorQ32
import Derived.Test.YtcggiljlilbdfaaGreatDoorQ33
import Derived.Test.YtcggiljlilbdfaaGreatDoorQ34
import Derived.Test.YtcggiljlilbdfaaGreatDoorQ29
namespace Go.Proofs.YtcggiljlilbdfaaGreatDoor
open Go.RowKit
set_option maxHeartbeats 2000000

/-- A tree without what plays no part. -/
def nf : Nat → T → T
 | 0, _ => tz
 | n + 1, t => if t.k = 0 then tNum t.n else if t.k = 1 then tText t.s else if t.k = 2 then tBool t.n else if t.k = 3 then tErr t.e else if t.k = 4 then tRef t.r else if t.k = 5 then tRange t.r t.q else if t.k = 6 then tNeg (nf n (hdT t.l)) else if t.k = 7 then tBin t.s (nf n (hdT t.l)) (nf n (sdT t.l)) else tCall t.s (t.l.map (nf n))
def b1 (b : Bool) : Nat := if b then 1 else 0
/-- How deep a tree that is written lies in brackets, calls and signs. -/
def dpT : Nat → T → Nat
 | 0, _ => 0
 | n + 1, t => if t.k = 6 then 1 + (b1 (loose 5 (hdT t.l)) + dpT n (hdT t.l)) else if t.k = 7 then max (b1 (loose (bnd t.s) (hdT t.l)) + dpT n (hdT t.l)) (b1 (loose (bnd t.s + 1) (sdT t.l)) + dpT n (sdT t.l)) else if t.k = 8 then 1 + maxD (dpT n) t.l else 0
theorem map_cons2 {us : List Tk} {x : Sk} {xs : List Sk} (h : us.map stp = x :: xs) : ∃ a vs, us = (x.1, a, x.2) :: vs ∧ vs.map stp = xs := by
 cases us with
 | nil => cases h
 | cons u vs =>
   rw [List.map_cons] at h
   injection h with h1 h2
   refine ⟨u.2.1, vs, ?_, h2⟩
   subst h1
   rfl
theorem map_one2 {us : List Tk} {x : Sk} (h : us.map stp = [x]) : ∃ a, us = [(x.1, a, x.2)] := by
 obtain ⟨a, vs, h1, h2⟩ := map_cons2 h
 rw [List.map_eq_nil_iff] at h2
 subst h2
 exact ⟨a, h1⟩
theorem map_app2 {us : List Tk} {xs ys : List Sk} (h : us.map stp = xs ++ ys) : ∃ vs ws, us = vs ++ ws ∧ vs.map stp = xs ∧ ws.map stp = ys := by
 obtain ⟨vs, ws, h1, h2, h3⟩ := List.map_eq_append_iff.1 h
 exact ⟨vs, ws, h1, h2, h3⟩
theorem Nz.pre {ts : List Tk} (h : Nz ts) (us : List Tk) : Nz (us ++ ts) := by
 obtain ⟨p, t, rfl, h1⟩ := h
 exact ⟨us ++ p, t, by rw [List.append_assoc], h1⟩
theorem Nz.con {ts : List Tk} (h : Nz ts) (u : Tk) : Nz (u :: ts) := h.pre [u]
theorem O_num {m d : Nat} (h : d ≤ 40) (a v e : Int) (s : List UInt8) (rest : List Tk) : O (m + 1) d ((0, a, s, v, e) :: rest) = .ok (tNum v, rest) := by
 show opn (frm (O m)) (O m) d _ = _
 simp [opn, smp, one, isSg, hd, tk1_ok h]
theorem O_txt {m d : Nat} (h : d ≤ 40) (a v e : Int) (s : List UInt8) (rest : List Tk) : O (m + 1) d ((1, a, s, v, e) :: rest) = .ok (tText s, rest) := by
 show opn (frm (O m)) (O m) d _ = _
 simp [opn, smp, one, isSg, hd, tk1_ok h]
theorem O_err {m d : Nat} (h : d ≤ 40) (a v e : Int) (s : List UInt8) (rest : List Tk) : O (m + 1) d ((4, a, s, v, e) :: rest) = .ok (tErr e, rest) := by
 show opn (frm (O m)) (O m) d _ = _
 simp [opn, smp, one, isSg, hd, tk1_ok h]
theorem O_true {m d : Nat} (h : d ≤ 40) (a v e : Int) (rest : List Tk) : O (m + 1) d ((2, a, wTrue, v, e) :: rest) = .ok (tBool 1, rest) := by
 show opn (frm (O m)) (O m) d _ = _
 simp [opn, smp, wrd, one, isSg, hd, tk1_ok h]
theorem O_false {m d : Nat} (h : d ≤ 40) (a v e : Int) (rest : List Tk) : O (m + 1) d ((2, a, wFalse, v, e) :: rest) = .ok (tBool 0, rest) := by
 show opn (frm (O m)) (O m) d _ = _
 have hne : ¬ wFalse = wTrue := by decide
 simp [opn, smp, wrd, one, isSg, hd, tk1_ok h, hne]
theorem rf_back {r : Rf} (h : inB r.1 r.2.1 = true) : okP (rfL r) = true ∧ rfP (rfL r) = r := by
 obtain ⟨h1, h2⟩ := print_read r.1 r.2.1 r.2.2.1 r.2.2.2 h
 have e : rfL r = printR r.1 r.2.1 r.2.2.1 r.2.2.2 := rfl
 rw [e]
 refine ⟨h1, ?_⟩
 unfold prV at h2
 rw [if_pos h1] at h2
 unfold refD at h2
 simp at h2
 obtain ⟨q1, q2, q3, q4⟩ := h2
 unfold rfP
 rw [q1, q2, q3, q4]
theorem O_rf {m d : Nat} (h : d ≤ 40) {r : Rf} (hr : inB r.1 r.2.1 = true) (a v e : Int) (rest : List Tk) : O (m + 1) d ((2, a, rfL r, v, e) :: rest) = .ok (tRef r, rest) := by
 obtain ⟨h1, h2⟩ := rf_back hr
 have := O_ref (n := m) h (ts := (2, a, rfL r, v, e) :: rest) rfl h1
 rw [this]
 show Except.ok (tRef (rfP (rfL r)), rest) = _
 rw [h2]
theorem O_neg {m d : Nat} (h : d ≤ 40) (a v e : Int) (ts : List Tk) {x : T} {rest : List Tk} (hO : O m (d + 1) ts = .ok (x, rest)) : O (m + 1) d ((3, a, [45], v, e) :: ts) = .ok (tNeg x, rest) := by
 show opn (frm (O m)) (O m) d _ = _
 have hs : isSg [45] ((3, a, [45], v, e) :: ts) = true := by simp [isSg, hd]
 unfold opn
 rw [if_pos hs, tk1_ok h]
 show (match O m (d + 1) ts with | .error e => (.error e : Rs) | .ok (x, ts2) => .ok (tNeg x, ts2)) = _
 rw [hO]
theorem pass_ok {p : List UInt8} {d : Nat} (h : d ≤ 40) (a v e : Int) (ts : List Tk) : pass1 p d ((3, a, p, v, e) :: ts) = .ok ts := by
 unfold pass1
 have : isSg p ((3, a, p, v, e) :: ts) = true := by simp [isSg, hd]
 rw [if_pos this, tk1_ok h]
 rfl
theorem brk_ok {F : Rd} {d : Nat} (h : d ≤ 40) {ts : List Tk} {a v e b v' e' : Int} {x : T} {rest : List Tk} (hF : F (d + 1) ts = .ok (x, (3, b, [41], v', e') :: rest)) : brk F d ((3, a, [40], v, e) :: ts) = .ok (x, rest) := by
 unfold brk
 rw [pass_ok h]
 show (match F (d + 1) ts with | .error e => (.error e : Rs) | .ok (x, ts2) => match pass1 [41] d ts2 with | .error e => .error e | .ok ts3 => .ok (x, ts3)) = _
 rw [hF]
 show (match pass1 [41] d ((3, b, [41], v', e') :: rest) with | .error e => (.error e : Rs) | .ok ts3 => .ok (x, ts3)) = _
 rw [pass_ok h]
theorem O_brk {m d : Nat} (h : d ≤ 40) {ts : List Tk} {a v e b v' e' : Int} {x : T} {rest : List Tk} (hF : frm (O m) (d + 1) ts = .ok (x, (3, b, [41], v', e') :: rest)) : O (m + 1) d ((3, a, [40], v, e) :: ts) = .ok (x, rest) := by
 show opn (frm (O m)) (O m) d _ = _
 have := brk_ok h (a := a) (v := v) (e := e) hF
 simp [opn, smp, isSg, hd]
 exact this
theorem O_call {m d p q : Nat} (h : d ≤ 40) {s : List UInt8} (hk : kno s = some (p, q)) {ts : List Tk} {a v e a1 v1 e1 b v' e' : Int} {l : List T} {rest : List Tk} (hF : args (frm (O m)) p q (d + 1) ts = .ok (l, (3, b, [41], v', e') :: rest)) : O (m + 1) d ((2, a, s, v, e) :: (3, a1, [40], v1, e1) :: ts) = .ok (tCall s l, rest) := by
 show opn (frm (O m)) (O m) d _ = _
 obtain ⟨_, _, _, _, n1, n2⟩ := kno_wd hk
 have hc : call (frm (O m)) s p q (d + 1) ts = .ok (tCall s l, (3, b, [41], v', e') :: rest) := by unfold call; rw [hF]
 have := brk_ok (F := call (frm (O m)) s p q) h (a := a1) (v := v1) (e := e1) hc
 simp [opn, smp, wrd, isSg, hd, n1, n2, hk, tk1_ok h]
 exact this
theorem cl_halt {o : Rd} {d f k : Nat} {x : T} {ts : List Tk} (h : ¬ ((hd ts).1 = 3 ∧ k ≤ bnd (hd ts).2.2.1)) : cl o d f k x ts = .ok (x, ts) := by
 cases f with
 | zero => rfl
 | succ f => rw [cl, if_neg h]
theorem lv_of_O {m d k : Nat} (h : d ≤ 40) (h1 : 1 ≤ k) (h5 : k ≤ 5) {ts rest : List Tk} {x : T} (hz : Nz ts) (hn : ts.length ≤ m) (hO : O m d ts = .ok (x, rest)) : LvK (O m) k d ts = cl (O m) d rest.length k x rest := by
 rw [clm_all (O_sh m) h k h1 h5 ts hz hn, hO]
 rfl
/-- What is read of a tree that is written. -/
def Rdb (n : Nat) (t : T) : Prop := ∀ (m d : Nat) (us rest : List Tk), us.map stp = tkL n t → Nz rest → (us ++ rest).length ≤ m → d + dpT n t ≤ 40 →
 (t.k ≠ 7 → O m d (us ++ rest) = .ok (nf n t, rest)) ∧
 (t.k = 7 → ∀ k, 1 ≤ k → k ≤ bnd t.s → ¬ ((hd rest).1 = 3 ∧ bnd t.s < bnd (hd rest).2.2.1) → LvK (O m) k d (us ++ rest) = cl (O m) d rest.length k (nf n t) rest)
theorem brk_read {n : Nat} {x : T} (hx : Rdb n x) (k7 : x.k = 7) (hb : bnd x.s ≠ 0) (m d : Nat) (us rest : List Tk) (hu : us.map stp = (3, [40], 0, 0) :: (tkL n x ++ [(3, [41], 0, 0)])) (hz : Nz rest) (hn : (us ++ rest).length ≤ m) (hdp : d + (1 + dpT n x) ≤ 40) : O m d (us ++ rest) = .ok (nf n x, rest) := by
 obtain ⟨a, vs, rfl, hv⟩ := map_cons2 hu
 obtain ⟨ws, cs, rfl, hw, hc⟩ := map_app2 hv
 obtain ⟨b, rfl⟩ := map_one2 hc
 obtain ⟨m, rfl⟩ : ∃ k, m = k + 1 := ⟨m - 1, by simp at hn; omega⟩
 have hc2 : ¬ ((hd ((3, b, [41], 0, 0) :: rest : List Tk)).1 = 3 ∧ 1 ≤ bnd (hd ((3, b, [41], 0, 0) :: rest : List Tk)).2.2.1) := by
   rintro ⟨_, h⟩
   exact absurd h (by show ¬ 1 ≤ bnd [41]; decide)
 have h1 := (hx m (d + 1) ws ((3, b, [41], 0, 0) :: rest) hw (hz.con _) (by simp at hn ⊢; omega) (by omega)).2 k7 1 (by omega) (by omega) (by
   rintro ⟨_, h⟩
   have : bnd (hd ((3, b, [41], 0, 0) :: rest : List Tk)).2.2.1 = 0 := by show bnd [41] = 0; decide
   rw [this] at h
   omega)
 have h2 : frm (O m) (d + 1) (ws ++ (3, b, [41], 0, 0) :: rest) = .ok (nf n x, (3, b, [41], 0, 0) :: rest) := by
   show LvK (O m) 1 (d + 1) _ = _
   rw [h1, cl_halt hc2]
 have := O_brk (m := m) (d := d) (by omega) (a := a) (v := 0) (e := 0) h2
 rw [← this]
 simp
theorem loose_k {k : Nat} {x : T} (h : loose k x = true) : x.k = 7 ∧ bnd x.s < k := by
 unfold loose at h
 simpa using h
theorem tight_k {k : Nat} {x : T} (h : loose k x = false) (h7 : x.k = 7) : k ≤ bnd x.s := by
 unfold loose at h
 simp [h7] at h
 exact h
theorem well_bnd {n : Nat} {x : T} (hw : wellT n x = true) (k7 : x.k = 7) : bnd x.s ≠ 0 := by
 cases n with
 | zero => cases hw
 | succ n => obtain ⟨_, _, _, h, _⟩ := well7 hw k7; exact h
theorem O_part {n : Nat} {x : T} (hx : Rdb n x) (hw : wellT n x = true) (m d : Nat) (us rest : List Tk) (hu : us.map stp = bkT (loose 5 x) (tkL n x)) (hz : Nz rest) (hn : (us ++ rest).length ≤ m) (hdp : d + (b1 (loose 5 x) + dpT n x) ≤ 40) : O m d (us ++ rest) = .ok (nf n x, rest) := by
 cases hl : loose 5 x with
 | true =>
   rw [hl] at hu hdp
   exact brk_read hx (loose_k hl).1 (well_bnd hw (loose_k hl).1) m d us rest hu hz hn hdp
 | false =>
   rw [hl] at hu hdp
   refine (hx m d us rest hu hz hn (by simp [b1] at hdp; omega)).1 ?_
   intro h7
   have := tight_k hl h7
   have := bnd_le4 x.s
   omega
theorem lvl {n : Nat} {x : T} (hx : Rdb n x) (hw : wellT n x = true) (m d : Nat) (us rest : List Tk) (k j : Nat) (hu : us.map stp = bkT (loose j x) (tkL n x)) (hz : Nz rest) (hn : (us ++ rest).length ≤ m) (hdp : d + (b1 (loose j x) + dpT n x) ≤ 40) (h1 : 1 ≤ k) (hkj : k ≤ j) (hj : j ≤ 5)
   (hs : loose j x = false → x.k = 7 → ¬ ((hd rest).1 = 3 ∧ bnd x.s < bnd (hd rest).2.2.1)) : LvK (O m) k d (us ++ rest) = cl (O m) d rest.length k (nf n x) rest := by
 have hd4 : d ≤ 40 := by omega
 cases hl : loose j x with
 | true =>
   rw [hl] at hu hdp
   exact lv_of_O hd4 h1 (by omega) (hz.pre us) hn (brk_read hx (loose_k hl).1 (well_bnd hw (loose_k hl).1) m d us rest hu hz hn hdp)
 | false =>
   rw [hl] at hu hdp
   have hh := hx m d us rest hu hz hn (by simp [b1] at hdp; omega)
   by_cases h7 : x.k = 7
   · exact hh.2 h7 k h1 (by have := tight_k hl h7; omega) (hs hl h7)
   · exact lv_of_O hd4 h1 (by omega) (hz.pre us) hn (hh.1 h7)
/-- Arguments. -/
def Arg (n : Nat) (x : T) : Prop := ∀ (m d : Nat) (us rest : List Tk), us.map stp = tkL n x → Nz rest → (us ++ rest).length ≤ m → d + dpT n x ≤ 40 → ((hd rest).1 = 3 ∧ ((hd rest).2.2.1 = [44] ∨ (hd rest).2.2.1 = [41])) → argm (frm (O m)) d (us ++ rest) = .ok (nf n x, rest)
theorem arg_of {n : Nat} {x : T} (hx : Rdb n x) (hw : wellT n x = true) : Arg n x := by
 intro m d us rest hu hz hn hdp hs
 have hl : loose 1 x = false := by
   cases h : loose 1 x with
   | false => rfl
   | true =>
     obtain ⟨h7, hb⟩ := loose_k h
     have := well_bnd hw h7
     omega
 have hb0 : bnd (hd rest).2.2.1 = 0 := by rcases hs.2 with h | h <;> rw [h] <;> decide
 have h1 := lvl hx hw m d us rest 1 1 (by rw [hl]; exact hu) hz hn (by rw [hl]; simp [b1]; omega) (by omega) (by omega) (by omega) (fun _ _ h => by rw [hb0] at h; omega)
 rw [cl_halt (by rintro ⟨_, h⟩; rw [hb0] at h; omega)] at h1
 have hF : frm (O m) d (us ++ rest) = .ok (nf n x, rest) := h1
 unfold argm
 rw [hF]
 dsimp only
 rw [if_neg]
 rintro ⟨_, _, h⟩
 have := (isSg_k h).2
 rcases hs.2 with h | h <;> rw [h] at this <;> exact absurd this (by decide)
theorem arg_range {n : Nat} {x : T} (k5 : x.k = 5) (h1 : inB x.r.1 x.r.2.1 = true) (h2 : inB x.q.1 x.q.2.1 = true) : Arg (n + 1) x := by
 intro m d us rest hu hz hn hdp hs
 have ht : tkL (n + 1) x = [(2, rfL x.r, 0, 0), (3, [58], 0, 0), (2, rfL x.q, 0, 0)] := by
   unfold tkL
   rw [if_neg (by omega), if_neg (by omega), if_neg (by omega), if_neg (by omega), if_neg (by omega), if_pos k5]
 have hf : nf (n + 1) x = tRange x.r x.q := by
   unfold nf
   rw [if_neg (by omega), if_neg (by omega), if_neg (by omega), if_neg (by omega), if_neg (by omega), if_pos k5]
 rw [ht] at hu
 obtain ⟨a, vs, rfl, hv⟩ := map_cons2 hu
 obtain ⟨b, ws, rfl, hw⟩ := map_cons2 hv
 obtain ⟨c, rfl⟩ := map_one2 hw
 obtain ⟨p1, p2⟩ := rf_back h1
 obtain ⟨q1, q2⟩ := rf_back h2
 have hd4 : d ≤ 40 := by omega
 rw [argm_doc hd4 (hz.pre _) hn]
 have hc : (hd ([(2, a, rfL x.r, 0, 0), (3, b, [58], 0, 0), (2, c, rfL x.q, 0, 0)] ++ rest : List Tk)).1 = 2 ∧ okP (hd ([(2, a, rfL x.r, 0, 0), (3, b, [58], 0, 0), (2, c, rfL x.q, 0, 0)] ++ rest : List Tk)).2.2.1 = true ∧ isSg [58] ([(2, a, rfL x.r, 0, 0), (3, b, [58], 0, 0), (2, c, rfL x.q, 0, 0)] ++ rest : List Tk).tail = true := ⟨rfl, p1, by rfl⟩
 rw [if_pos hc]
 have hr : refr d ((2, c, rfL x.q, 0, 0) :: rest) = .ok (x.q, rest) := by
   unfold refr
   have hk : (hd ((2, c, rfL x.q, 0, 0) :: rest : List Tk)).1 = 2 ∧ okP (hd ((2, c, rfL x.q, 0, 0) :: rest : List Tk)).2.2.1 = true := ⟨rfl, q1⟩
   rw [if_pos hk, tk1_ok hd4]
   show Except.ok (rfP (rfL x.q), rest) = _
   rw [q2]
 show (match refr d ((2, c, rfL x.q, 0, 0) :: rest) with | .error e => (.error e : Rs) | .ok (q, ts3) => .ok (tRange (rfP (rfL x.r)) q, ts3)) = _
 rw [hr, p2, hf]
theorem joinT_cons (a : List Sk) (r : List (List Sk)) : joinT (a :: r) = a ++ (r.map (fun u => ((3, [44], 0, 0) : Sk) :: u)).flatten := by
 induction r generalizing a with
 | nil => simp [joinT]
 | cons b r ih => rw [joinT, ih b]; simp
/-- The arguments that are left. -/
theorem argl_read (n m d p q : Nat) (close : Tk) (hc : close.1 = 3 ∧ close.2.2.1 = [41]) (rest : List Tk) (hz : Nz rest) : ∀ (r : List T) (done : List T) (us : List Tk) (f : Nat), (∀ x ∈ r, Arg n x) → (∀ x ∈ r, d + dpT n x ≤ 40) → d ≤ 40 → us.map stp = (r.map (fun x => ((3, [44], 0, 0) : Sk) :: tkL n x)).flatten → (us ++ close :: rest).length ≤ m → (us ++ close :: rest).length ≤ f → p ≤ done.length + r.length → done.length + r.length ≤ q →
   argl (frm (O m)) p q d f done (us ++ close :: rest) = .ok (done ++ r.map (nf n), close :: rest) := by
 intro r
 induction r with
 | nil =>
   intro done us f _ _ _ hu hn hf hp hq
   have : us = [] := List.map_eq_nil_iff.1 hu
   subst this
   cases f with
   | zero => simp at hf
   | succ f =>
     rw [argl, if_neg]
     · simp
     · rintro (h | ⟨_, h⟩)
       · simp at hp; omega
       · have := (isSg_k h).2
         rw [List.nil_append] at this
         change close.2.2.1 = _ at this
         rw [hc.2] at this
         exact absurd this (by decide)
 | cons x r ih =>
   intro done us f hA hD hd4 hu hn hf hp hq
   rw [List.map_cons, List.flatten_cons, List.cons_append] at hu
   obtain ⟨a, vs, rfl, hv⟩ := map_cons2 hu
   obtain ⟨ux, ur, rfl, h1, h2⟩ := map_app2 hv
   cases f with
   | zero => simp at hf
   | succ f =>
     have hs : isSg [44] ((3, a, [44], 0, 0) :: (ux ++ ur) ++ close :: rest : List Tk) = true := by rfl
     rw [argl, if_pos (.inr ⟨by simp at hq; omega, hs⟩)]
     have hp1 : pass1 [44] d ((3, a, [44], 0, 0) :: (ux ++ ur) ++ close :: rest : List Tk) = .ok (ux ++ (ur ++ close :: rest)) := by
       rw [List.cons_append, pass_ok hd4, List.append_assoc]
     have hh : (hd (ur ++ close :: rest)).1 = 3 ∧ ((hd (ur ++ close :: rest)).2.2.1 = [44] ∨ (hd (ur ++ close :: rest)).2.2.1 = [41]) := by
       cases r with
       | nil =>
         have : ur = [] := List.map_eq_nil_iff.1 h2
         subst this
         exact ⟨hc.1, .inr hc.2⟩
       | cons y r =>
         rw [List.map_cons, List.flatten_cons, List.cons_append] at h2
         obtain ⟨a2, v2, rfl, _⟩ := map_cons2 h2
         exact ⟨rfl, .inl rfl⟩
     have hm : argm (frm (O m)) d (ux ++ (ur ++ close :: rest)) = .ok (nf n x, ur ++ close :: rest) := hA x List.mem_cons_self m d ux (ur ++ close :: rest) h1 ((hz.con close).pre ur) (by simp at hn ⊢; omega) (hD x List.mem_cons_self) hh
     rw [hp1]
     show (match argm (frm (O m)) d (ux ++ (ur ++ close :: rest)) with | .error e => (.error e : Except Ft (List T × List Tk)) | .ok (x, ts2) => argl (frm (O m)) p q d f (done ++ [x]) ts2) = _
     rw [hm]
     show argl (frm (O m)) p q d f (done ++ [nf n x]) (ur ++ close :: rest) = _
     rw [ih (done ++ [nf n x]) ur f (fun y hy => hA y (List.mem_cons_of_mem _ hy)) (fun y hy => hD y (List.mem_cons_of_mem _ hy)) hd4 h2 (by simp at hn ⊢; omega) (by simp at hf ⊢; omega) (by simp at hp ⊢; omega) (by simp at hq ⊢; omega)]
     simp
theorem maxD_mem (f : T → Nat) (l : List T) (x : T) (h : x ∈ l) : f x ≤ maxD f l := by
 induction l with
 | nil => cases h
 | cons a r ih =>
   unfold maxD
   rcases List.mem_cons.1 h with rfl | h
   · omega
   · have := ih h; omega
/-- A tree that is written is read. -/
theorem rdb_all (n : Nat) : ∀ t : T, Hr n t → wellT n t = true → Rdb n t := by
 induction n with
 | zero => intro t h; cases h
 | succ n ih =>
   intro t hr hw m d us rest hu hz hn hdp
   have hk := well_k hw
   have hm1 : 1 ≤ m := by have := hz.pos; simp at hn; omega
   obtain ⟨m, rfl⟩ : ∃ k, m = k + 1 := ⟨m - 1, by omega⟩
   by_cases k0 : t.k = 0
   · refine ⟨fun _ => ?_, fun h => by omega⟩
     unfold tkL at hu
     unfold nf
     rw [if_pos k0] at hu ⊢
     obtain ⟨a, rfl⟩ := map_one2 hu
     exact O_num (by omega) _ _ _ _ _
   by_cases k1 : t.k = 1
   · refine ⟨fun _ => ?_, fun h => by omega⟩
     unfold tkL at hu
     unfold nf
     rw [if_neg k0, if_pos k1] at hu ⊢
     obtain ⟨a, rfl⟩ := map_one2 hu
     exact O_txt (by omega) _ _ _ _ _
   by_cases k2 : t.k = 2
   · refine ⟨fun _ => ?_, fun h => by omega⟩
     unfold tkL at hu
     unfold nf
     rw [if_neg k0, if_neg k1, if_pos k2] at hu ⊢
     obtain ⟨a, rfl⟩ := map_one2 hu
     by_cases hn1 : t.n = 1
     · rw [if_pos hn1, hn1]
       exact O_true (by omega) _ _ _ _
     · have h0 : t.n = 0 := by
         unfold wellT at hw
         simp [k2] at hw
         omega
       rw [if_neg hn1, h0]
       exact O_false (by omega) _ _ _ _
   by_cases k3 : t.k = 3
   · refine ⟨fun _ => ?_, fun h => by omega⟩
     unfold tkL at hu
     unfold nf
     rw [if_neg k0, if_neg k1, if_neg k2, if_pos k3] at hu ⊢
     obtain ⟨a, rfl⟩ := map_one2 hu
     exact O_err (by omega) _ _ _ _ _
   by_cases k4 : t.k = 4
   · refine ⟨fun _ => ?_, fun h => by omega⟩
     unfold tkL at hu
     unfold nf
     rw [if_neg k0, if_neg k1, if_neg k2, if_neg k3, if_pos k4] at hu ⊢
     obtain ⟨a, rfl⟩ := map_one2 hu
     exact O_rf (by omega) (by unfold wellT at hw; simpa [k4] using hw) _ _ _ _
   have k5 : ¬ t.k = 5 := by omega
   by_cases k6 : t.k = 6
   · refine ⟨fun _ => ?_, fun h => by omega⟩
     obtain ⟨x, hl, hx⟩ := well6 hw k6
     unfold tkL at hu
     unfold nf
     unfold dpT at hdp
     rw [if_neg k0, if_neg k1, if_neg k2, if_neg k3, if_neg k4, if_neg k5, if_pos k6, hl] at hu ⊢
     rw [if_pos k6, hl] at hdp
     obtain ⟨a, vs, rfl, hv⟩ := map_cons2 hu
     have hx9 := ih x (hr.2 x (by rw [hl]; simp)) hx
     have h9 := O_part hx9 hx m (d + 1) vs rest hv hz (by simp at hn ⊢; omega) (by show d + 1 + (b1 (loose 5 x) + dpT n x) ≤ 40; change d + (1 + (b1 (loose 5 x) + dpT n x)) ≤ 40 at hdp; omega)
     exact O_neg (by omega) _ _ _ _ h9
   by_cases k7 : t.k = 7
   · refine ⟨fun h => absurd k7 h, fun _ k hk1 hkb hst => ?_⟩
     obtain ⟨x, y, hl, hb, hx, hy⟩ := well7 hw k7
     unfold tkL at hu
     unfold nf
     unfold dpT at hdp
     rw [if_neg k0, if_neg k1, if_neg k2, if_neg k3, if_neg k4, if_neg k5, if_neg k6, if_pos k7, hl] at hu ⊢
     rw [if_neg k6, if_pos k7, hl] at hdp
     change d + max (b1 (loose (bnd t.s) x) + dpT n x) (b1 (loose (bnd t.s + 1) y) + dpT n y) ≤ 40 at hdp
     change us.map stp = bkT (loose (bnd t.s) x) (tkL n x) ++ (3, t.s, 0, 0) :: bkT (loose (bnd t.s + 1) y) (tkL n y) at hu
     show LvK (O (m + 1)) k d (us ++ rest) = cl (O (m + 1)) d rest.length k (tBin t.s (nf n x) (nf n y)) rest
     obtain ⟨ux, vs, rfl, h1, h2⟩ := map_app2 hu
     obtain ⟨a, uy, rfl, h3⟩ := map_cons2 h2
     have hb4 := bnd_le4 t.s
     have hx9 := ih x (hr.2 x (by rw [hl]; simp)) hx
     have hy9 := ih y (hr.2 y (by rw [hl]; simp)) hy
     have ex := lvl hx9 hx (m + 1) d ux ((3, a, t.s, 0, 0) :: (uy ++ rest)) k (bnd t.s) h1 ((hz.pre uy).con _) (by simp at hn ⊢; omega) (by omega) hk1 hkb (by omega) (fun hl7 h7 => by
       rintro ⟨_, h⟩
       have := tight_k hl7 h7
       change bnd x.s < bnd t.s at h
       omega)
     have ey := lvl hy9 hy (m + 1) d uy rest (bnd t.s + 1) (bnd t.s + 1) h3 hz (by simp at hn ⊢; omega) (by omega) (by omega) (by omega) (by omega) (fun hl7 h7 => by
       rintro ⟨h3', h⟩
       have := tight_k hl7 h7
       exact hst ⟨h3', by omega⟩)
     rw [cl_halt (by rintro ⟨h3', h⟩; exact hst ⟨h3', by omega⟩)] at ey
     have el : (ux ++ (3, a, t.s, 0, 0) :: uy) ++ rest = ux ++ (3, a, t.s, 0, 0) :: (uy ++ rest) := by simp
     rw [el, ex, List.length_cons, cl]
     have hc : (hd ((3, a, t.s, 0, 0) :: (uy ++ rest) : List Tk)).1 = 3 ∧ k ≤ bnd (hd ((3, a, t.s, 0, 0) :: (uy ++ rest) : List Tk)).2.2.1 := ⟨rfl, hkb⟩
     rw [if_pos hc]
     show (match LvK (O (m + 1)) (bnd t.s + 1) d (uy ++ rest) with | .error e => (.error e : Rs) | .ok (y, ts2) => cl (O (m + 1)) d (uy ++ rest).length k (tBin t.s (nf n x) y) ts2) = _
     rw [ey]
     show cl (O (m + 1)) d (uy ++ rest).length k (tBin t.s (nf n x) (nf n y)) rest = _
     exact cl_fuel (O_sh (m + 1)) k d _ _ _ rest hz (by simp at hn; omega) (by simp) (Nat.le_refl _)
   · have k8 : t.k = 8 := by omega
     refine ⟨fun _ => ?_, fun h => by omega⟩
     obtain ⟨p, q, hkn, hp, hq, hx⟩ := well8 hw k8
     unfold tkL at hu
     unfold nf
     unfold dpT at hdp
     rw [if_neg k0, if_neg k1, if_neg k2, if_neg k3, if_neg k4, if_neg k5, if_neg k6, if_neg k7] at hu ⊢
     rw [if_neg k6, if_neg k7, if_pos k8] at hdp
     obtain ⟨a, v1, rfl, hu1⟩ := map_cons2 hu
     obtain ⟨b, v2, rfl, hu2⟩ := map_cons2 hu1
     clear hu hu1
     obtain ⟨v3, v4, rfl, hu, h4⟩ := map_app2 hu2
     clear hu2
     obtain ⟨c, rfl⟩ := map_one2 h4
     have hA : ∀ x ∈ t.l, Arg n x := by
       intro x hxm
       have h1 := hx x hxm
       have h2 := hr.2 x hxm
       unfold argT at h1
       cases n with
       | zero => cases h2
       | succ n =>
         by_cases k : x.k = 5
         · rw [if_pos k, Bool.and_eq_true] at h1
           exact arg_range k h1.1 h1.2
         · rw [if_neg k] at h1
           exact arg_of (ih x h2 h1) h1
     have hD : ∀ x ∈ t.l, d + 1 + dpT n x ≤ 40 := by
       intro x hxm
       have := maxD_mem (dpT n) t.l x hxm
       omega
     have hp1 := (kno_wd hkn).2.2.1
     match hl : t.l with
     | [] => rw [hl] at hp; simp at hp hp1; omega
     | x :: r =>
       rw [hl] at hu hA hD hp hq
       rw [List.map_cons, joinT_cons] at hu
       obtain ⟨ux, ur, rfl, e1, e2⟩ := map_app2 hu
       rw [List.map_map] at e2
       have hargs : args (frm (O m)) p q (d + 1) (ux ++ (ur ++ (3, c, [41], 0, 0) :: rest)) = .ok ((x :: r).map (nf n), (3, c, [41], 0, 0) :: rest) := by
         have hh : (hd (ur ++ (3, c, [41], 0, 0) :: rest)).1 = 3 ∧ ((hd (ur ++ (3, c, [41], 0, 0) :: rest)).2.2.1 = [44] ∨ (hd (ur ++ (3, c, [41], 0, 0) :: rest)).2.2.1 = [41]) := by
           cases r with
           | nil =>
             have : ur = [] := List.map_eq_nil_iff.1 e2
             subst this
             exact ⟨rfl, .inr rfl⟩
           | cons y r =>
             rw [List.map_cons, List.flatten_cons] at e2
             obtain ⟨a2, v2, rfl, _⟩ := map_cons2 e2
             exact ⟨rfl, .inl rfl⟩
         have hm := hA x List.mem_cons_self m (d + 1) ux (ur ++ (3, c, [41], 0, 0) :: rest) e1 ((hz.con _).pre ur) (by simp at hn ⊢; omega) (hD x List.mem_cons_self) hh
         unfold args
         rw [hm]
         show argl (frm (O m)) p q (d + 1) (ur ++ (3, c, [41], 0, 0) :: rest).length [nf n x] (ur ++ (3, c, [41], 0, 0) :: rest) = _
         rw [argl_read n m (d + 1) p q (3, c, [41], 0, 0) ⟨rfl, rfl⟩ rest hz r [nf n x] ur _ (fun y hy => hA y (List.mem_cons_of_mem _ hy)) (fun y hy => hD y (List.mem_cons_of_mem _ hy)) (by have := hD x List.mem_cons_self; omega) e2 (by simp at hn ⊢; omega) (Nat.le_refl _) (by simp at hp ⊢; omega) (by simp at hq ⊢; omega)]
         rfl
       have := O_call (m := m) (d := d) (by omega) hkn (a := a) (v := 0) (e := 0) (a1 := b) (v1 := 0) (e1 := 0) hargs
       rw [← this]
       simp

open Go.RowKit
set_option maxHeartbeats 2000000

theorem arg_k {n : Nat} {t : T} (h : argT (n + 1) t = true) : t.k = 0 ∨ t.k = 1 ∨ t.k = 2 ∨ t.k = 3 ∨ t.k = 4 ∨ t.k = 5 ∨ t.k = 6 ∨ t.k = 7 ∨ t.k = 8 := by
 unfold argT at h
 by_cases k5 : t.k = 5
 · omega
 · rw [if_neg k5] at h
   have := well_k h
   omega
theorem arg_well {n : Nat} {t : T} (h : argT n t = true) (k5 : t.k ≠ 5) : wellT n t = true := by
 unfold argT at h
 rw [if_neg k5] at h
 exact h
theorem well_arg {n : Nat} {t : T} (h : wellT n t = true) : argT n t = true := by
 unfold argT
 rw [if_neg]
 · exact h
 · intro k
   cases n with
   | zero => cases h
   | succ n => have := well_k h; omega
theorem nf_k {n : Nat} {t : T} (h : argT (n + 1) t = true) : (nf (n + 1) t).k = t.k := by
 have hk := arg_k h
 unfold nf
 rcases hk with k | k | k | k | k | k | k | k | k <;> simp [k] <;> rfl

open Go.RowKit
set_option maxHeartbeats 2000000

theorem kno_le' {s : List UInt8} {a b : Nat} (h : kno s = some (a, b)) : 1 ≤ a ∧ a ≤ b ∧ b ≤ 20 := by
 unfold kno at h
 split at h
 · cases h; decide
 · split at h
   · cases h; decide
   · split at h
     · cases h; decide
     · split at h
       · cases h; decide
       · split at h
         · cases h; decide
         · cases h
/-! ### More fuel changes nothing -/
theorem hr_mono (n : Nat) : ∀ (m : Nat) (t : T), Hr n t → n ≤ m → Hr m t := by
 induction n with
 | zero => intro m t h; cases h
 | succ n ih =>
   intro m t h hm
   cases m with
   | zero => omega
   | succ m => exact ⟨h.1, fun x hx => ih m x (h.2 x hx) (by omega)⟩
theorem sz_mono (n : Nat) : ∀ (m : Nat) (t : T), Hr n t → n ≤ m → szT m t = szT n t := by
 induction n with
 | zero => intro m t h; cases h
 | succ n ih =>
   intro m t h hm
   cases m with
   | zero => omega
   | succ m =>
     rw [szT, szT, List.map_congr_left (fun x hx => ih m x (h.2 x hx) (by omega))]
theorem all_congr' {f g : T → Bool} (l : List T) (h : ∀ x ∈ l, f x = g x) : l.all f = l.all g := by
 induction l with
 | nil => rfl
 | cons a l ih => rw [List.all_cons, List.all_cons, h a List.mem_cons_self, ih (fun x hx => h x (List.mem_cons_of_mem _ hx))]
theorem wl_mono (n : Nat) : ∀ (m : Nat) (t : T), Hr n t → n ≤ m → wellT m t = wellT n t := by
 induction n with
 | zero => intro m t h; cases h
 | succ n ih =>
   intro m t h hm
   cases m with
   | zero => omega
   | succ m =>
     rw [wellT, wellT, all_congr' t.l (fun x hx => ih m x (h.2 x hx) (by omega)), all_congr' t.l (f := fun x => if x.k = 5 then inB x.r.1 x.r.2.1 && inB x.q.1 x.q.2.1 else wellT m x) (g := fun x => if x.k = 5 then inB x.r.1 x.r.2.1 && inB x.q.1 x.q.2.1 else wellT n x) (fun x hx => by rw [ih m x (h.2 x hx) (by omega)])]
theorem maxD_congr {f g : T → Nat} (l : List T) (h : ∀ x ∈ l, f x = g x) : maxD f l = maxD g l := by
 induction l with
 | nil => rfl
 | cons a l ih =>
   show max (f a) (maxD f l) = max (g a) (maxD g l)
   rw [h a List.mem_cons_self, ih (fun x hx => h x (List.mem_cons_of_mem _ hx))]
theorem hdT_mem (l : List T) : hdT l ∈ l ∨ hdT l = tz := by
 cases l with
 | nil => exact .inr rfl
 | cons a l => exact .inl List.mem_cons_self
theorem sdT_mem (l : List T) : sdT l ∈ l ∨ sdT l = tz := by
 cases l with
 | nil => exact .inr rfl
 | cons a l => cases l with
   | nil => exact .inr rfl
   | cons b l => exact .inl (List.mem_cons_of_mem _ List.mem_cons_self)
theorem dp_tz (n : Nat) : dpT n tz = 0 := by cases n <;> rfl
theorem dp_mono (n : Nat) : ∀ (m : Nat) (t : T), Hr n t → n ≤ m → dpT m t = dpT n t := by
 induction n with
 | zero => intro m t h; cases h
 | succ n ih =>
   intro m t h hm
   cases m with
   | zero => omega
   | succ m =>
     have e1 : dpT m (hdT t.l) = dpT n (hdT t.l) := by
       rcases hdT_mem t.l with h1 | h1
       · exact ih m _ (h.2 _ h1) (by omega)
       · rw [h1, dp_tz, dp_tz]
     have e2 : dpT m (sdT t.l) = dpT n (sdT t.l) := by
       rcases sdT_mem t.l with h1 | h1
       · exact ih m _ (h.2 _ h1) (by omega)
       · rw [h1, dp_tz, dp_tz]
     rw [dpT, dpT, e1, e2, maxD_congr t.l (fun x hx => ih m x (h.2 x hx) (by omega))]
theorem ar_mono (n m : Nat) (t : T) (h : Hr n t) (hm : n ≤ m) : argT m t = argT n t := by
 unfold argT; rw [wl_mono n m t h hm]
/-! ### What is read -/
/-- A tree that was read of c words at depth d, at level k. -/
structure GT (c d k : Nat) (x : T) : Prop where
 wf : Wf x
 hr : Hr c x
 wl : wellT c x = true
 sz : szT c x ≤ c
 dp : d + (b1 (loose k x) + dpT c x) ≤ 40
theorem GT.mono {c c' d k : Nat} {x : T} (h : GT c d k x) (hc : c ≤ c') : GT c' d k x :=
 ⟨h.wf, hr_mono c c' x h.hr hc, by rw [wl_mono c c' x h.hr hc]; exact h.wl, by rw [sz_mono c c' x h.hr hc]; have := h.sz; omega, by rw [dp_mono c c' x h.hr hc]; exact h.dp⟩
theorem b1_le (b : Bool) : b1 b ≤ 1 := by cases b <;> decide
theorem loose_le {k k' : Nat} (h : k' ≤ k) (x : T) : b1 (loose k' x) ≤ b1 (loose k x) := by
 unfold loose b1
 cases x.k == 7
 · simp
 · simp only [Bool.true_and, decide_eq_true_eq]
   split <;> split <;> omega
theorem GT.up {c d k k' : Nat} {x : T} (h : GT c d k x) (hk : k' ≤ k) : GT c d k' x :=
 ⟨h.wf, h.hr, h.wl, h.sz, by have := h.dp; have := loose_le hk x; omega⟩
/-- A word as it comes. -/
def TkO (t : Tk) : Prop := (t.1 = 0 → 0 ≤ t.2.2.2.1 ∧ t.2.2.2.1 ≤ 9223372036854775807) ∧ (t.1 = 4 → 1 ≤ t.2.2.2.2 ∧ t.2.2.2.2 ≤ 5) ∧ t.2.2.1.length ≤ 300
def GF (F : Rd) (k : Nat) : Prop := ∀ (d : Nat) (ts : List Tk) (x : T) (us : List Tk), (∀ t ∈ ts, TkO t) → F d ts = .ok (x, us) → ∃ c, 1 ≤ c ∧ ts.length = us.length + c ∧ (∀ t ∈ us, t ∈ ts) ∧ GT c d k x
theorem tk1_is {d : Nat} {ts us : List Tk} (h : tk1 d ts = .ok us) : d ≤ 40 ∧ us = ts.tail := by
 unfold tk1 at h
 split at h
 · cases h
 · cases h; exact ⟨by omega, rfl⟩
theorem ne_of_kd {ts : List Tk} {k : Int} (h : (hd ts).1 = k) (hk : k ≠ 5) : ∃ t r, ts = t :: r := by
 cases ts with
 | nil => exact absurd h.symm hk
 | cons t r => exact ⟨t, r, rfl⟩
theorem sg_ne {p : List UInt8} {ts : List Tk} (h : isSg p ts = true) : ∃ t r, ts = t :: r ∧ t.1 = 3 ∧ t.2.2.1 = p := by
 cases ts with
 | nil => simp [isSg, hd] at h
 | cons t r => simp [isSg, hd] at h; exact ⟨t, r, rfl, h.1, h.2⟩
theorem pass_is {p : List UInt8} {d : Nat} {ts us : List Tk} (h : pass1 p d ts = .ok us) : d ≤ 40 ∧ ∃ t, ts = t :: us := by
 unfold pass1 at h
 split at h
 · rename_i h1
   obtain ⟨t, r, rfl, _⟩ := sg_ne h1
   obtain ⟨h2, h3⟩ := tk1_is h
   exact ⟨h2, t, by rw [h3]; rfl⟩
 · cases h
theorem i64_0 : I64 0 := ⟨by decide, by decide⟩
theorem wf_leaf (t : T) (h : t.l = []) (h1 : I64 t.k) (h2 : I64 t.n) (h3 : t.s.length ≤ maxLen) (h4 : I64 t.e) (h5 : I64 t.r.1) (h6 : I64 t.r.2.1) (h7 : I64 t.q.1) (h8 : I64 t.q.2.1) : Wf t := .mk t h1 h2 h3 h4 h5 h6 h7 h8 (by rw [h]; intro x hx; cases hx)
theorem gt_leaf {c d k : Nat} {x : T} (hc : 1 ≤ c) (hd : d ≤ 40) (hw : Wf x) (hl : x.l = []) (hk : x.k ≠ 6 ∧ x.k ≠ 7 ∧ x.k ≠ 8) (hwl : wellT 1 x = true) : GT c d k x := by
 have h1 : Hr 1 x := ⟨by rw [hl]; exact Nat.zero_le _, by rw [hl]; intro y hy; cases hy⟩
 refine (GT.mk hw h1 hwl ?_ ?_ : GT 1 d k x).mono hc
 · rw [szT, hl]; exact Nat.le_refl _
 · have e1 : loose k x = false := by unfold loose; simp [hk.2.1]
   rw [dpT, if_neg hk.1, if_neg hk.2.1, if_neg hk.2.2, e1]; exact hd
theorem one_gt {d k : Nat} {ts us : List Tk} {x y : T} (h : one d ts x = .ok (y, us)) (hne : ∃ t r, ts = t :: r) (hw : Wf x) (hl : x.l = []) (hk : x.k ≠ 6 ∧ x.k ≠ 7 ∧ x.k ≠ 8) (hwl : wellT 1 x = true) : ∃ c, 1 ≤ c ∧ ts.length = us.length + c ∧ (∀ t ∈ us, t ∈ ts) ∧ GT c d k y := by
 unfold one at h
 split at h
 · cases h
 · rename_i ts1 h1
   cases h
   obtain ⟨hd, h2⟩ := tk1_is h1
   obtain ⟨t, r, rfl⟩ := hne
   subst h2
   exact ⟨1, Nat.le_refl _, rfl, fun z hz => List.mem_cons_of_mem _ hz, gt_leaf (Nat.le_refl _) hd hw hl hk hwl⟩
/-- Arguments that were read of c words at depth d. -/
structure GL (c d : Nat) (l : List T) : Prop where
 each : ∀ x ∈ l, Wf x ∧ Hr c x ∧ argT c x = true ∧ d + dpT c x ≤ 40
 sz : (l.map (szT c)).sum ≤ c
 len : l.length ≤ c
theorem GL.mono {c c' d : Nat} {l : List T} (h : GL c d l) (hc : c ≤ c') : GL c' d l := by
 refine ⟨fun x hx => ?_, ?_, Nat.le_trans h.len hc⟩
 · obtain ⟨h1, h2, h3, h4⟩ := h.each x hx
   exact ⟨h1, hr_mono c c' x h2 hc, by rw [ar_mono c c' x h2 hc]; exact h3, by rw [dp_mono c c' x h2 hc]; exact h4⟩
 · rw [List.map_congr_left (fun x hx => sz_mono c c' x (h.each x hx).2.1 hc)]
   exact Nat.le_trans h.sz hc
theorem GL.snoc {c c2 d : Nat} {l : List T} {x : T} (h : GL c d l) (h1 : 1 ≤ c2) (hx : Wf x ∧ Hr c2 x ∧ argT c2 x = true ∧ d + dpT c2 x ≤ 40) (hs : szT c2 x ≤ c2) : GL (c + c2) d (l ++ [x]) := by
 have hl := h.mono (Nat.le_add_right c c2)
 have e : szT (c + c2) x = szT c2 x := sz_mono c2 (c + c2) x hx.2.1 (by omega)
 refine ⟨fun y hy => ?_, ?_, ?_⟩
 · rcases List.mem_append.1 hy with hy | hy
   · exact hl.each y hy
   · simp at hy; subst hy
     exact ⟨hx.1, hr_mono c2 _ y hx.2.1 (by omega), by rw [ar_mono c2 (c + c2) y hx.2.1 (by omega)]; exact hx.2.2.1, by rw [dp_mono c2 (c + c2) y hx.2.1 (by omega)]; exact hx.2.2.2⟩
 · rw [List.map_append, List.sum_append]
   have : (l.map (szT (c + c2))).sum ≤ c := by
     rw [List.map_congr_left (fun y hy => sz_mono c (c + c2) y (h.each y hy).2.1 (by omega))]; exact h.sz
   simp only [List.map_cons, List.map_nil, List.sum_cons, List.sum_nil]
   omega
 · rw [List.length_append]; have := h.len; simp; omega
theorem wa_k5' {n : Nat} {t : T} (h : wellT n t = true) : ¬ t.k = 5 := by
 intro k5
 cases n with
 | zero => cases h
 | succ n => rw [wellT, k5] at h; simp at h
theorem wa_arg' {n : Nat} {t : T} (h : wellT n t = true) : argT n t = true := by
 unfold argT; rw [if_neg (wa_k5' h)]; exact h
theorem inB_bd {r c : Int} (h : inB r c = true) : I64 r ∧ I64 c := by
 unfold inB at h
 simp at h
 exact ⟨⟨by omega, by omega⟩, ⟨by omega, by omega⟩⟩
theorem refr_gt {d : Nat} {ts us : List Tk} {r : Rf} (h : refr d ts = .ok (r, us)) : d ≤ 40 ∧ (∃ t, ts = t :: us) ∧ inB r.1 r.2.1 = true := by
 unfold refr at h
 split at h
 · rename_i h1
   split at h
   · cases h
   · rename_i ts1 h2
     cases h
     obtain ⟨t, q, rfl⟩ := ne_of_kd h1.1 (by decide)
     obtain ⟨h3, h4⟩ := tk1_is h2
     exact ⟨h3, ⟨t, by rw [h4]; rfl⟩, h1.2⟩
 · cases h
theorem argm_gt {F : Rd} (hF : GF F 1) (d : Nat) (ts : List Tk) (x : T) (us : List Tk) (hT : ∀ t ∈ ts, TkO t) (h : argm F d ts = .ok (x, us)) : ∃ c, 1 ≤ c ∧ ts.length = us.length + c ∧ (∀ t ∈ us, t ∈ ts) ∧ (Wf x ∧ Hr c x ∧ argT c x = true ∧ d + dpT c x ≤ 40) ∧ szT c x ≤ c := by
 unfold argm at h
 split at h
 · cases h
 · rename_i y ts1 h1
   obtain ⟨c, c1, c2, c3, g⟩ := hF d ts y ts1 hT h1
   split at h
   · rename_i hc
     split at h
     · cases h
     · rename_i ts2 h2
       split at h
       · cases h
       · rename_i q ts3 h3
         cases h
         obtain ⟨hd, h4⟩ := tk1_is h2
         obtain ⟨t1, r1, rfl, _⟩ := sg_ne hc.2.2
         have h4' : ts2 = r1 := h4
         rw [h4'] at h3
         obtain ⟨_, ⟨t2, h5⟩, hq⟩ := refr_gt h3
         have hr : inB y.r.1 y.r.2.1 = true := by
           have hw := g.wl
           cases c with
           | zero => cases hw
           | succ c => rw [wellT, hc.1] at hw; simpa using hw
         have h6 : r1 = t2 :: us := h5
         refine ⟨c + 2, by omega, ?_, ?_, ⟨?_, ?_, ?_, ?_⟩, ?_⟩
         · rw [c2, h6]; simp; omega
         · intro t ht; exact c3 t (by rw [h6]; simp [ht])
         · exact wf_leaf _ rfl (show I64 (5 : Int) from ⟨by decide, by decide⟩) i64_0 (Nat.zero_le _) i64_0 (inB_bd hr).1 (inB_bd hr).2 (inB_bd hq).1 (inB_bd hq).2
         · exact ⟨Nat.zero_le _, fun z hz => by cases hz⟩
         · unfold argT; rw [if_pos (show (tRange y.r q).k = 5 from rfl)]
           show (inB y.r.1 y.r.2.1 && inB q.1 q.2.1) = true
           rw [hr, hq]; rfl
         · show d + 0 ≤ 40; omega
         · show 1 + 0 ≤ _; omega
   · cases h
     exact ⟨c, c1, c2, c3, ⟨g.wf, g.hr, wa_arg' g.wl, by have := g.dp; omega⟩, g.sz⟩
theorem argl_gt {F : Rd} (hF : GF F 1) (a b d : Nat) (hab : a ≤ b) (f : Nat) : ∀ (l l' : List T) (ts us : List Tk) (c : Nat), (∀ t ∈ ts, TkO t) → ts.length ≤ f → l.length ≤ b → GL c d l → argl F a b d f l ts = .ok (l', us) →
   ∃ c', ts.length = us.length + c' ∧ (∀ t ∈ us, t ∈ ts) ∧ GL (c + c') d l' ∧ l'.length ≤ b ∧ (a ≤ l'.length ∨ us = []) := by
 induction f with
 | zero =>
   intro l l' ts us c hT hf hl hg e
   unfold argl at e
   cases e
   exact ⟨0, rfl, fun _ h => h, hg, hl, .inr (List.eq_nil_of_length_eq_zero (by omega))⟩
 | succ f ih =>
   intro l l' ts us c hT hf hl hg e
   unfold argl at e
   split at e
   · rename_i hc
     split at e
     · cases e
     · rename_i ts1 h1
       split at e
       · cases e
       · rename_i x ts2 h2
         obtain ⟨_, t1, rfl⟩ := pass_is h1
         obtain ⟨c1, g1, g2, g3, g4, g5⟩ := argm_gt hF d ts1 x ts2 (fun t ht => hT t (List.mem_cons_of_mem _ ht)) h2
         have hlen : (t1 :: ts1).length = ts1.length + 1 := rfl
         obtain ⟨c2, k1, k2, k3, k4, k5⟩ := ih (l ++ [x]) l' ts2 us (c + c1) (fun t ht => hT t (List.mem_cons_of_mem _ (g3 t ht))) (by omega) (by rw [List.length_append]; simp; omega) (hg.snoc g1 g4 g5) e
         refine ⟨1 + c1 + c2, by omega, fun t ht => List.mem_cons_of_mem _ (g3 t (k2 t ht)), k3.mono (by omega), k4, k5⟩
   · rename_i hc
     cases e
     exact ⟨0, rfl, fun _ h => h, hg, hl, .inl (by omega)⟩
theorem brk_gt {F : Rd} (hF : GF F 1) : GF (brk F) 5 := by
 intro d ts x us hT h
 unfold brk at h
 split at h
 · cases h
 · rename_i ts1 h1
   obtain ⟨_, t1, rfl⟩ := pass_is h1
   split at h
   · cases h
   · rename_i y ts2 h2
     obtain ⟨c, g1, g2, g3, g⟩ := hF (d + 1) ts1 y ts2 (fun t ht => hT t (List.mem_cons_of_mem _ ht)) h2
     split at h
     · cases h
     · rename_i ts3 h3
       cases h
       obtain ⟨_, t2, rfl⟩ := pass_is h3
       have hlen : (t1 :: ts1).length = ts1.length + 1 := rfl
       have hlen2 : (t2 :: us).length = us.length + 1 := rfl
       refine ⟨c + 2, by omega, by omega, fun t ht => List.mem_cons_of_mem _ (g3 t (List.mem_cons_of_mem _ ht)), ?_⟩
       have g' := g.mono (show c ≤ c + 2 by omega)
       refine ⟨g'.wf, g'.hr, g'.wl, g'.sz, ?_⟩
       have := g'.dp; have := b1_le (loose 5 x); omega
theorem maxD_lub (f : T → Nat) (l : List T) (m : Nat) (h : ∀ x ∈ l, f x ≤ m) : maxD f l ≤ m := by
 induction l with
 | nil => exact Nat.zero_le _
 | cons a l ih =>
   show max (f a) (maxD f l) ≤ m
   have := h a List.mem_cons_self
   have := ih (fun x hx => h x (List.mem_cons_of_mem _ hx))
   omega
theorem wrd_gt {F : Rd} (hF : GF F 1) (d : Nat) (ts : List Tk) (x : T) (us : List Tk) (hT : ∀ t ∈ ts, TkO t) (hk : (hd ts).1 = 2) (h : wrd F d ts = .ok (x, us)) : ∃ c, 1 ≤ c ∧ ts.length = us.length + c ∧ (∀ t ∈ us, t ∈ ts) ∧ GT c d 5 x := by
 have hne := ne_of_kd hk (by decide)
 unfold wrd at h
 split at h
 · exact one_gt h hne (wf_leaf _ rfl (show I64 (2 : Int) from ⟨by decide, by decide⟩) (show I64 (1 : Int) from ⟨by decide, by decide⟩) (Nat.zero_le _) i64_0 i64_0 i64_0 i64_0 i64_0) rfl (by decide) rfl
 · split at h
   · exact one_gt h hne (wf_leaf _ rfl (show I64 (2 : Int) from ⟨by decide, by decide⟩) i64_0 (Nat.zero_le _) i64_0 i64_0 i64_0 i64_0 i64_0) rfl (by decide) rfl
   · split at h
     · rename_i a b hkn
       obtain ⟨t0, r0, rfl⟩ := hne
       have hs : t0.2.2.1.length ≤ 300 := (hT t0 List.mem_cons_self).2.2
       split at h
       · cases h
       · rename_i ts1 h1
         obtain ⟨hd40, h2⟩ := tk1_is h1
         have h2' : ts1 = r0 := h2
         rw [h2'] at h
         have hT1 : ∀ t ∈ r0, TkO t := fun t ht => hT t (List.mem_cons_of_mem _ ht)
         unfold brk at h
         split at h
         · cases h
         · rename_i ts2 h3
           obtain ⟨_, t1, h3'⟩ := pass_is h3
           have h3' : r0 = t1 :: ts2 := h3'
           subst h3'
           split at h
           · cases h
           · rename_i y ts3 h4
             split at h
             · cases h
             · rename_i ts4 h5
               cases h
               obtain ⟨_, t2, rfl⟩ := pass_is h5
               unfold call args at h4
               split at h4
               · cases h4
               · rename_i l ts5 h6
                 cases h4
                 split at h6
                 · cases h6
                 · rename_i z ts6 h7
                   obtain ⟨ka, kab, kb⟩ := kno_le' hkn
                   obtain ⟨c1, g1, g2, g3, g4, g5⟩ := argm_gt hF (d + 1) ts2 z ts6 (fun t ht => hT1 t (List.mem_cons_of_mem _ ht)) h7
                   have hg : GL c1 (d + 1) [z] := by
                     refine ⟨fun w hw => ?_, ?_, ?_⟩
                     · simp at hw; subst hw; exact g4
                     · simpa using g5
                     · simpa using g1
                   obtain ⟨c2, k1, k2, k3, k4, k5⟩ := argl_gt hF a b (d + 1) kab ts6.length [z] l ts6 (t2 :: us) c1 (fun t ht => hT1 t (List.mem_cons_of_mem _ (g3 t ht))) (Nat.le_refl _) (by simp; omega) hg h6
                   have ha : a ≤ l.length := by
                     rcases k5 with h | h
                     · exact h
                     · cases h
                   have e1 : (t0 :: t1 :: ts2).length = ts2.length + 2 := rfl
                   have e2 : (t2 :: us).length = us.length + 1 := rfl
                   refine ⟨c1 + c2 + 3, by omega, by omega, fun t ht => List.mem_cons_of_mem _ (List.mem_cons_of_mem _ (g3 t (k2 t (List.mem_cons_of_mem _ ht)))), ?_⟩
                   have kk := k3
                   refine (GT.mk ?_ ?_ ?_ ?_ ?_ : GT (c1 + c2 + 1) d 5 (tCall t0.2.2.1 l)).mono (by omega)
                   · exact .mk _ (show I64 (8 : Int) from ⟨by decide, by decide⟩) i64_0 (by show t0.2.2.1.length ≤ maxLen; unfold maxLen; omega) i64_0 i64_0 i64_0 i64_0 i64_0 (fun w hw => (kk.each w hw).1)
                   · exact ⟨by show l.length ≤ 100000; omega, fun w hw => (kk.each w hw).2.1⟩
                   · have hkn' : kno t0.2.2.1 = some (a, b) := hkn
                     rw [wellT]
                     show (if (8 : Int) = 0 then _ else if (8 : Int) = 1 then _ else if (8 : Int) = 2 then _ else if (8 : Int) = 3 then _ else if (8 : Int) = 4 then _ else if (8 : Int) = 6 then _ else if (8 : Int) = 7 then _ else if (8 : Int) = 8 then ((kno t0.2.2.1).isSome && decide (knA t0.2.2.1 ≤ l.length) && decide ((l.length : Int) ≤ knB t0.2.2.1) && l.all (fun x => if x.k = 5 then inB x.r.1 x.r.2.1 && inB x.q.1 x.q.2.1 else wellT (c1 + c2) x)) else false) = true
                     rw [if_neg (by decide), if_neg (by decide), if_neg (by decide), if_neg (by decide), if_neg (by decide), if_neg (by decide), if_neg (by decide), if_pos rfl]
                     unfold knA knB
                     rw [hkn']
                     simp only [Option.isSome_some, Bool.true_and, Bool.and_eq_true, decide_eq_true_eq, List.all_eq_true]
                     exact ⟨⟨by omega, by omega⟩, fun w hw => (kk.each w hw).2.2.1⟩
                   · show 1 + (l.map (szT (c1 + c2))).sum ≤ _
                     have := kk.sz; omega
                   · show d + (0 + (1 + maxD (dpT (c1 + c2)) l)) ≤ 40
                     have hm := maxD_lub (dpT (c1 + c2)) l (40 - (d + 1)) (fun w hw => by have := (kk.each w hw).2.2.2; omega)
                     have : d + 1 ≤ 40 := by
                       cases l with
                       | nil => simp at ha; omega
                       | cons w r => have := (kk.each w List.mem_cons_self).2.2.2; omega
                     omega
     · split at h
       · cases h
       · rename_i r ts1 h1
         cases h
         obtain ⟨hd40, ⟨t, rfl⟩, hr⟩ := refr_gt h1
         exact ⟨1, Nat.le_refl _, rfl, fun z hz => List.mem_cons_of_mem _ hz, gt_leaf (Nat.le_refl _) hd40 (wf_leaf _ rfl (show I64 (4 : Int) from ⟨by decide, by decide⟩) i64_0 (Nat.zero_le _) i64_0 (inB_bd hr).1 (inB_bd hr).2 i64_0 i64_0) rfl (by show (4 : Int) ≠ 6 ∧ (4 : Int) ≠ 7 ∧ (4 : Int) ≠ 8; decide) (by rw [wellT]; show inB r.1 r.2.1 = true; exact hr)⟩
theorem smp_gt {F : Rd} (hF : GF F 1) : GF (smp F) 5 := by
 intro d ts x us hT h
 have hT0 : ∀ {k : Int}, (hd ts).1 = k → k ≠ 5 → TkO (hd ts) := by
   intro k h1 h2
   obtain ⟨t, r, rfl⟩ := ne_of_kd h1 h2
   exact hT t List.mem_cons_self
 unfold smp at h
 split at h
 · rename_i hk
   have h0 := (hT0 hk (by decide)).1 hk
   exact one_gt h (ne_of_kd hk (by decide)) (wf_leaf _ rfl i64_0 (by show I64 (hd ts).2.2.2.1; exact ⟨by omega, by omega⟩) (Nat.zero_le _) i64_0 i64_0 i64_0 i64_0 i64_0) rfl (by show (0 : Int) ≠ 6 ∧ (0 : Int) ≠ 7 ∧ (0 : Int) ≠ 8; decide) (by rw [wellT]; show decide (0 ≤ (hd ts).2.2.2.1) = true; simpa using h0.1)
 · split at h
   · rename_i hk
     have h0 := (hT0 hk (by decide)).2.2
     exact one_gt h (ne_of_kd hk (by decide)) (wf_leaf _ rfl (show I64 (1 : Int) from ⟨by decide, by decide⟩) i64_0 (by show (hd ts).2.2.1.length ≤ maxLen; unfold maxLen; omega) i64_0 i64_0 i64_0 i64_0 i64_0) rfl (by show (1 : Int) ≠ 6 ∧ (1 : Int) ≠ 7 ∧ (1 : Int) ≠ 8; decide) (by rw [wellT]; show decide ((hd ts).2.2.1.length ≤ 300) = true; simpa using h0)
   · split at h
     · rename_i hk
       have h0 := (hT0 hk (by decide)).2.1 hk
       exact one_gt h (ne_of_kd hk (by decide)) (wf_leaf _ rfl (show I64 (3 : Int) from ⟨by decide, by decide⟩) i64_0 (Nat.zero_le _) (by show I64 (hd ts).2.2.2.2; exact ⟨by omega, by omega⟩) i64_0 i64_0 i64_0 i64_0) rfl (by show (3 : Int) ≠ 6 ∧ (3 : Int) ≠ 7 ∧ (3 : Int) ≠ 8; decide) (by rw [wellT]; show (decide (1 ≤ (hd ts).2.2.2.2) && decide ((hd ts).2.2.2.2 ≤ 5)) = true; simp; exact h0)
     · split at h
       · rename_i hk
         exact wrd_gt hF d ts x us hT hk h
       · exact brk_gt hF d ts x us hT h
theorem opn_gt {F G : Rd} (hF : GF F 1) (hG : GF G 5) : GF (opn F G) 5 := by
 intro d ts x us hT h
 unfold opn at h
 split at h
 · rename_i hs
   split at h
   · cases h
   · rename_i ts1 h1
     split at h
     · cases h
     · rename_i y ts2 h2
       cases h
       obtain ⟨t, r, rfl, _⟩ := sg_ne hs
       obtain ⟨_, h3⟩ := tk1_is h1
       have h3' : ts1 = r := h3
       rw [h3'] at h2
       obtain ⟨c, g1, g2, g3, g⟩ := hG (d + 1) r y us (fun z hz => hT z (List.mem_cons_of_mem _ hz)) h2
       have e1 : (t :: r).length = r.length + 1 := rfl
       refine ⟨c + 1, by omega, by omega, fun z hz => List.mem_cons_of_mem _ (g3 z hz), ?_⟩
       refine ⟨.mk _ (show I64 (6 : Int) from ⟨by decide, by decide⟩) i64_0 (Nat.zero_le _) i64_0 i64_0 i64_0 i64_0 i64_0 (fun z hz => ?_), ⟨by show 1 ≤ 100000; decide, fun z hz => ?_⟩, ?_, ?_, ?_⟩
       · rcases List.mem_cons.1 hz with rfl | hz
         · exact g.wf
         · cases hz
       · rcases List.mem_cons.1 hz with rfl | hz
         · exact g.hr
         · cases hz
       · rw [wellT]
         show ((1 == 1) && [y].all (wellT c)) = true
         simp [g.wl]
       · show 1 + ([y].map (szT c)).sum ≤ _
         have := g.sz; simp; omega
       · show d + (0 + (1 + (b1 (loose 5 y) + dpT c y))) ≤ 40
         have := g.dp; omega
 · exact smp_gt hF d ts x us hT h
theorem lp_gt {F : Rd} {k : Nat} (hF : GF F (k + 1)) (hk : 1 ≤ k) (d f : Nat) : ∀ (x y : T) (ts us : List Tk) (c : Nat), (∀ t ∈ ts, TkO t) → 1 ≤ c → GT c d k x → lp F k d f x ts = .ok (y, us) → ∃ c', ts.length = us.length + c' ∧ (∀ t ∈ us, t ∈ ts) ∧ GT (c + c') d k y := by
 induction f with
 | zero => intro x y ts us c hT hc g e; unfold lp at e; cases e; exact ⟨0, rfl, fun _ h => h, g⟩
 | succ f ih =>
   intro x y ts us c hT hc g e
   unfold lp at e
   split at e
   · rename_i hs
     split at e
     · cases e
     · rename_i ts1 h1
       split at e
       · cases e
       · rename_i z ts2 h2
         obtain ⟨t, r, rfl⟩ := ne_of_kd hs.1 (by decide)
         obtain ⟨hd40, h3⟩ := tk1_is h1
         have h3' : ts1 = r := h3
         rw [h3'] at h2
         have hb : bnd t.2.2.1 = k := hs.2
         have hsl : t.2.2.1.length ≤ 300 := (hT t List.mem_cons_self).2.2
         obtain ⟨c2, g1, g2, g3, gz⟩ := hF d r z ts2 (fun w hw => hT w (List.mem_cons_of_mem _ hw)) h2
         have e1 : (t :: r).length = r.length + 1 := rfl
         have hx := g.mono (show c ≤ c + c2 by omega)
         have hz := gz.mono (show c2 ≤ c + c2 by omega)
         have gn : GT (c + c2 + 1) d k (tBin t.2.2.1 x z) := by
           refine ⟨.mk _ (show I64 (7 : Int) from ⟨by decide, by decide⟩) i64_0 (by show t.2.2.1.length ≤ maxLen; unfold maxLen; omega) i64_0 i64_0 i64_0 i64_0 i64_0 (fun w hw => ?_), ⟨by show 2 ≤ 100000; decide, fun w hw => ?_⟩, ?_, ?_, ?_⟩
           · rcases List.mem_cons.1 hw with rfl | hw
             · exact g.wf
             · rcases List.mem_cons.1 hw with rfl | hw
               · exact gz.wf
               · cases hw
           · rcases List.mem_cons.1 hw with rfl | hw
             · exact hx.hr
             · rcases List.mem_cons.1 hw with rfl | hw
               · exact hz.hr
               · cases hw
           · rw [wellT]
             show (bnd t.2.2.1 != 0 && (2 == 2) && [x, z].all (wellT (c + c2))) = true
             rw [hb]
             simp [hx.wl, hz.wl]; omega
           · show 1 + ([x, z].map (szT (c + c2))).sum ≤ _
             have e2 := sz_mono c (c + c2) x g.hr (by omega)
             have e3 := sz_mono c2 (c + c2) z gz.hr (by omega)
             have := g.sz; have := gz.sz
             simp [e2, e3]; omega
           · have e2 : loose k (tBin t.2.2.1 x z) = false := by
               show ((7 : Int) == 7 && decide (bnd t.2.2.1 < k)) = false
               rw [hb]; simp
             rw [e2]
             show d + (0 + max (b1 (loose (bnd t.2.2.1) x) + dpT (c + c2) x) (b1 (loose (bnd t.2.2.1 + 1) z) + dpT (c + c2) z)) ≤ 40
             rw [hb]
             have := hx.dp; have := hz.dp
             omega
         obtain ⟨c3, k1, k2, k3⟩ := ih _ y ts2 us (c + c2 + 1) (fun w hw => hT w (List.mem_cons_of_mem _ (g3 w hw))) (by omega) gn e
         exact ⟨1 + c2 + c3, by omega, fun w hw => List.mem_cons_of_mem _ (g3 w (k2 w hw)), k3.mono (by omega)⟩
   · cases e; exact ⟨0, rfl, fun _ h => h, g⟩
theorem lv_gt {F : Rd} {k : Nat} (hF : GF F (k + 1)) (hk : 1 ≤ k) : GF (lv F k) k := by
 intro d ts x us hT h
 unfold lv at h
 split at h
 · cases h
 · rename_i y ts1 h1
   obtain ⟨c, g1, g2, g3, g⟩ := hF d ts y ts1 hT h1
   obtain ⟨c2, k1, k2, k3⟩ := lp_gt hF hk d _ y x ts1 us c (fun t ht => hT t (g3 t ht)) g1 (g.up (by omega)) h
   exact ⟨c + c2, by omega, by omega, fun t ht => g3 t (k2 t ht), k3⟩
theorem frm_gt {F : Rd} (hF : GF F 5) : GF (frm F) 1 := lv_gt (lv_gt (lv_gt (lv_gt hF (by decide)) (by decide)) (by decide)) (by decide)
theorem O_gt (n : Nat) : GF (O n) 5 := by
 induction n with
 | zero => intro d ts x us _ e; cases e
 | succ n ih => exact opn_gt (frm_gt ih) ih

open Go.RowKit
set_option maxHeartbeats 2000000

theorem nxt_ok {l : List UInt8} {x : Wd} (h : nxt l = .ok x) : (x.1 = 0 → 0 ≤ x.2.2.1 ∧ x.2.2.1 ≤ 9223372036854775807) ∧ (x.1 = 4 → 1 ≤ x.2.2.2.1 ∧ x.2.2.2.1 ≤ 5) := by
 cases l with
 | nil => cases h
 | cons c l =>
   rw [nxt_cons] at h
   split at h
   · rename_i hc
     unfold numR at h
     split at h
     · cases h
     · rename_i k0
       split at h
       · cases h
       · rename_i k2
         cases h
         refine ⟨fun _ => ?_, fun h => absurd h (by show ¬ (0 : Int) = 4; decide)⟩
         show 0 ≤ rdV _ ∧ rdV _ ≤ _
         have hm : minusB ((c :: l).take (numE (c :: l))) = false := by
           unfold minusB
           cases numE (c :: l) with
           | zero => rfl
           | succ n =>
             rw [List.take_succ_cons]
             show (some c == some 45) = false
             have : c ≠ 45 := by rintro rfl; exact absurd hc (by decide)
             simpa using this
         unfold rdV
         rw [hm]
         split
         · rename_i h1
           simp only [Bool.and_eq_true, decide_eq_true_eq] at h1
           simp only [Bool.false_eq_true, if_false]
           omega
         · omega
   · split at h
     · unfold txtR at h
       split at h
       · cases h
       · cases h; exact ⟨fun h => absurd h (by show ¬ (1 : Int) = 0; decide), fun h => absurd h (by show ¬ (1 : Int) = 4; decide)⟩
     · split at h
       · unfold wdR at h
         cases h; exact ⟨fun h => absurd h (by show ¬ (2 : Int) = 0; decide), fun h => absurd h (by show ¬ (2 : Int) = 4; decide)⟩
       · split at h
         · unfold errR at h
           split at h
           · cases h
           · rename_i y hy
             cases h
             refine ⟨fun h => absurd h (by show ¬ (4 : Int) = 0; decide), fun _ => ?_⟩
             have hm : y ∈ errsL := List.mem_of_find?_eq_some hy
             have : ∀ y ∈ errsL, 1 ≤ y.1 ∧ y.1 ≤ 5 := by decide
             exact this y hm
         · unfold sgR at h
           split at h
           · cases h
           · cases h; exact ⟨fun h => absurd h (by show ¬ (3 : Int) = 0; decide), fun h => absurd h (by show ¬ (3 : Int) = 4; decide)⟩
theorem W_ok (n : Nat) : ∀ (l : List UInt8) (p : Nat) (ts : List Tk), l.length ≤ n → W p l = .ok ts → ∀ t ∈ ts, (t.1 = 0 → 0 ≤ t.2.2.2.1 ∧ t.2.2.2.1 ≤ 9223372036854775807) ∧ (t.1 = 4 → 1 ≤ t.2.2.2.2 ∧ t.2.2.2.2 ≤ 5) := by
 have he : ∀ p, ((endT p).1 = 0 → 0 ≤ (endT p).2.2.2.1 ∧ (endT p).2.2.2.1 ≤ 9223372036854775807) ∧ ((endT p).1 = 4 → 1 ≤ (endT p).2.2.2.2 ∧ (endT p).2.2.2.2 ≤ 5) := fun p => ⟨fun h => absurd h (by show ¬ (5 : Int) = 0; decide), fun h => absurd h (by show ¬ (5 : Int) = 4; decide)⟩
 induction n with
 | zero =>
   intro l p ts hl h
   have : l = [] := List.eq_nil_of_length_eq_zero (by omega)
   subst this
   rw [W_nil] at h
   cases h
   intro t ht; simp at ht; subst ht; exact he p
 | succ n ih =>
   intro l p ts hl h
   cases l with
   | nil =>
     rw [W_nil] at h
     cases h
     intro t ht; simp at ht; subst ht; exact he p
   | cons c r =>
     by_cases hc : c = 32
     · subst hc
       rw [W_blank] at h
       intro t ht
       exact ih r (p + 1) ts (by simpa using hl) h t ht
     · rw [W_cons p c r hc] at h
       cases hx : nxt (c :: r) with
       | error e => rw [hx] at h; cases h
       | ok x =>
         rw [hx] at h
         simp only [] at h
         obtain ⟨us, hu, rfl⟩ := map_ok h
         have hm := nxt_pos hx
         simp only [List.length_cons] at hm
         intro t ht
         rcases List.mem_cons.1 ht with rfl | ht
         · exact nxt_ok hx
         · exact ih ((c :: r).drop x.2.2.2.2) (p + x.2.2.2.2) us (by simp at hl ⊢; omega) hu t ht
/-- What a text is read as. -/
theorem par_gt {l : List UInt8} (h : (parR l).2.2 = 0) : GT 401 0 1 (parR l).1 := by
 unfold parR at h ⊢
 split at h
 · rename_i h0
   rw [if_pos h0]
   rcases lexR_cases l with ⟨ts, hl, hW, hx⟩ | ⟨p, c, hx, hc, _⟩
   · rw [hx] at h ⊢
     have hT : ∀ t ∈ ts, TkO t := fun t ht => ⟨(W_ok l.length l 0 ts (Nat.le_refl _) hW t ht).1, (W_ok l.length l 0 ts (Nat.le_refl _) hW t ht).2, Nat.le_trans (W_len l.length l 0 ts (Nat.le_refl _) hW t ht) hl⟩
     have hlen : ts.length ≤ 400 := by have := (W_count l.length l 0 ts (Nat.le_refl _) hW).1; omega
     unfold prs at h ⊢
     split at h
     · exact absurd h (cd_ne _)
     · rename_i x ts1 hf
       split at h
       · rename_i h5
         rw [if_pos h5]
         obtain ⟨c, g1, g2, g3, g⟩ := frm_gt (O_gt _) 0 ts x ts1 hT hf
         exact g.mono (by omega)
       · exact absurd h (by show ¬ (4 : Int) = 0; decide)
   · rw [hx] at h0
     have h0 : c = 0 := h0
     omega
 · rename_i h0
   exact absurd h h0
end Go.Proofs.YtcggiljlilbdfaaGreatDoor

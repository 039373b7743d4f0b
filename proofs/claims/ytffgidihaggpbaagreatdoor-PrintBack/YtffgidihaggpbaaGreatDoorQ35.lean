/-
 Arguments, as the document reads them. Plain mathematics: no program in sight.
 A tree that is written is read as it was. Plain mathematics: no program in sight.
 A tree without what plays no part is the same tree. Plain mathematics: no program in sight.
 What the laws of words lean on: lists of words held against each other, and the small living call.
-/
import Derived.Test.YtffgidihaggpbaaGreatDoorQ34
import Derived.Test.YtffgidihaggpbaaGreatDoorQ33
import Derived.Test.YtffgidihaggpbaaGreatDoorQ32
import Derived.Test.YtffgidihaggpbaaGreatDoorQ28
import Derived.Deep.DeepCutAuto
import Derived.Deep.Light
import Derived.Deep.CutBlock
namespace Go.Proofs.YtffgidihaggpbaaGreatDoor
open Go.RowKit

theorem not_kn {s : List UInt8} (h : okP s = true) (L : List (List UInt8)) (hL : L.all (fun t => !okP t) = true) : s ∉ L := by
 intro hm
 have := List.all_eq_true.mp hL s hm
 rw [h] at this
 cases this
theorem kno_ok {s : List UInt8} (h : okP s = true) : kno s = none ∧ s ≠ wTrue ∧ s ≠ wFalse := by
 refine ⟨?_, fun hh => ?_, fun hh => ?_⟩
 · unfold kno
   rw [if_neg (not_kn h kn1 (by kernel_rfl)), if_neg (not_kn h kn2 (by kernel_rfl)), if_neg (not_kn h kn3 (by kernel_rfl)), if_neg (not_kn h kn4 (by kernel_rfl)), if_neg (not_kn h kn5 (by kernel_rfl))]
 · have e : okP wTrue = false := by kernel_rfl
   rw [hh, e] at h; cases h
 · have e : okP wFalse = false := by kernel_rfl
   rw [hh, e] at h; cases h
theorem brk_len {n d : Nat} {F : Rd} (hF : ShF n F) {ts ts1 : List Tk} {x : T} (h : Nz ts) (hn : ts.length ≤ n + 1) (e : brk F d ts = .ok (x, ts1)) : ts1.length + 3 ≤ ts.length := by
 unfold brk at e
 split at e
 · cases e
 · rename_i us1 h1
   have s1 := pass1_sh h h1
   have a1 := s1.2
   split at e
   · cases e
   · rename_i y us2 h2
     have s2 := hF _ _ s1.1 (by omega) y us2 h2
     have a2 := s2.2
     split at e
     · cases e
     · rename_i us3 h3
       have s3 := pass1_sh s2.1 h3
       have a3 := s3.2
       cases e
       omega
theorem call_k {F : Rd} {s : List UInt8} {a b d : Nat} {ts ts1 : List Tk} {x : T} (e : call F s a b d ts = .ok (x, ts1)) : x.k = 8 := by
 unfold call at e
 split at e
 · cases e
 · cases e; rfl
theorem brk_k {F : Rd} {d : Nat} {ts ts1 : List Tk} {x : T} (e : brk F d ts = .ok (x, ts1)) : ∃ us us1, F (d + 1) us = .ok (x, us1) := by
 unfold brk at e
 split at e
 · cases e
 · rename_i us1 h1
   split at e
   · cases e
   · rename_i y us2 h2
     split at e
     · cases e
     · cases e; exact ⟨_, _, h2⟩
/-- What is one word and a place is a word that names it. -/
theorem O_one {n d : Nat} (hd4 : d ≤ 40) {ts ts1 : List Tk} {x : T} (h : Nz ts) (hn : ts.length ≤ n) (e : O n d ts = .ok (x, ts1)) (h4 : x.k = 4) (hl : ts.length = ts1.length + 1) :
   (hd ts).1 = 2 ∧ okP (hd ts).2.2.1 = true ∧ ts1 = ts.tail := by
 cases n with
 | zero => cases e
 | succ n =>
   change opn (frm (O n)) (O n) d ts = _ at e
   unfold opn at e
   split at e
   · rw [tk1_ok hd4] at e
     dsimp only at e
     split at e
     · cases e
     · cases e; cases h4
   · unfold smp one at e
     rw [tk1_ok hd4] at e
     split at e
     · cases e; cases h4
     · split at e
       · cases e; cases h4
       · split at e
         · cases e; cases h4
         · split at e
           · rename_i hk
             unfold wrd one at e
             rw [tk1_ok hd4] at e
             split at e
             · cases e; cases h4
             · split at e
               · cases e; cases h4
               · split at e
                 · obtain ⟨us, us1, hc⟩ := brk_k e
                   rw [call_k hc] at h4
                   cases h4
                 · unfold refr at e
                   by_cases ho : (hd ts).1 = 2 ∧ okP (hd ts).2.2.1 = true
                   · rw [if_pos ho, tk1_ok hd4] at e
                     cases e
                     exact ⟨ho.1, ho.2, rfl⟩
                   · rw [if_neg ho] at e
                     cases e
           · have := brk_len (frm_sh (O_sh n)) h hn e
             omega
theorem cl_k {o : Rd} (k d : Nat) : ∀ (f : Nat) (x y : T) (ts ts' : List Tk), cl o d f k x ts = .ok (y, ts') → (y = x ∧ ts' = ts) ∨ y.k = 7 := by
 intro f
 induction f with
 | zero => intro x y ts ts' e; cases e; exact .inl ⟨rfl, rfl⟩
 | succ f ih =>
   intro x y ts ts' e
   unfold cl at e
   split at e
   · split at e
     · cases e
     · rcases ih _ _ _ _ e with ⟨h, _⟩ | h
       · exact .inr (by rw [h]; rfl)
       · exact .inr h
   · cases e; exact .inl ⟨rfl, rfl⟩
theorem O_ref {n d : Nat} (hd4 : d ≤ 40) {ts : List Tk} (h2 : (hd ts).1 = 2) (ho : okP (hd ts).2.2.1 = true) : O (n + 1) d ts = .ok (tRef (rfP (hd ts).2.2.1), ts.tail) := by
 obtain ⟨a1, a2, a3⟩ := kno_ok ho
 show opn (frm (O n)) (O n) d ts = _
 have hs : isSg [45] ts = false := by unfold isSg; rw [h2]; rfl
 unfold opn smp wrd refr
 rw [hs, if_neg (by decide), if_neg (by omega), if_neg (by omega), if_neg (by omega), if_pos h2, if_neg a2, if_neg a3, a1, if_pos ⟨h2, ho⟩, tk1_ok hd4]
/-- An argument, as the document reads it. -/
theorem argm_doc {n d : Nat} (hd4 : d ≤ 40) {ts : List Tk} (h : Nz ts) (hn : ts.length ≤ n) : argm (frm (O n)) d ts =
   if (hd ts).1 = 2 ∧ okP (hd ts).2.2.1 = true ∧ isSg [58] ts.tail = true then (match refr d ts.tail.tail with | .error e => .error e | .ok (q, ts3) => .ok (tRange (rfP (hd ts).2.2.1) q, ts3)) else frm (O n) d ts := by
 have hC : frm (O n) d ts = thenR (O n d ts) (fun x ts1 => cl (O n) d ts1.length 1 x ts1) := clm_all (O_sh n) hd4 1 (by decide) (by decide) ts h hn
 by_cases hc : (hd ts).1 = 2 ∧ okP (hd ts).2.2.1 = true ∧ isSg [58] ts.tail = true
 · rw [if_pos hc]
   obtain ⟨c1, c2, c3⟩ := hc
   obtain ⟨m, rfl⟩ : ∃ m, n = m + 1 := ⟨n - 1, by have := h.pos; omega⟩
   rw [O_ref hd4 c1 c2] at hC
   have ht := h.tail (by rw [c1]; decide)
   have hcl : cl (O (m + 1)) d ts.tail.length 1 (tRef (rfP (hd ts).2.2.1)) ts.tail = .ok (tRef (rfP (hd ts).2.2.1), ts.tail) := by
     obtain ⟨g, hg⟩ : ∃ g, ts.tail.length = g + 1 := ⟨ts.tail.length - 1, by have := ht.1.pos; omega⟩
     rw [hg, cl, if_neg]
     rintro ⟨_, h1⟩
     rw [(isSg_k c3).2] at h1
     exact absurd h1 (by decide)
   have hF : frm (O (m + 1)) d ts = .ok (tRef (rfP (hd ts).2.2.1), ts.tail) := hC.trans hcl
   unfold argm
   rw [hF]
   dsimp only
   rw [if_pos ⟨rfl, ht.2.symm, c3⟩, tk1_ok hd4]
   rfl
 · rw [if_neg hc]
   unfold argm
   cases hF : frm (O n) d ts with
   | error e => rfl
   | ok q =>
     obtain ⟨x, ts1⟩ := q
     dsimp only
     rw [if_neg]
     rintro ⟨h4, hl, h58⟩
     rw [hF] at hC
     cases hO : O n d ts with
     | error e => rw [hO] at hC; cases hC
     | ok q =>
       obtain ⟨y, us⟩ := q
       rw [hO] at hC
       rcases cl_k 1 d _ _ _ _ _ hC.symm with ⟨rfl, rfl⟩ | h7
       · obtain ⟨a1, a2, a3⟩ := O_one hd4 h hn hO h4 hl
         exact hc ⟨a1, a2, a3 ▸ h58⟩
       · rw [h7] at h4; cases h4

open Go.RowKit
set_option maxHeartbeats 2000000

/-- A tree without what plays no part. -/
def nf : Nat → T → T
 | 0, _ => tz
 | n + 1, t => if t.k = 0 then tNum t.n else if t.k = 1 then tText t.s else if t.k = 2 then tBool t.n else if t.k = 3 then tErr t.e else if t.k = 4 then tRef t.r else if t.k = 5 then tRange t.r t.q else if t.k = 6 then tNeg (nf n (hdT t.l)) else if t.k = 7 then tBin t.s (nf n (hdT t.l)) (nf n (sdT t.l)) else tCall t.s (t.l.map (nf n))
def b1 (b : Bool) : Nat := if b then 1 else 0
/-- How deep a tree that is written lies in brackets, calls and signs. -/
def dpT : Nat → T → Nat
 | 0, _ => 0
 | n + 1, t => if t.k = 6 then 1 + (b1 (loose 5 (hdT t.l)) + dpT n (hdT t.l)) else if t.k = 7 then max (b1 (loose (bnd t.s) (hdT t.l)) + dpT n (hdT t.l)) (b1 (loose (bnd t.s + 1) (sdT t.l)) + dpT n (sdT t.l)) else if t.k = 8 then 1 + maxD (dpT n) t.l else 0
theorem map_cons2 {us : List Tk} {x : Sk} {xs : List Sk} (h : us.map stp = x :: xs) : ∃ a vs, us = (x.1, a, x.2) :: vs ∧ vs.map stp = xs := by
 cases us with
 | nil => cases h
 | cons u vs =>
   rw [List.map_cons] at h
   injection h with h1 h2
   refine ⟨u.2.1, vs, ?_, h2⟩
   subst h1
   rfl
theorem map_one2 {us : List Tk} {x : Sk} (h : us.map stp = [x]) : ∃ a, us = [(x.1, a, x.2)] := by
 obtain ⟨a, vs, h1, h2⟩ := map_cons2 h
 rw [List.map_eq_nil_iff] at h2
 subst h2
 exact ⟨a, h1⟩
theorem map_app2 {us : List Tk} {xs ys : List Sk} (h : us.map stp = xs ++ ys) : ∃ vs ws, us = vs ++ ws ∧ vs.map stp = xs ∧ ws.map stp = ys := by
 obtain ⟨vs, ws, h1, h2, h3⟩ := List.map_eq_append_iff.1 h
 exact ⟨vs, ws, h1, h2, h3⟩
theorem Nz.pre {ts : List Tk} (h : Nz ts) (us : List Tk) : Nz (us ++ ts) := by
 obtain ⟨p, t, rfl, h1⟩ := h
 exact ⟨us ++ p, t, by rw [List.append_assoc], h1⟩
theorem Nz.con {ts : List Tk} (h : Nz ts) (u : Tk) : Nz (u :: ts) := h.pre [u]
theorem O_num {m d : Nat} (h : d ≤ 40) (a v e : Int) (s : List UInt8) (rest : List Tk) : O (m + 1) d ((0, a, s, v, e) :: rest) = .ok (tNum v, rest) := by
 show opn (frm (O m)) (O m) d _ = _
 simp [opn, smp, one, isSg, hd, tk1_ok h]
theorem O_txt {m d : Nat} (h : d ≤ 40) (a v e : Int) (s : List UInt8) (rest : List Tk) : O (m + 1) d ((1, a, s, v, e) :: rest) = .ok (tText s, rest) := by
 show opn (frm (O m)) (O m) d _ = _
 simp [opn, smp, one, isSg, hd, tk1_ok h]
theorem O_err {m d : Nat} (h : d ≤ 40) (a v e : Int) (s : List UInt8) (rest : List Tk) : O (m + 1) d ((4, a, s, v, e) :: rest) = .ok (tErr e, rest) := by
 show opn (frm (O m)) (O m) d _ = _
 simp [opn, smp, one, isSg, hd, tk1_ok h]
theorem O_true {m d : Nat} (h : d ≤ 40) (a v e : Int) (rest : List Tk) : O (m + 1) d ((2, a, wTrue, v, e) :: rest) = .ok (tBool 1, rest) := by
 show opn (frm (O m)) (O m) d _ = _
 simp [opn, smp, wrd, one, isSg, hd, tk1_ok h]
theorem O_false {m d : Nat} (h : d ≤ 40) (a v e : Int) (rest : List Tk) : O (m + 1) d ((2, a, wFalse, v, e) :: rest) = .ok (tBool 0, rest) := by
 show opn (frm (O m)) (O m) d _ = _
 have hne : ¬ wFalse = wTrue := by decide
 simp [opn, smp, wrd, one, isSg, hd, tk1_ok h, hne]
theorem rf_back {r : Rf} (h : inB r.1 r.2.1 = true) : okP (rfL r) = true ∧ rfP (rfL r) = r := by
 obtain ⟨h1, h2⟩ := print_read r.1 r.2.1 r.2.2.1 r.2.2.2 h
 have e : rfL r = printR r.1 r.2.1 r.2.2.1 r.2.2.2 := rfl
 rw [e]
 refine ⟨h1, ?_⟩
 unfold prV at h2
 rw [if_pos h1] at h2
 unfold refD at h2
 simp at h2
 obtain ⟨q1, q2, q3, q4⟩ := h2
 unfold rfP
 rw [q1, q2, q3, q4]
theorem O_rf {m d : Nat} (h : d ≤ 40) {r : Rf} (hr : inB r.1 r.2.1 = true) (a v e : Int) (rest : List Tk) : O (m + 1) d ((2, a, rfL r, v, e) :: rest) = .ok (tRef r, rest) := by
 obtain ⟨h1, h2⟩ := rf_back hr
 have := O_ref (n := m) h (ts := (2, a, rfL r, v, e) :: rest) rfl h1
 rw [this]
 show Except.ok (tRef (rfP (rfL r)), rest) = _
 rw [h2]
theorem O_neg {m d : Nat} (h : d ≤ 40) (a v e : Int) (ts : List Tk) {x : T} {rest : List Tk} (hO : O m (d + 1) ts = .ok (x, rest)) : O (m + 1) d ((3, a, [45], v, e) :: ts) = .ok (tNeg x, rest) := by
 show opn (frm (O m)) (O m) d _ = _
 have hs : isSg [45] ((3, a, [45], v, e) :: ts) = true := by simp [isSg, hd]
 unfold opn
 rw [if_pos hs, tk1_ok h]
 show (match O m (d + 1) ts with | .error e => (.error e : Rs) | .ok (x, ts2) => .ok (tNeg x, ts2)) = _
 rw [hO]
theorem pass_ok {p : List UInt8} {d : Nat} (h : d ≤ 40) (a v e : Int) (ts : List Tk) : pass1 p d ((3, a, p, v, e) :: ts) = .ok ts := by
 unfold pass1
 have : isSg p ((3, a, p, v, e) :: ts) = true := by simp [isSg, hd]
 rw [if_pos this, tk1_ok h]
 rfl
theorem brk_ok {F : Rd} {d : Nat} (h : d ≤ 40) {ts : List Tk} {a v e b v' e' : Int} {x : T} {rest : List Tk} (hF : F (d + 1) ts = .ok (x, (3, b, [41], v', e') :: rest)) : brk F d ((3, a, [40], v, e) :: ts) = .ok (x, rest) := by
 unfold brk
 rw [pass_ok h]
 show (match F (d + 1) ts with | .error e => (.error e : Rs) | .ok (x, ts2) => match pass1 [41] d ts2 with | .error e => .error e | .ok ts3 => .ok (x, ts3)) = _
 rw [hF]
 show (match pass1 [41] d ((3, b, [41], v', e') :: rest) with | .error e => (.error e : Rs) | .ok ts3 => .ok (x, ts3)) = _
 rw [pass_ok h]
theorem O_brk {m d : Nat} (h : d ≤ 40) {ts : List Tk} {a v e b v' e' : Int} {x : T} {rest : List Tk} (hF : frm (O m) (d + 1) ts = .ok (x, (3, b, [41], v', e') :: rest)) : O (m + 1) d ((3, a, [40], v, e) :: ts) = .ok (x, rest) := by
 show opn (frm (O m)) (O m) d _ = _
 have := brk_ok h (a := a) (v := v) (e := e) hF
 simp [opn, smp, isSg, hd]
 exact this
theorem O_call {m d p q : Nat} (h : d ≤ 40) {s : List UInt8} (hk : kno s = some (p, q)) {ts : List Tk} {a v e a1 v1 e1 b v' e' : Int} {l : List T} {rest : List Tk} (hF : args (frm (O m)) p q (d + 1) ts = .ok (l, (3, b, [41], v', e') :: rest)) : O (m + 1) d ((2, a, s, v, e) :: (3, a1, [40], v1, e1) :: ts) = .ok (tCall s l, rest) := by
 show opn (frm (O m)) (O m) d _ = _
 obtain ⟨_, _, _, _, n1, n2⟩ := kno_wd hk
 have hc : call (frm (O m)) s p q (d + 1) ts = .ok (tCall s l, (3, b, [41], v', e') :: rest) := by unfold call; rw [hF]
 have := brk_ok (F := call (frm (O m)) s p q) h (a := a1) (v := v1) (e := e1) hc
 simp [opn, smp, wrd, isSg, hd, n1, n2, hk, tk1_ok h]
 exact this
theorem cl_halt {o : Rd} {d f k : Nat} {x : T} {ts : List Tk} (h : ¬ ((hd ts).1 = 3 ∧ k ≤ bnd (hd ts).2.2.1)) : cl o d f k x ts = .ok (x, ts) := by
 cases f with
 | zero => rfl
 | succ f => rw [cl, if_neg h]
theorem lv_of_O {m d k : Nat} (h : d ≤ 40) (h1 : 1 ≤ k) (h5 : k ≤ 5) {ts rest : List Tk} {x : T} (hz : Nz ts) (hn : ts.length ≤ m) (hO : O m d ts = .ok (x, rest)) : LvK (O m) k d ts = cl (O m) d rest.length k x rest := by
 rw [clm_all (O_sh m) h k h1 h5 ts hz hn, hO]
 rfl
/-- What is read of a tree that is written. -/
def Rdb (n : Nat) (t : T) : Prop := ∀ (m d : Nat) (us rest : List Tk), us.map stp = tkL n t → Nz rest → (us ++ rest).length ≤ m → d + dpT n t ≤ 40 →
 (t.k ≠ 7 → O m d (us ++ rest) = .ok (nf n t, rest)) ∧
 (t.k = 7 → ∀ k, 1 ≤ k → k ≤ bnd t.s → ¬ ((hd rest).1 = 3 ∧ bnd t.s < bnd (hd rest).2.2.1) → LvK (O m) k d (us ++ rest) = cl (O m) d rest.length k (nf n t) rest)
theorem brk_read {n : Nat} {x : T} (hx : Rdb n x) (k7 : x.k = 7) (hb : bnd x.s ≠ 0) (m d : Nat) (us rest : List Tk) (hu : us.map stp = (3, [40], 0, 0) :: (tkL n x ++ [(3, [41], 0, 0)])) (hz : Nz rest) (hn : (us ++ rest).length ≤ m) (hdp : d + (1 + dpT n x) ≤ 40) : O m d (us ++ rest) = .ok (nf n x, rest) := by
 obtain ⟨a, vs, rfl, hv⟩ := map_cons2 hu
 obtain ⟨ws, cs, rfl, hw, hc⟩ := map_app2 hv
 obtain ⟨b, rfl⟩ := map_one2 hc
 obtain ⟨m, rfl⟩ : ∃ k, m = k + 1 := ⟨m - 1, by simp at hn; omega⟩
 have hc2 : ¬ ((hd ((3, b, [41], 0, 0) :: rest : List Tk)).1 = 3 ∧ 1 ≤ bnd (hd ((3, b, [41], 0, 0) :: rest : List Tk)).2.2.1) := by
   rintro ⟨_, h⟩
   exact absurd h (by show ¬ 1 ≤ bnd [41]; decide)
 have h1 := (hx m (d + 1) ws ((3, b, [41], 0, 0) :: rest) hw (hz.con _) (by simp at hn ⊢; omega) (by omega)).2 k7 1 (by omega) (by omega) (by
   rintro ⟨_, h⟩
   have : bnd (hd ((3, b, [41], 0, 0) :: rest : List Tk)).2.2.1 = 0 := by show bnd [41] = 0; decide
   rw [this] at h
   omega)
 have h2 : frm (O m) (d + 1) (ws ++ (3, b, [41], 0, 0) :: rest) = .ok (nf n x, (3, b, [41], 0, 0) :: rest) := by
   show LvK (O m) 1 (d + 1) _ = _
   rw [h1, cl_halt hc2]
 have := O_brk (m := m) (d := d) (by omega) (a := a) (v := 0) (e := 0) h2
 rw [← this]
 simp
theorem loose_k {k : Nat} {x : T} (h : loose k x = true) : x.k = 7 ∧ bnd x.s < k := by
 unfold loose at h
 simpa using h
theorem tight_k {k : Nat} {x : T} (h : loose k x = false) (h7 : x.k = 7) : k ≤ bnd x.s := by
 unfold loose at h
 simp [h7] at h
 exact h
theorem well_bnd {n : Nat} {x : T} (hw : wellT n x = true) (k7 : x.k = 7) : bnd x.s ≠ 0 := by
 cases n with
 | zero => cases hw
 | succ n => obtain ⟨_, _, _, h, _⟩ := well7 hw k7; exact h
theorem O_part {n : Nat} {x : T} (hx : Rdb n x) (hw : wellT n x = true) (m d : Nat) (us rest : List Tk) (hu : us.map stp = bkT (loose 5 x) (tkL n x)) (hz : Nz rest) (hn : (us ++ rest).length ≤ m) (hdp : d + (b1 (loose 5 x) + dpT n x) ≤ 40) : O m d (us ++ rest) = .ok (nf n x, rest) := by
 cases hl : loose 5 x with
 | true =>
   rw [hl] at hu hdp
   exact brk_read hx (loose_k hl).1 (well_bnd hw (loose_k hl).1) m d us rest hu hz hn hdp
 | false =>
   rw [hl] at hu hdp
   refine (hx m d us rest hu hz hn (by simp [b1] at hdp; omega)).1 ?_
   intro h7
   have := tight_k hl h7
   have := bnd_le4 x.s
   omega
theorem lvl {n : Nat} {x : T} (hx : Rdb n x) (hw : wellT n x = true) (m d : Nat) (us rest : List Tk) (k j : Nat) (hu : us.map stp = bkT (loose j x) (tkL n x)) (hz : Nz rest) (hn : (us ++ rest).length ≤ m) (hdp : d + (b1 (loose j x) + dpT n x) ≤ 40) (h1 : 1 ≤ k) (hkj : k ≤ j) (hj : j ≤ 5)
   (hs : loose j x = false → x.k = 7 → ¬ ((hd rest).1 = 3 ∧ bnd x.s < bnd (hd rest).2.2.1)) : LvK (O m) k d (us ++ rest) = cl (O m) d rest.length k (nf n x) rest := by
 have hd4 : d ≤ 40 := by omega
 cases hl : loose j x with
 | true =>
   rw [hl] at hu hdp
   exact lv_of_O hd4 h1 (by omega) (hz.pre us) hn (brk_read hx (loose_k hl).1 (well_bnd hw (loose_k hl).1) m d us rest hu hz hn hdp)
 | false =>
   rw [hl] at hu hdp
   have hh := hx m d us rest hu hz hn (by simp [b1] at hdp; omega)
   by_cases h7 : x.k = 7
   · exact hh.2 h7 k h1 (by have := tight_k hl h7; omega) (hs hl h7)
   · exact lv_of_O hd4 h1 (by omega) (hz.pre us) hn (hh.1 h7)
/-- Arguments. -/
def Arg (n : Nat) (x : T) : Prop := ∀ (m d : Nat) (us rest : List Tk), us.map stp = tkL n x → Nz rest → (us ++ rest).length ≤ m → d + dpT n x ≤ 40 → ((hd rest).1 = 3 ∧ ((hd rest).2.2.1 = [44] ∨ (hd rest).2.2.1 = [41])) → argm (frm (O m)) d (us ++ rest) = .ok (nf n x, rest)
theorem arg_of {n : Nat} {x : T} (hx : Rdb n x) (hw : wellT n x = true) : Arg n x := by
 intro m d us rest hu hz hn hdp hs
 have hl : loose 1 x = false := by
   cases h : loose 1 x with
   | false => rfl
   | true =>
     obtain ⟨h7, hb⟩ := loose_k h
     have := well_bnd hw h7
     omega
 have hb0 : bnd (hd rest).2.2.1 = 0 := by rcases hs.2 with h | h <;> rw [h] <;> decide
 have h1 := lvl hx hw m d us rest 1 1 (by rw [hl]; exact hu) hz hn (by rw [hl]; simp [b1]; omega) (by omega) (by omega) (by omega) (fun _ _ h => by rw [hb0] at h; omega)
 rw [cl_halt (by rintro ⟨_, h⟩; rw [hb0] at h; omega)] at h1
 have hF : frm (O m) d (us ++ rest) = .ok (nf n x, rest) := h1
 unfold argm
 rw [hF]
 dsimp only
 rw [if_neg]
 rintro ⟨_, _, h⟩
 have := (isSg_k h).2
 rcases hs.2 with h | h <;> rw [h] at this <;> exact absurd this (by decide)
theorem arg_range {n : Nat} {x : T} (k5 : x.k = 5) (h1 : inB x.r.1 x.r.2.1 = true) (h2 : inB x.q.1 x.q.2.1 = true) : Arg (n + 1) x := by
 intro m d us rest hu hz hn hdp hs
 have ht : tkL (n + 1) x = [(2, rfL x.r, 0, 0), (3, [58], 0, 0), (2, rfL x.q, 0, 0)] := by
   unfold tkL
   rw [if_neg (by omega), if_neg (by omega), if_neg (by omega), if_neg (by omega), if_neg (by omega), if_pos k5]
 have hf : nf (n + 1) x = tRange x.r x.q := by
   unfold nf
   rw [if_neg (by omega), if_neg (by omega), if_neg (by omega), if_neg (by omega), if_neg (by omega), if_pos k5]
 rw [ht] at hu
 obtain ⟨a, vs, rfl, hv⟩ := map_cons2 hu
 obtain ⟨b, ws, rfl, hw⟩ := map_cons2 hv
 obtain ⟨c, rfl⟩ := map_one2 hw
 obtain ⟨p1, p2⟩ := rf_back h1
 obtain ⟨q1, q2⟩ := rf_back h2
 have hd4 : d ≤ 40 := by omega
 rw [argm_doc hd4 (hz.pre _) hn]
 have hc : (hd ([(2, a, rfL x.r, 0, 0), (3, b, [58], 0, 0), (2, c, rfL x.q, 0, 0)] ++ rest : List Tk)).1 = 2 ∧ okP (hd ([(2, a, rfL x.r, 0, 0), (3, b, [58], 0, 0), (2, c, rfL x.q, 0, 0)] ++ rest : List Tk)).2.2.1 = true ∧ isSg [58] ([(2, a, rfL x.r, 0, 0), (3, b, [58], 0, 0), (2, c, rfL x.q, 0, 0)] ++ rest : List Tk).tail = true := ⟨rfl, p1, by rfl⟩
 rw [if_pos hc]
 have hr : refr d ((2, c, rfL x.q, 0, 0) :: rest) = .ok (x.q, rest) := by
   unfold refr
   have hk : (hd ((2, c, rfL x.q, 0, 0) :: rest : List Tk)).1 = 2 ∧ okP (hd ((2, c, rfL x.q, 0, 0) :: rest : List Tk)).2.2.1 = true := ⟨rfl, q1⟩
   rw [if_pos hk, tk1_ok hd4]
   show Except.ok (rfP (rfL x.q), rest) = _
   rw [q2]
 show (match refr d ((2, c, rfL x.q, 0, 0) :: rest) with | .error e => (.error e : Rs) | .ok (q, ts3) => .ok (tRange (rfP (rfL x.r)) q, ts3)) = _
 rw [hr, p2, hf]
theorem joinT_cons (a : List Sk) (r : List (List Sk)) : joinT (a :: r) = a ++ (r.map (fun u => ((3, [44], 0, 0) : Sk) :: u)).flatten := by
 induction r generalizing a with
 | nil => simp [joinT]
 | cons b r ih => rw [joinT, ih b]; simp
/-- The arguments that are left. -/
theorem argl_read (n m d p q : Nat) (close : Tk) (hc : close.1 = 3 ∧ close.2.2.1 = [41]) (rest : List Tk) (hz : Nz rest) : ∀ (r : List T) (done : List T) (us : List Tk) (f : Nat), (∀ x ∈ r, Arg n x) → (∀ x ∈ r, d + dpT n x ≤ 40) → d ≤ 40 → us.map stp = (r.map (fun x => ((3, [44], 0, 0) : Sk) :: tkL n x)).flatten → (us ++ close :: rest).length ≤ m → (us ++ close :: rest).length ≤ f → p ≤ done.length + r.length → done.length + r.length ≤ q →
   argl (frm (O m)) p q d f done (us ++ close :: rest) = .ok (done ++ r.map (nf n), close :: rest) := by
 intro r
 induction r with
 | nil =>
   intro done us f _ _ _ hu hn hf hp hq
   have : us = [] := List.map_eq_nil_iff.1 hu
   subst this
   cases f with
   | zero => simp at hf
   | succ f =>
     rw [argl, if_neg]
     · simp
     · rintro (h | ⟨_, h⟩)
       · simp at hp; omega
       · have := (isSg_k h).2
         rw [List.nil_append] at this
         change close.2.2.1 = _ at this
         rw [hc.2] at this
         exact absurd this (by decide)
 | cons x r ih =>
   intro done us f hA hD hd4 hu hn hf hp hq
   rw [List.map_cons, List.flatten_cons, List.cons_append] at hu
   obtain ⟨a, vs, rfl, hv⟩ := map_cons2 hu
   obtain ⟨ux, ur, rfl, h1, h2⟩ := map_app2 hv
   cases f with
   | zero => simp at hf
   | succ f =>
     have hs : isSg [44] ((3, a, [44], 0, 0) :: (ux ++ ur) ++ close :: rest : List Tk) = true := by rfl
     rw [argl, if_pos (.inr ⟨by simp at hq; omega, hs⟩)]
     have hp1 : pass1 [44] d ((3, a, [44], 0, 0) :: (ux ++ ur) ++ close :: rest : List Tk) = .ok (ux ++ (ur ++ close :: rest)) := by
       rw [List.cons_append, pass_ok hd4, List.append_assoc]
     have hh : (hd (ur ++ close :: rest)).1 = 3 ∧ ((hd (ur ++ close :: rest)).2.2.1 = [44] ∨ (hd (ur ++ close :: rest)).2.2.1 = [41]) := by
       cases r with
       | nil =>
         have : ur = [] := List.map_eq_nil_iff.1 h2
         subst this
         exact ⟨hc.1, .inr hc.2⟩
       | cons y r =>
         rw [List.map_cons, List.flatten_cons, List.cons_append] at h2
         obtain ⟨a2, v2, rfl, _⟩ := map_cons2 h2
         exact ⟨rfl, .inl rfl⟩
     have hm : argm (frm (O m)) d (ux ++ (ur ++ close :: rest)) = .ok (nf n x, ur ++ close :: rest) := hA x List.mem_cons_self m d ux (ur ++ close :: rest) h1 ((hz.con close).pre ur) (by simp at hn ⊢; omega) (hD x List.mem_cons_self) hh
     rw [hp1]
     show (match argm (frm (O m)) d (ux ++ (ur ++ close :: rest)) with | .error e => (.error e : Except Ft (List T × List Tk)) | .ok (x, ts2) => argl (frm (O m)) p q d f (done ++ [x]) ts2) = _
     rw [hm]
     show argl (frm (O m)) p q d f (done ++ [nf n x]) (ur ++ close :: rest) = _
     rw [ih (done ++ [nf n x]) ur f (fun y hy => hA y (List.mem_cons_of_mem _ hy)) (fun y hy => hD y (List.mem_cons_of_mem _ hy)) hd4 h2 (by simp at hn ⊢; omega) (by simp at hf ⊢; omega) (by simp at hp ⊢; omega) (by simp at hq ⊢; omega)]
     simp
theorem maxD_mem (f : T → Nat) (l : List T) (x : T) (h : x ∈ l) : f x ≤ maxD f l := by
 induction l with
 | nil => cases h
 | cons a r ih =>
   unfold maxD
   rcases List.mem_cons.1 h with rfl | h
   · omega
   · have := ih h; omega
/-- A tree that is written is read. -/
theorem rdb_all (n : Nat) : ∀ t : T, Hr n t → wellT n t = true → Rdb n t := by
 induction n with
 | zero => intro t h; cases h
 | succ n ih =>
   intro t hr hw m d us rest hu hz hn hdp
   have hk := well_k hw
   have hm1 : 1 ≤ m := by have := hz.pos; simp at hn; omega
   obtain ⟨m, rfl⟩ : ∃ k, m = k + 1 := ⟨m - 1, by omega⟩
   by_cases k0 : t.k = 0
   · refine ⟨fun _ => ?_, fun h => by omega⟩
     unfold tkL at hu
     unfold nf
     rw [if_pos k0] at hu ⊢
     obtain ⟨a, rfl⟩ := map_one2 hu
     exact O_num (by omega) _ _ _ _ _
   by_cases k1 : t.k = 1
   · refine ⟨fun _ => ?_, fun h => by omega⟩
     unfold tkL at hu
     unfold nf
     rw [if_neg k0, if_pos k1] at hu ⊢
     obtain ⟨a, rfl⟩ := map_one2 hu
     exact O_txt (by omega) _ _ _ _ _
   by_cases k2 : t.k = 2
   · refine ⟨fun _ => ?_, fun h => by omega⟩
     unfold tkL at hu
     unfold nf
     rw [if_neg k0, if_neg k1, if_pos k2] at hu ⊢
     obtain ⟨a, rfl⟩ := map_one2 hu
     by_cases hn1 : t.n = 1
     · rw [if_pos hn1, hn1]
       exact O_true (by omega) _ _ _ _
     · have h0 : t.n = 0 := by
         unfold wellT at hw
         simp [k2] at hw
         omega
       rw [if_neg hn1, h0]
       exact O_false (by omega) _ _ _ _
   by_cases k3 : t.k = 3
   · refine ⟨fun _ => ?_, fun h => by omega⟩
     unfold tkL at hu
     unfold nf
     rw [if_neg k0, if_neg k1, if_neg k2, if_pos k3] at hu ⊢
     obtain ⟨a, rfl⟩ := map_one2 hu
     exact O_err (by omega) _ _ _ _ _
   by_cases k4 : t.k = 4
   · refine ⟨fun _ => ?_, fun h => by omega⟩
     unfold tkL at hu
     unfold nf
     rw [if_neg k0, if_neg k1, if_neg k2, if_neg k3, if_pos k4] at hu ⊢
     obtain ⟨a, rfl⟩ := map_one2 hu
     exact O_rf (by omega) (by unfold wellT at hw; simpa [k4] using hw) _ _ _ _
   have k5 : ¬ t.k = 5 := by omega
   by_cases k6 : t.k = 6
   · refine ⟨fun _ => ?_, fun h => by omega⟩
     obtain ⟨x, hl, hx⟩ := well6 hw k6
     unfold tkL at hu
     unfold nf
     unfold dpT at hdp
     rw [if_neg k0, if_neg k1, if_neg k2, if_neg k3, if_neg k4, if_neg k5, if_pos k6, hl] at hu ⊢
     rw [if_pos k6, hl] at hdp
     obtain ⟨a, vs, rfl, hv⟩ := map_cons2 hu
     have hx9 := ih x (hr.2 x (by rw [hl]; simp)) hx
     have h9 := O_part hx9 hx m (d + 1) vs rest hv hz (by simp at hn ⊢; omega) (by show d + 1 + (b1 (loose 5 x) + dpT n x) ≤ 40; change d + (1 + (b1 (loose 5 x) + dpT n x)) ≤ 40 at hdp; omega)
     exact O_neg (by omega) _ _ _ _ h9
   by_cases k7 : t.k = 7
   · refine ⟨fun h => absurd k7 h, fun _ k hk1 hkb hst => ?_⟩
     obtain ⟨x, y, hl, hb, hx, hy⟩ := well7 hw k7
     unfold tkL at hu
     unfold nf
     unfold dpT at hdp
     rw [if_neg k0, if_neg k1, if_neg k2, if_neg k3, if_neg k4, if_neg k5, if_neg k6, if_pos k7, hl] at hu ⊢
     rw [if_neg k6, if_pos k7, hl] at hdp
     change d + max (b1 (loose (bnd t.s) x) + dpT n x) (b1 (loose (bnd t.s + 1) y) + dpT n y) ≤ 40 at hdp
     change us.map stp = bkT (loose (bnd t.s) x) (tkL n x) ++ (3, t.s, 0, 0) :: bkT (loose (bnd t.s + 1) y) (tkL n y) at hu
     show LvK (O (m + 1)) k d (us ++ rest) = cl (O (m + 1)) d rest.length k (tBin t.s (nf n x) (nf n y)) rest
     obtain ⟨ux, vs, rfl, h1, h2⟩ := map_app2 hu
     obtain ⟨a, uy, rfl, h3⟩ := map_cons2 h2
     have hb4 := bnd_le4 t.s
     have hx9 := ih x (hr.2 x (by rw [hl]; simp)) hx
     have hy9 := ih y (hr.2 y (by rw [hl]; simp)) hy
     have ex := lvl hx9 hx (m + 1) d ux ((3, a, t.s, 0, 0) :: (uy ++ rest)) k (bnd t.s) h1 ((hz.pre uy).con _) (by simp at hn ⊢; omega) (by omega) hk1 hkb (by omega) (fun hl7 h7 => by
       rintro ⟨_, h⟩
       have := tight_k hl7 h7
       change bnd x.s < bnd t.s at h
       omega)
     have ey := lvl hy9 hy (m + 1) d uy rest (bnd t.s + 1) (bnd t.s + 1) h3 hz (by simp at hn ⊢; omega) (by omega) (by omega) (by omega) (by omega) (fun hl7 h7 => by
       rintro ⟨h3', h⟩
       have := tight_k hl7 h7
       exact hst ⟨h3', by omega⟩)
     rw [cl_halt (by rintro ⟨h3', h⟩; exact hst ⟨h3', by omega⟩)] at ey
     have el : (ux ++ (3, a, t.s, 0, 0) :: uy) ++ rest = ux ++ (3, a, t.s, 0, 0) :: (uy ++ rest) := by simp
     rw [el, ex, List.length_cons, cl]
     have hc : (hd ((3, a, t.s, 0, 0) :: (uy ++ rest) : List Tk)).1 = 3 ∧ k ≤ bnd (hd ((3, a, t.s, 0, 0) :: (uy ++ rest) : List Tk)).2.2.1 := ⟨rfl, hkb⟩
     rw [if_pos hc]
     show (match LvK (O (m + 1)) (bnd t.s + 1) d (uy ++ rest) with | .error e => (.error e : Rs) | .ok (y, ts2) => cl (O (m + 1)) d (uy ++ rest).length k (tBin t.s (nf n x) y) ts2) = _
     rw [ey]
     show cl (O (m + 1)) d (uy ++ rest).length k (tBin t.s (nf n x) (nf n y)) rest = _
     exact cl_fuel (O_sh (m + 1)) k d _ _ _ rest hz (by simp at hn; omega) (by simp) (Nat.le_refl _)
   · have k8 : t.k = 8 := by omega
     refine ⟨fun _ => ?_, fun h => by omega⟩
     obtain ⟨p, q, hkn, hp, hq, hx⟩ := well8 hw k8
     unfold tkL at hu
     unfold nf
     unfold dpT at hdp
     rw [if_neg k0, if_neg k1, if_neg k2, if_neg k3, if_neg k4, if_neg k5, if_neg k6, if_neg k7] at hu ⊢
     rw [if_neg k6, if_neg k7, if_pos k8] at hdp
     obtain ⟨a, v1, rfl, hu1⟩ := map_cons2 hu
     obtain ⟨b, v2, rfl, hu2⟩ := map_cons2 hu1
     clear hu hu1
     obtain ⟨v3, v4, rfl, hu, h4⟩ := map_app2 hu2
     clear hu2
     obtain ⟨c, rfl⟩ := map_one2 h4
     have hA : ∀ x ∈ t.l, Arg n x := by
       intro x hxm
       have h1 := hx x hxm
       have h2 := hr.2 x hxm
       unfold argT at h1
       cases n with
       | zero => cases h2
       | succ n =>
         by_cases k : x.k = 5
         · rw [if_pos k, Bool.and_eq_true] at h1
           exact arg_range k h1.1 h1.2
         · rw [if_neg k] at h1
           exact arg_of (ih x h2 h1) h1
     have hD : ∀ x ∈ t.l, d + 1 + dpT n x ≤ 40 := by
       intro x hxm
       have := maxD_mem (dpT n) t.l x hxm
       omega
     have hp1 := (kno_wd hkn).2.2.1
     match hl : t.l with
     | [] => rw [hl] at hp; simp at hp hp1; omega
     | x :: r =>
       rw [hl] at hu hA hD hp hq
       rw [List.map_cons, joinT_cons] at hu
       obtain ⟨ux, ur, rfl, e1, e2⟩ := map_app2 hu
       rw [List.map_map] at e2
       have hargs : args (frm (O m)) p q (d + 1) (ux ++ (ur ++ (3, c, [41], 0, 0) :: rest)) = .ok ((x :: r).map (nf n), (3, c, [41], 0, 0) :: rest) := by
         have hh : (hd (ur ++ (3, c, [41], 0, 0) :: rest)).1 = 3 ∧ ((hd (ur ++ (3, c, [41], 0, 0) :: rest)).2.2.1 = [44] ∨ (hd (ur ++ (3, c, [41], 0, 0) :: rest)).2.2.1 = [41]) := by
           cases r with
           | nil =>
             have : ur = [] := List.map_eq_nil_iff.1 e2
             subst this
             exact ⟨rfl, .inr rfl⟩
           | cons y r =>
             rw [List.map_cons, List.flatten_cons] at e2
             obtain ⟨a2, v2, rfl, _⟩ := map_cons2 e2
             exact ⟨rfl, .inl rfl⟩
         have hm := hA x List.mem_cons_self m (d + 1) ux (ur ++ (3, c, [41], 0, 0) :: rest) e1 ((hz.con _).pre ur) (by simp at hn ⊢; omega) (hD x List.mem_cons_self) hh
         unfold args
         rw [hm]
         show argl (frm (O m)) p q (d + 1) (ur ++ (3, c, [41], 0, 0) :: rest).length [nf n x] (ur ++ (3, c, [41], 0, 0) :: rest) = _
         rw [argl_read n m (d + 1) p q (3, c, [41], 0, 0) ⟨rfl, rfl⟩ rest hz r [nf n x] ur _ (fun y hy => hA y (List.mem_cons_of_mem _ hy)) (fun y hy => hD y (List.mem_cons_of_mem _ hy)) (by have := hD x List.mem_cons_self; omega) e2 (by simp at hn ⊢; omega) (Nat.le_refl _) (by simp at hp ⊢; omega) (by simp at hq ⊢; omega)]
         rfl
       have := O_call (m := m) (d := d) (by omega) hkn (a := a) (v := 0) (e := 0) (a1 := b) (v1 := 0) (e1 := 0) hargs
       rw [← this]
       simp
/-- What is read of a text that a tree is written as. -/
theorem par_back {n : Nat} {t : T} (hw : Wf t) (hr : Hr n t) (h : wellT n t = true) (hl : (shT n t).length ≤ 300) (hdp : dpT n t ≤ 40) : parR (shT n t) = (nf n t, 0, 0) := by
 have k5 : t.k ≠ 5 := by
   cases n with
   | zero => cases h
   | succ n => have := well_k h; omega
 obtain ⟨h1, _⟩ := ws_all n t hw hr (by unfold argT; rw [if_neg k5]; exact h)
 obtain ⟨ts, e1, e2⟩ := h1 0 [] (.inl rfl)
 rw [List.append_nil, W_nil] at e2
 have hx : lexR (shT n t) = (ts ++ [endT (0 + (shT n t).length)], 0, 0) := by
   unfold lexR
   rw [if_neg (by omega), e2]
   rfl
 have hl1 : loose 1 t = false := by
   cases h' : loose 1 t with
   | false => rfl
   | true =>
     obtain ⟨h7, hb⟩ := loose_k h'
     have := well_bnd h h7
     omega
 have hz : Nz [endT (0 + (shT n t).length)] := ⟨[], _, rfl, rfl⟩
 have hne : ¬ ((hd [endT (0 + (shT n t).length)]).1 = 3 ∧ 1 ≤ bnd (hd [endT (0 + (shT n t).length)]).2.2.1) := by
   rintro ⟨h, _⟩
   exact absurd h (by show ¬ (5 : Int) = 3; decide)
 have hL := lvl (rdb_all n t hr h) h (ts ++ [endT (0 + (shT n t).length)]).length 0 ts [endT (0 + (shT n t).length)] 1 1 (by rw [hl1]; exact e1) hz (Nat.le_refl _) (by rw [hl1]; simp [b1]; exact hdp) (by omega) (by omega) (by omega) (fun _ _ h => by
   exact absurd h.1 (by show ¬ (5 : Int) = 3; decide))
 rw [cl_halt hne] at hL
 unfold parR
 rw [hx]
 show (if (0 : Int) = 0 then prs (ts ++ [endT (0 + (shT n t).length)]) else _) = _
 rw [if_pos rfl]
 unfold prs
 have hF : frm (O (ts ++ [endT (0 + (shT n t).length)]).length) 0 (ts ++ [endT (0 + (shT n t).length)]) = .ok (nf n t, [endT (0 + (shT n t).length)]) := hL
 rw [hF]
 rfl
theorem dp_dep (n : Nat) : ∀ t : T, Hr n t → wellT n t = true → dpT n t + 1 ≤ depT n t ∧ (t.k = 7 → dpT n t + 2 ≤ depT n t) := by
 induction n with
 | zero => intro t h; cases h
 | succ n ih =>
   intro t hr hw
   have hp : ∀ x ∈ t.l, wellT n x = true → ∀ j, b1 (loose j x) + dpT n x + 1 ≤ maxD (depT n) t.l := by
     intro x hx hxw j
     obtain ⟨a1, a2⟩ := ih x (hr.2 x hx) hxw
     have := maxD_mem (depT n) t.l x hx
     cases hl : loose j x with
     | false => simp [b1]; omega
     | true => have := a2 (loose_k hl).1; simp [b1]; omega
   unfold dpT depT
   by_cases k6 : t.k = 6
   · obtain ⟨x, hl, hx⟩ := well6 hw k6
     rw [if_pos k6, if_pos (.inl k6)]
     have := hp x (by rw [hl]; simp) hx 5
     rw [hl] at this ⊢
     refine ⟨?_, fun h => by omega⟩
     show 1 + (b1 (loose 5 x) + dpT n x) + 1 ≤ _
     omega
   by_cases k7 : t.k = 7
   · obtain ⟨x, y, hl, hb, hx, hy⟩ := well7 hw k7
     rw [if_neg k6, if_pos k7, if_pos (.inr (.inl k7))]
     have p1 := hp x (by rw [hl]; simp) hx (bnd t.s)
     have p2 := hp y (by rw [hl]; simp) hy (bnd t.s + 1)
     rw [hl] at p1 p2 ⊢
     have : max (b1 (loose (bnd t.s) x) + dpT n x) (b1 (loose (bnd t.s + 1) y) + dpT n y) + 2 ≤ maxD (depT n) [x, y] + 1 := by omega
     exact ⟨by show max (b1 (loose (bnd t.s) x) + dpT n x) (b1 (loose (bnd t.s + 1) y) + dpT n y) + 1 ≤ _; omega, fun _ => this⟩
   by_cases k8 : t.k = 8
   · obtain ⟨p, q, hkn, hp', hq, hx⟩ := well8 hw k8
     rw [if_neg k6, if_neg k7, if_pos k8, if_pos (.inr (.inr k8))]
     refine ⟨?_, fun h => absurd h k7⟩
     have hpos : 1 ≤ t.l.length := by have := (kno_wd hkn).2.2.1; simp at this; omega
     have : maxD (dpT n) t.l + 1 ≤ maxD (depT n) t.l := by
       have hall : ∀ x ∈ t.l, dpT n x + 1 ≤ maxD (depT n) t.l := by
         intro x hxm
         have h1 := hx x hxm
         have h2 := hr.2 x hxm
         unfold argT at h1
         by_cases k : x.k = 5
         · have hm := maxD_mem (depT n) t.l x hxm
           cases n with
           | zero => cases h2
           | succ n =>
             have e1 : dpT (n + 1) x = 0 := by unfold dpT; rw [if_neg (by omega), if_neg (by omega), if_neg (by omega)]
             have e2 : depT (n + 1) x = 1 := by unfold depT; rw [if_neg (by omega)]
             omega
         · rw [if_neg k] at h1
           have := (ih x h2 h1).1
           have hm := maxD_mem (depT n) t.l x hxm
           omega
       have : maxD (dpT n) t.l ≤ maxD (depT n) t.l - 1 := maxD_le (dpT n) t.l _ (fun x hx => by have := hall x hx; omega)
       obtain ⟨x, hx9⟩ := List.exists_mem_of_length_pos hpos
       have := hall x hx9
       omega
     omega
   · rw [if_neg k6, if_neg k7, if_neg k8, if_neg (by omega)]
     exact ⟨by omega, fun h => absurd h k7⟩

open Go.RowKit
set_option maxHeartbeats 2000000

theorem arg_k {n : Nat} {t : T} (h : argT (n + 1) t = true) : t.k = 0 ∨ t.k = 1 ∨ t.k = 2 ∨ t.k = 3 ∨ t.k = 4 ∨ t.k = 5 ∨ t.k = 6 ∨ t.k = 7 ∨ t.k = 8 := by
 unfold argT at h
 by_cases k5 : t.k = 5
 · omega
 · rw [if_neg k5] at h
   have := well_k h
   omega
theorem arg_well {n : Nat} {t : T} (h : argT n t = true) (k5 : t.k ≠ 5) : wellT n t = true := by
 unfold argT at h
 rw [if_neg k5] at h
 exact h
theorem well_arg {n : Nat} {t : T} (h : wellT n t = true) : argT n t = true := by
 unfold argT
 rw [if_neg]
 · exact h
 · intro k
   cases n with
   | zero => cases h
   | succ n => have := well_k h; omega
theorem nf_k {n : Nat} {t : T} (h : argT (n + 1) t = true) : (nf (n + 1) t).k = t.k := by
 have hk := arg_k h
 unfold nf
 rcases hk with k | k | k | k | k | k | k | k | k <;> simp [k] <;> rfl
theorem allZ_map {f : T → T → Bool} (l : List T) (h : T → T) (hx : ∀ x ∈ l, f (h x) x = true) : allZ f (l.map h) l = true := by
 induction l with
 | nil => rfl
 | cons a r ih =>
   rw [List.map_cons, allZ, hx a List.mem_cons_self, ih (fun x hx' => hx x (List.mem_cons_of_mem _ hx'))]
   rfl
theorem nf_same (n : Nat) : ∀ t : T, Hr n t → argT n t = true → Hr n (nf n t) ∧ sameT n (nf n t) t = true := by
 induction n with
 | zero => intro t h; cases h
 | succ n ih =>
   intro t hr h
   have hk := nf_k h
   by_cases k0 : t.k = 0
   · unfold nf at hk ⊢; rw [if_pos k0] at hk ⊢
     refine ⟨⟨by simp [tNum, T.l], fun x hx => by simp [tNum, T.l] at hx⟩, ?_⟩
     unfold sameT; rw [if_neg (by rw [hk]; simp), if_pos (.inl (by rw [hk]; exact k0))]; simp [tNum, T.n]
   by_cases k1 : t.k = 1
   · unfold nf at hk ⊢; rw [if_neg k0, if_pos k1] at hk ⊢
     refine ⟨⟨by simp [tText, T.l], fun x hx => by simp [tText, T.l] at hx⟩, ?_⟩
     unfold sameT; rw [if_neg (by rw [hk]; simp)]; simp [hk, k1]; simp [tText, T.s]
   by_cases k2 : t.k = 2
   · unfold nf at hk ⊢; rw [if_neg k0, if_neg k1, if_pos k2] at hk ⊢
     refine ⟨⟨by simp [tBool, T.l], fun x hx => by simp [tBool, T.l] at hx⟩, ?_⟩
     unfold sameT; rw [if_neg (by rw [hk]; simp)]; simp [hk, k2]; simp [tBool, T.n]
   by_cases k3 : t.k = 3
   · unfold nf at hk ⊢; rw [if_neg k0, if_neg k1, if_neg k2, if_pos k3] at hk ⊢
     refine ⟨⟨by simp [tErr, T.l], fun x hx => by simp [tErr, T.l] at hx⟩, ?_⟩
     unfold sameT; rw [if_neg (by rw [hk]; simp)]; simp [hk, k3]; simp [tErr, T.e]
   by_cases k4 : t.k = 4
   · unfold nf at hk ⊢; rw [if_neg k0, if_neg k1, if_neg k2, if_neg k3, if_pos k4] at hk ⊢
     refine ⟨⟨by simp [tRef, T.l], fun x hx => by simp [tRef, T.l] at hx⟩, ?_⟩
     unfold sameT; rw [if_neg (by rw [hk]; simp)]; simp [hk, k4]; simp [tRef, T.r]
   by_cases k5 : t.k = 5
   · unfold nf at hk ⊢; rw [if_neg k0, if_neg k1, if_neg k2, if_neg k3, if_neg k4, if_pos k5] at hk ⊢
     refine ⟨⟨by simp [tRange, T.l], fun x hx => by simp [tRange, T.l] at hx⟩, ?_⟩
     unfold sameT; rw [if_neg (by rw [hk]; simp)]; simp [hk, k5]; simp [tRange, T.r, T.q]
   have hw := arg_well h k5
   by_cases k6 : t.k = 6
   · obtain ⟨x, hl, hx⟩ := well6 hw k6
     unfold nf at hk ⊢; rw [if_neg k0, if_neg k1, if_neg k2, if_neg k3, if_neg k4, if_neg k5, if_pos k6] at hk ⊢
     obtain ⟨i1, i2⟩ := ih x (hr.2 x (by rw [hl]; simp)) (well_arg hx)
     rw [hl]
     refine ⟨⟨by simp [tNeg, T.l], fun y hy => by simp [tNeg, T.l, hdT] at hy; subst hy; exact i1⟩, ?_⟩
     rw [hl] at hk
     unfold sameT; rw [if_neg (by rw [hk]; simp)]; simp [hk, k6, hl]
     show allZ (sameT n) [nf n x] [x] = true
     simp [allZ, i2]
   by_cases k7 : t.k = 7
   · obtain ⟨x, y, hl, hb, hx, hy⟩ := well7 hw k7
     unfold nf at hk ⊢; rw [if_neg k0, if_neg k1, if_neg k2, if_neg k3, if_neg k4, if_neg k5, if_neg k6, if_pos k7] at hk ⊢
     obtain ⟨i1, i2⟩ := ih x (hr.2 x (by rw [hl]; simp)) (well_arg hx)
     obtain ⟨j1, j2⟩ := ih y (hr.2 y (by rw [hl]; simp)) (well_arg hy)
     rw [hl]
     refine ⟨⟨by simp [tBin, T.l], fun z hz => by simp [tBin, T.l, hdT, sdT] at hz; rcases hz with rfl | rfl; exact i1; exact j1⟩, ?_⟩
     rw [hl] at hk
     unfold sameT; rw [if_neg (by rw [hk]; simp)]; simp [hk, k7, hl]
     refine ⟨rfl, ?_⟩
     show allZ (sameT n) [nf n x, nf n y] [x, y] = true
     simp [allZ, i2, j2]
   · have k8 : t.k = 8 := by have := well_k hw; omega
     obtain ⟨a, b, hkn, ha, hb, hx⟩ := well8 hw k8
     unfold nf at hk ⊢; rw [if_neg k0, if_neg k1, if_neg k2, if_neg k3, if_neg k4, if_neg k5, if_neg k6, if_neg k7] at hk ⊢
     refine ⟨⟨?_, fun z hz => ?_⟩, ?_⟩
     · show (t.l.map (nf n)).length ≤ 100000
       rw [List.length_map]; exact hr.1
     · have hz' : z ∈ t.l.map (nf n) := hz
       obtain ⟨y, hy, rfl⟩ := List.mem_map.1 hz'
       exact (ih y (hr.2 y hy) (hx y hy)).1
     · unfold sameT; rw [if_neg (by rw [hk]; simp)]; simp [hk, k8]
       refine ⟨rfl, ?_⟩
       exact allZ_map (f := sameT n) t.l (nf n) (fun y hy => (ih y (hr.2 y hy) (hx y hy)).2)

open Go.RowKit
set_option maxHeartbeats 1000000

theorem bs_tl (x : List UInt8) : (bs x).toList = x := by rw [ByteArray.toList_eq]; rfl
end Go.Proofs.YtffgidihaggpbaaGreatDoor

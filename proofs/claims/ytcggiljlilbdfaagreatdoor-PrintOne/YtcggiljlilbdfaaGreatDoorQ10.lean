/-
 Formulas as trees, as lists of words: what is read of them, or which word can't be. Plain mathematics: no program in sight.
 The contracts of package lex's kinds of bytes, and of past.
 A struct of 5 fields in a block of its own: laid, kept, stored; the end of a function whose result lies in one.
 The contracts of package lex's word, sign and failure: a word, or a panic that tells the place and why.
-/
import Derived.Test.YtcggiljlilbdfaaGreatDoorQ1
import Derived.Test.YtcggiljlilbdfaaGreatDoorQ9
import Derived.Test.YtcggiljlilbdfaaGreatDoorQ2
import Derived.Test.YtcggiljlilbdfaaGreatDoorShelf
import Derived.Defers
namespace Go.Proofs.YtcggiljlilbdfaaGreatDoor
open Go.RowKit

/-- A place that is referred to: row, column, which of them is absolute. -/
abbrev Rf := Int × Int × Bool × Bool
def rz : Rf := (0, 0, false, false)
/-- A tree: kind, number, text, error, place, second place, parts. -/
inductive T where
 | mk (k n : Int) (s : List UInt8) (e : Int) (r q : Rf) (l : List T)
def T.k : T → Int | .mk k _ _ _ _ _ _ => k
def T.n : T → Int | .mk _ n _ _ _ _ _ => n
def T.s : T → List UInt8 | .mk _ _ s _ _ _ _ => s
def T.e : T → Int | .mk _ _ _ e _ _ _ => e
def T.r : T → Rf | .mk _ _ _ _ r _ _ => r
def T.q : T → Rf | .mk _ _ _ _ _ q _ => q
def T.l : T → List T | .mk _ _ _ _ _ _ l => l
def tz : T := .mk 0 0 [] 0 rz rz []
def tNum (n : Int) : T := .mk 0 n [] 0 rz rz []
def tText (s : List UInt8) : T := .mk 1 0 s 0 rz rz []
def tBool (n : Int) : T := .mk 2 n [] 0 rz rz []
def tErr (e : Int) : T := .mk 3 0 [] e rz rz []
def tRef (r : Rf) : T := .mk 4 0 [] 0 r rz []
def tRange (r q : Rf) : T := .mk 5 0 [] 0 r q []
def tNeg (x : T) : T := .mk 6 0 [] 0 rz rz [x]
def tBin (s : List UInt8) (x y : T) : T := .mk 7 0 s 0 rz rz [x, y]
def tCall (s : List UInt8) (l : List T) : T := .mk 8 0 s 0 rz rz l

/-- How many arguments a function has. -/
def kn1 : List (List UInt8) := [[83, 85, 77], [67, 79, 85, 78, 84], [77, 73, 78], [77, 65, 88], [65, 86, 69, 82, 65, 71, 69], [65, 78, 68], [79, 82], [67, 79, 78, 67, 65, 84]]
def kn2 : List (List UInt8) := [[73, 70], [73, 78, 68, 69, 88]]
def kn3 : List (List UInt8) := [[82, 79, 85, 78, 68], [77, 79, 68], [73, 70, 69, 82, 82, 79, 82]]
def kn4 : List (List UInt8) := [[76, 69, 70, 84]]
def kn5 : List (List UInt8) := [[78, 79, 84], [65, 66, 83], [70, 76, 79, 79, 82], [83, 81, 82, 84], [76, 69, 78], [73, 83, 69, 82, 82, 79, 82]]
def kno (s : List UInt8) : Option (Nat × Nat) :=
 if s ∈ kn1 then some (1, 20) else if s ∈ kn2 then some (2, 3) else if s ∈ kn3 then some (2, 2) else if s ∈ kn4 then some (1, 2) else if s ∈ kn5 then some (1, 1) else none
/-- How tightly a sign binds. -/
def bd1 : List (List UInt8) := [[61], [60, 62], [60], [60, 61], [62], [62, 61]]
def bnd (s : List UInt8) : Nat :=
 if s ∈ bd1 then 1 else if s = [38] then 2 else if s = [43] ∨ s = [45] then 3 else if s = [42] ∨ s = [47] then 4 else 0
/-- The place that a word names. -/
def rfP (s : List UInt8) : Rf := (rowP s, colP s, dlB (rsL s), dlB s)
def wTrue : List UInt8 := [84, 82, 85, 69]
def wFalse : List UInt8 := [70, 65, 76, 83, 69]

/-- The word that comes next; a fault there. -/
def hd (ts : List Tk) : Tk := ts.headD (5, 0, [], 0, 0)
/-- A fault: its place, whether it is too deep. -/
abbrev Ft := Int × Bool
def cd (b : Bool) : Int := if b then 2 else 4
def ft (ts : List Tk) (c : Bool) : Ft := ((hd ts).2.1, c)
def isSg (p : List UInt8) (ts : List Tk) : Bool := (hd ts).1 == 3 && (hd ts).2.2.1 == p
abbrev Rs := Except Ft (T × List Tk)
def tk1 (d : Nat) (ts : List Tk) : Except Ft (List Tk) := if 40 < d then .error (ft ts true) else .ok ts.tail
def pass1 (p : List UInt8) (d : Nat) (ts : List Tk) : Except Ft (List Tk) := if isSg p ts then tk1 d ts else .error (ft ts false)
/-- One word as a tree. -/
def one (d : Nat) (ts : List Tk) (x : T) : Rs := match tk1 d ts with
 | .error e => .error e
 | .ok ts1 => .ok (x, ts1)
def refr (d : Nat) (ts : List Tk) : Except Ft (Rf × List Tk) :=
 if (hd ts).1 = 2 ∧ okP (hd ts).2.2.1 = true then (match tk1 d ts with
   | .error e => .error e
   | .ok ts1 => .ok (rfP (hd ts).2.2.1, ts1)) else .error (ft ts false)
abbrev Rd := Nat → List Tk → Rs
def argm (F : Rd) (d : Nat) (ts : List Tk) : Rs := match F d ts with
 | .error e => .error e
 | .ok (x, ts1) => if x.k = 4 ∧ ts.length = ts1.length + 1 ∧ isSg [58] ts1 = true then (match tk1 d ts1 with
   | .error e => .error e
   | .ok ts2 => match refr d ts2 with
     | .error e => .error e
     | .ok (q, ts3) => .ok (tRange x.r q, ts3)) else .ok (x, ts1)
/-- The arguments behind those that are read. -/
def argl (F : Rd) (a b : Nat) (d : Nat) : Nat → List T → List Tk → Except Ft (List T × List Tk)
 | 0, l, ts => .ok (l, ts)
 | f + 1, l, ts => if l.length < a ∨ l.length < b ∧ isSg [44] ts = true then (match pass1 [44] d ts with
   | .error e => .error e
   | .ok ts1 => match argm F d ts1 with
     | .error e => .error e
     | .ok (x, ts2) => argl F a b d f (l ++ [x]) ts2) else .ok (l, ts)
def args (F : Rd) (a b : Nat) (d : Nat) (ts : List Tk) : Except Ft (List T × List Tk) := match argm F d ts with
 | .error e => .error e
 | .ok (x, ts1) => argl F a b d ts1.length [x] ts1
def call (F : Rd) (s : List UInt8) (a b : Nat) : Rd := fun d ts => match args F a b d ts with
 | .error e => .error e
 | .ok (l, ts1) => .ok (tCall s l, ts1)
def brk (F : Rd) (d : Nat) (ts : List Tk) : Rs := match pass1 [40] d ts with
 | .error e => .error e
 | .ok ts1 => match F (d + 1) ts1 with
   | .error e => .error e
   | .ok (x, ts2) => match pass1 [41] d ts2 with
     | .error e => .error e
     | .ok ts3 => .ok (x, ts3)
def wrd (F : Rd) (d : Nat) (ts : List Tk) : Rs :=
 if (hd ts).2.2.1 = wTrue then one d ts (tBool 1) else if (hd ts).2.2.1 = wFalse then one d ts (tBool 0) else
 match kno (hd ts).2.2.1 with
 | some (a, b) => (match tk1 d ts with
   | .error e => .error e
   | .ok ts1 => brk (call F (hd ts).2.2.1 a b) d ts1)
 | none => match refr d ts with
   | .error e => .error e
   | .ok (r, ts1) => .ok (tRef r, ts1)
def smp (F : Rd) (d : Nat) (ts : List Tk) : Rs :=
 if (hd ts).1 = 0 then one d ts (tNum (hd ts).2.2.2.1) else if (hd ts).1 = 1 then one d ts (tText (hd ts).2.2.1) else if (hd ts).1 = 4 then one d ts (tErr (hd ts).2.2.2.2) else
 if (hd ts).1 = 2 then wrd F d ts else brk F d ts
def opn (F O : Rd) (d : Nat) (ts : List Tk) : Rs :=
 if isSg [45] ts = true then (match tk1 d ts with
   | .error e => .error e
   | .ok ts1 => match O (d + 1) ts1 with
     | .error e => .error e
     | .ok (x, ts2) => .ok (tNeg x, ts2)) else smp F d ts
def lp (side : Rd) (k : Nat) (d : Nat) : Nat → T → List Tk → Rs
 | 0, x, ts => .ok (x, ts)
 | f + 1, x, ts => if (hd ts).1 = 3 ∧ bnd (hd ts).2.2.1 = k then (match tk1 d ts with
   | .error e => .error e
   | .ok ts1 => match side d ts1 with
     | .error e => .error e
     | .ok (y, ts2) => lp side k d f (tBin (hd ts).2.2.1 x y) ts2) else .ok (x, ts)
def lv (side : Rd) (k : Nat) : Rd := fun d ts => match side d ts with
 | .error e => .error e
 | .ok (x, ts1) => lp side k d ts1.length x ts1
def frm (o : Rd) : Rd := lv (lv (lv (lv o 4) 3) 2) 1
def O : Nat → Rd
 | 0 => fun _ ts => .error (ft ts false)
 | n + 1 => opn (frm (O n)) (O n)
/-- The tree of all words. -/
def prs (ts : List Tk) : T × Int × Int := match frm (O ts.length) 0 ts with
 | .error e => (tz, e.1, cd e.2)
 | .ok (x, ts1) => if (hd ts1).1 = 5 then (x, 0, 0) else (tz, (hd ts1).2.1, 4)
/-- What is answered of a text. -/
def parR (l : List UInt8) : T × Int × Int := if (lexR l).2.2 = 0 then prs (lexR l).1 else (tz, (lexR l).2.1, (lexR l).2.2)

/-! ### What is left, is left behind -/
/-- ts ends with the end. -/
def Nz (ts : List Tk) : Prop := ∃ pre t, ts = pre ++ [t] ∧ t.1 = 5
theorem Nz.tail {ts : List Tk} (h : Nz ts) (h5 : (hd ts).1 ≠ 5) : Nz ts.tail ∧ ts.tail.length + 1 = ts.length := by
 obtain ⟨pre, t, rfl, h1⟩ := h
 cases pre with
 | nil => exact absurd h1 h5
 | cons a b => exact ⟨⟨b, t, rfl, h1⟩, by simp⟩
theorem Nz.ne {ts : List Tk} (h : Nz ts) : ts ≠ [] := by
 obtain ⟨pre, t, rfl, h1⟩ := h
 simp
theorem Nz.pos {ts : List Tk} (h : Nz ts) : 1 ≤ ts.length := by
 obtain ⟨pre, t, rfl, h1⟩ := h
 simp
theorem isSg_k {p : List UInt8} {ts : List Tk} (h : isSg p ts = true) : (hd ts).1 = 3 ∧ (hd ts).2.2.1 = p := by
 unfold isSg at h; simp at h; exact h
/-- What is read is at least one word, and never the end. -/
def Sh (ts ts' : List Tk) : Prop := Nz ts' ∧ ts'.length < ts.length
def ShR {α : Type} (ts : List Tk) (r : Except Ft (α × List Tk)) : Prop := ∀ x ts', r = .ok (x, ts') → Sh ts ts'
theorem tk1_sh {d : Nat} {ts ts1 : List Tk} (h : Nz ts) (h5 : (hd ts).1 ≠ 5) (e : tk1 d ts = .ok ts1) : Sh ts ts1 := by
 unfold tk1 at e
 split at e
 · cases e
 · cases e
   have := h.tail h5
   exact ⟨this.1, by omega⟩
theorem pass1_sh {p : List UInt8} {d : Nat} {ts ts1 : List Tk} (h : Nz ts) (e : pass1 p d ts = .ok ts1) : Sh ts ts1 := by
 unfold pass1 at e
 split at e
 · rename_i hs
   exact tk1_sh h (by rw [(isSg_k hs).1]; decide) e
 · cases e
theorem one_sh {d : Nat} {ts : List Tk} {x : T} (h : Nz ts) (h5 : (hd ts).1 ≠ 5) : ShR ts (one d ts x) := by
 intro y ts' e
 unfold one at e
 split at e
 · cases e
 · rename_i ts1 h1
   cases e
   exact tk1_sh h h5 h1
theorem refr_sh {d : Nat} {ts : List Tk} (h : Nz ts) : ShR ts (refr d ts) := by
 intro y ts' e
 unfold refr at e
 split at e
 · rename_i hk
   split at e
   · cases e
   · rename_i ts1 h1
     cases e
     exact tk1_sh h (by rw [hk.1]; decide) h1
 · cases e
/-- A reading that reads at least one word, of lists up to so long. -/
def ShF (n : Nat) (F : Rd) : Prop := ∀ d ts, Nz ts → ts.length ≤ n → ShR ts (F d ts)
theorem Sh.trans {a b c : List Tk} (h : Sh a b) (k : Sh b c) : Sh a c := ⟨k.1, by have := h.2; have := k.2; omega⟩
theorem argm_sh {n : Nat} {F : Rd} (hF : ShF n F) : ShF n (argm F) := by
 intro d ts h hn x ts' e
 unfold argm at e
 split at e
 · cases e
 · rename_i y ts1 h1
   have s1 := hF d ts h hn y ts1 h1
   split at e
   · rename_i hc
     split at e
     · cases e
     · rename_i ts2 h2
       have s2 := tk1_sh s1.1 (by rw [(isSg_k hc.2.2).1]; decide) h2
       split at e
       · cases e
       · rename_i q ts3 h3
         cases e
         exact (s1.trans s2).trans (refr_sh s2.1 _ _ h3)
   · cases e; exact s1
theorem argl_sh {n : Nat} {F : Rd} (hF : ShF n F) (a b d f : Nat) : ∀ (l l' : List T) (ts ts' : List Tk), Nz ts → ts.length ≤ n → argl F a b d f l ts = .ok (l', ts') → Nz ts' ∧ ts'.length ≤ ts.length := by
 induction f with
 | zero =>
   intro l l' ts ts' h hn e
   unfold argl at e
   cases e
   exact ⟨h, Nat.le_refl _⟩
 | succ f ih =>
   intro l l' ts ts' h hn e
   unfold argl at e
   split at e
   · split at e
     · cases e
     · rename_i ts1 h1
       have s1 := pass1_sh h h1
       split at e
       · cases e
       · rename_i x ts2 h2
         have s2 := argm_sh hF d ts1 s1.1 (by have := s1.2; omega) x ts2 h2
         have := ih _ _ ts2 ts' s2.1 (by have := s1.2; have := s2.2; omega) e
         exact ⟨this.1, by have := s1.2; have := s2.2; omega⟩
   · cases e; exact ⟨h, Nat.le_refl _⟩
theorem args_sh {n : Nat} {F : Rd} (hF : ShF n F) {a b d : Nat} {ts : List Tk} (h : Nz ts) (hn : ts.length ≤ n) : ShR ts (args F a b d ts) := by
 intro x ts' e
 unfold args at e
 split at e
 · cases e
 · rename_i y ts1 h1
   have s1 := argm_sh hF d ts h hn y ts1 h1
   have := argl_sh hF a b d _ _ _ _ _ s1.1 (by have := s1.2; omega) e
   exact ⟨this.1, by have := s1.2; omega⟩
theorem call_sh {n : Nat} {F : Rd} (hF : ShF n F) (s : List UInt8) (a b : Nat) : ShF n (call F s a b) := by
 intro d ts h hn x ts' e
 unfold call at e
 split at e
 · cases e
 · rename_i y ts1 h1
   cases e
   exact args_sh hF h hn _ _ h1
theorem brk_sh {n : Nat} {F : Rd} (hF : ShF n F) : ShF (n + 1) (brk F) := by
 intro d ts h hn x ts' e
 unfold brk at e
 split at e
 · cases e
 · rename_i ts1 h1
   have s1 := pass1_sh h h1
   split at e
   · cases e
   · rename_i y ts2 h2
     have s2 := hF (d + 1) ts1 s1.1 (by have := s1.2; omega) y ts2 h2
     split at e
     · cases e
     · rename_i ts3 h3
       cases e
       exact (s1.trans s2).trans (pass1_sh s2.1 h3)
theorem wrd_sh {n : Nat} {F : Rd} (hF : ShF n F) (d : Nat) (ts : List Tk) (h : Nz ts) (hn : ts.length ≤ n + 1) (hk : (hd ts).1 = 2) : ShR ts (wrd F d ts) := by
 intro x ts' e
 have h5 : (hd ts).1 ≠ 5 := by rw [hk]; decide
 unfold wrd at e
 split at e
 · exact one_sh h h5 _ _ e
 · split at e
   · exact one_sh h h5 _ _ e
   · split at e
     · split at e
       · cases e
       · rename_i ts1 h1
         have s1 := tk1_sh h h5 h1
         exact s1.trans (brk_sh (call_sh hF _ _ _) d ts1 s1.1 (by have := s1.2; omega) _ _ e)
     · split at e
       · cases e
       · rename_i r ts1 h1
         cases e
         exact refr_sh h _ _ h1
theorem smp_sh {n : Nat} {F : Rd} (hF : ShF n F) : ShF (n + 1) (smp F) := by
 intro d ts h hn x ts' e
 unfold smp at e
 split at e
 · rename_i hk; exact one_sh h (by rw [hk]; decide) _ _ e
 · split at e
   · rename_i hk; exact one_sh h (by rw [hk]; decide) _ _ e
   · split at e
     · rename_i hk; exact one_sh h (by rw [hk]; decide) _ _ e
     · split at e
       · rename_i hk; exact wrd_sh hF d ts h hn hk _ _ e
       · exact brk_sh hF d ts h hn _ _ e
theorem opn_sh {n : Nat} {F G : Rd} (hF : ShF n F) (hG : ShF n G) : ShF (n + 1) (opn F G) := by
 intro d ts h hn x ts' e
 unfold opn at e
 split at e
 · rename_i hk
   split at e
   · cases e
   · rename_i ts1 h1
     have s1 := tk1_sh h (by rw [(isSg_k hk).1]; decide) h1
     split at e
     · cases e
     · rename_i y ts2 h2
       cases e
       exact s1.trans (hG (d + 1) ts1 s1.1 (by have := s1.2; omega) _ _ h2)
 · exact smp_sh hF d ts h hn _ _ e
theorem lp_sh {n : Nat} {F : Rd} (hF : ShF n F) (k d f : Nat) : ∀ (x y : T) (ts ts' : List Tk), Nz ts → ts.length ≤ n → lp F k d f x ts = .ok (y, ts') → Nz ts' ∧ ts'.length ≤ ts.length := by
 induction f with
 | zero =>
   intro x y ts ts' h hn e
   unfold lp at e
   cases e
   exact ⟨h, Nat.le_refl _⟩
 | succ f ih =>
   intro x y ts ts' h hn e
   unfold lp at e
   split at e
   · rename_i hk
     split at e
     · cases e
     · rename_i ts1 h1
       have s1 := tk1_sh h (by rw [hk.1]; decide) h1
       split at e
       · cases e
       · rename_i z ts2 h2
         have s2 := hF d ts1 s1.1 (by have := s1.2; omega) z ts2 h2
         have := ih _ _ ts2 ts' s2.1 (by have := s1.2; have := s2.2; omega) e
         exact ⟨this.1, by have := s1.2; have := s2.2; omega⟩
   · cases e; exact ⟨h, Nat.le_refl _⟩
theorem lv_sh {n : Nat} {F : Rd} (hF : ShF n F) (k : Nat) : ShF n (lv F k) := by
 intro d ts h hn x ts' e
 unfold lv at e
 split at e
 · cases e
 · rename_i y ts1 h1
   have s1 := hF d ts h hn y ts1 h1
   have := lp_sh hF k d _ _ _ _ _ s1.1 (by have := s1.2; omega) e
   exact ⟨this.1, by have := s1.2; omega⟩
theorem frm_sh {n : Nat} {F : Rd} (hF : ShF n F) : ShF n (frm F) := lv_sh (lv_sh (lv_sh (lv_sh hF 4) 3) 2) 1
theorem O_sh (n : Nat) : ShF n (O n) := by
 induction n with
 | zero => intro d ts h hn; exact absurd (h.pos) (by omega)
 | succ n ih => exact opn_sh (frm_sh ih) ih

open Go.RowKit
set_option maxHeartbeats 1000000

theorem isBlank_any (c : UInt8) (w : World) : Calls Tryz.prog 55 #[.int .u8 (c.toNat : Int)] w fun e w' => e = .returned (.bool (blB c)) ∧ w' = w := by
 have hb : ((c.toNat : Int) == 32) = blB c := by
   unfold blB; rw [Bool.eq_iff_iff]; simp; constructor
   · intro h; exact UInt8.toNat_inj.mp (by simp; omega)
   · rintro rfl; rfl
 have HB : Hid (((c.toNat : Int) == 32) = blB c) := hb
 clear hb
 go_enter Tryz.func55, Tryz.ntmps55
 go_wp2
 go_ret
 exact ⟨ret_bool HB.out, rfl⟩
theorem isDigit_any (c : UInt8) (w : World) : Calls Tryz.prog 77 #[.int .u8 (c.toNat : Int)] w fun e w' => e = .returned (.bool (dgB c)) ∧ w' = w := by
 by_cases h1 : (48 : Int) ≤ c.toNat
 · by_cases h2 : (c.toNat : Int) ≤ 57
   · have H : Hid (dgB c = true) := by show dgB c = true; unfold dgB; simp; omega
     go_enter Tryz.func77, Tryz.ntmps77
     go_wp2
     go_ret
     exact ⟨ret_bool H.out.symm, rfl⟩
   · have H : Hid (dgB c = false) := by show dgB c = false; unfold dgB; simp; omega
     go_enter Tryz.func77, Tryz.ntmps77
     go_wp2
     go_ret
     exact ⟨ret_bool H.out.symm, rfl⟩
 · have H : Hid (dgB c = false) := by show dgB c = false; unfold dgB; simp; omega
   go_enter Tryz.func77, Tryz.ntmps77
   go_wp2
   go_ret
   exact ⟨ret_bool H.out.symm, rfl⟩
theorem lt_no {c : UInt8} (h1 : ¬ ((65 : Int) ≤ c.toNat ∧ (c.toNat : Int) ≤ 90)) (h2 : ¬ ((97 : Int) ≤ c.toNat ∧ (c.toNat : Int) ≤ 122)) : ltB c = ((c.toNat : Int) == 36) := by
 unfold ltB; rw [Bool.eq_iff_iff]; simp; omega
theorem lt_yes {c : UInt8} (h : ((65 : Int) ≤ c.toNat ∧ (c.toNat : Int) ≤ 90) ∨ ((97 : Int) ≤ c.toNat ∧ (c.toNat : Int) ≤ 122)) : ltB c = true := by
 unfold ltB; simp; omega
theorem begins_any (c : UInt8) (w : World) : Calls Tryz.prog 80 #[.int .u8 (c.toNat : Int)] w fun e w' => e = .returned (.bool (ltB c)) ∧ w' = w := by
 by_cases h1 : (65 : Int) ≤ c.toNat
 · by_cases h2 : (c.toNat : Int) ≤ 90
   · have H : Hid (ltB c = true) := lt_yes (by omega)
     go_enter Tryz.func80, Tryz.ntmps80
     go_wp2
     go_ret
     exact ⟨ret_bool H.out.symm, rfl⟩
   · by_cases h3 : (97 : Int) ≤ c.toNat
     · by_cases h4 : (c.toNat : Int) ≤ 122
       · have H : Hid (ltB c = true) := lt_yes (by omega)
         go_enter Tryz.func80, Tryz.ntmps80
         go_wp2
         go_ret
         exact ⟨ret_bool H.out.symm, rfl⟩
       · have H : Hid (ltB c = ((c.toNat : Int) == 36)) := lt_no (by omega) (by omega)
         go_enter Tryz.func80, Tryz.ntmps80
         go_wp2
         go_ret
         exact ⟨ret_bool H.out.symm, rfl⟩
     · have H : Hid (ltB c = ((c.toNat : Int) == 36)) := lt_no (by omega) (by omega)
       go_enter Tryz.func80, Tryz.ntmps80
       go_wp2
       go_ret
       exact ⟨ret_bool H.out.symm, rfl⟩
 · have h3 : ¬ (97 : Int) ≤ c.toNat := by omega
   have H : Hid (ltB c = ((c.toNat : Int) == 36)) := lt_no (by omega) (by omega)
   go_enter Tryz.func80, Tryz.ntmps80
   go_wp2
   go_ret
   exact ⟨ret_bool H.out.symm, rfl⟩
theorem inWord_any (c : UInt8) (w : World) : Calls Tryz.prog 109 #[.int .u8 (c.toNat : Int)] w fun e w' => e = .returned (.bool (inW c)) ∧ w' = w := by
 have c1 := fun W => begins_any c W
 have c2 := fun W => isDigit_any c W
 have hb : ((c.toNat : Int) == 95) = (c == 95) := by
   rw [Bool.eq_iff_iff]; simp; constructor
   · intro h; exact UInt8.toNat_inj.mp (by simp; omega)
   · rintro rfl; rfl
 have HB : Hid (((c.toNat : Int) == 95) = (c == 95)) := hb
 clear hb
 cases h1 : ltB c
 · rw [h1] at c1
   cases h2 : dgB c
   · rw [h2] at c2
     have H : Hid (inW c = ((c.toNat : Int) == 95)) := by show _ = _; unfold inW; rw [h1, h2, HB.out]; rfl
     clear h1 h2
     go_enter Tryz.func109, Tryz.ntmps109
     go_wp2_with fail
     refine (c1 _).mono ?_
     rintro e w1 ⟨rfl, rfl⟩
     go_wp2_with fail
     refine (c2 _).mono ?_
     rintro e w1 ⟨rfl, rfl⟩
     go_wp2_with fail
     go_ret
     exact ⟨ret_bool H.out.symm, rfl⟩
   · rw [h2] at c2
     have H : Hid (inW c = true) := by show _ = _; unfold inW; rw [h1, h2]; rfl
     clear h1 h2
     go_enter Tryz.func109, Tryz.ntmps109
     go_wp2_with fail
     refine (c1 _).mono ?_
     rintro e w1 ⟨rfl, rfl⟩
     go_wp2_with fail
     refine (c2 _).mono ?_
     rintro e w1 ⟨rfl, rfl⟩
     go_wp2_with fail
     go_ret
     exact ⟨ret_bool H.out.symm, rfl⟩
 · rw [h1] at c1
   have H : Hid (inW c = true) := by show _ = _; unfold inW; rw [h1]; rfl
   clear h1
   go_enter Tryz.func109, Tryz.ntmps109
   go_wp2_with fail
   refine (c1 _).mono ?_
   rintro e w1 ⟨rfl, rfl⟩
   go_wp2_with fail
   go_ret
   exact ⟨ret_bool H.out.symm, rfl⟩

theorem run_at (p : UInt8 → Bool) (l : List UInt8) (k : Nat) (hk : k < l.length) : run p (l.drop k) = if p l[k] then run p (l.drop (k + 1)) + 1 else 0 := by
 rw [List.drop_eq_getElem_cons hk, run_cons]
theorem run_off (p : UInt8 → Bool) (l : List UInt8) (k : Nat) (hk : l.length ≤ k) : run p (l.drop k) = 0 := by
 rw [List.drop_eq_nil_of_le hk]; rfl
/-- past, by whichever kind of bytes. -/
theorem past_any (K : FuncId) (p : UInt8 → Bool) (hent : ∀ args W, (callFunc K args).run Tryz.prog W = .ok (.enter K args) W) (hK : ∀ (c : UInt8) (W : World), Calls Tryz.prog K #[.int .u8 (c.toNat : Int)] W fun e w' => e = .returned (.bool (p c)) ∧ w' = W)
   (s : ByteArray) (k : Nat) (w : World) (hk : k ≤ s.size) (hs : s.size ≤ 300) :
   Calls Tryz.prog 54 #[.string s, .int .i64 (k : Int), .func (.func K) #[] #[]] w fun e w' => e = .returned (.int .i64 ((k + run p (s.data.toList.drop k) : Nat) : Int)) ∧ w' = w := by
 have hl := size_list s
 have HS : Hid (s.data.toList.length = s.size) := hl
 have HK : Hid (∀ (c : UInt8) (W : World), Calls Tryz.prog K #[.int .u8 (c.toNat : Int)] W fun e w' => e = .returned (.bool (p c)) ∧ w' = W) := hK
 clear hK hl
 go_enter Tryz.func54, Tryz.ntmps54
 go_wp2
 go_loop [1] (fun i => ∃ j : Nat, j ≤ s.size ∧ i = .int .i64 j ∧ k + run p (s.data.toList.drop k) = j + run p (s.data.toList.drop j)) (fun i => s.size - (intOf i).toNat)
 case atStart => exact ⟨k, hk, rfl, rfl⟩
 case round =>
   obtain ⟨j, hj, rfl, ha⟩ := hrel
   have HA : Hid (k + run p (s.data.toList.drop k) = j + run p (s.data.toList.drop j)) := ha
   clear ha hk
   by_cases hlt : j < s.size
   · have HT : Hid (run p (s.data.toList.drop j) = if p s[j] then run p (s.data.toList.drop (j + 1)) + 1 else 0) := run_at p s.data.toList j (by have := HS.out; omega)
     have c1 := fun W => HK.out s[j] W
     cases hp : p s[j]
     · rw [hp] at c1
       have HP : Hid (p s[j] = false) := hp
       clear hp
       go_wp2_with fail
       refine (c1 _).mono ?_
       rintro e w1 ⟨rfl, rfl⟩
       go_wp2_with fail
       go_ret
       refine ⟨ret_int ?_, rfl⟩
       rw [HA.out, HT.out, HP.out]; simp
     · rw [hp] at c1
       have HP : Hid (p s[j] = true) := hp
       clear hp
       go_wp2_with fail
       refine (c1 _).mono ?_
       rintro e w1 ⟨rfl, rfl⟩
       go_wp2_with fail
       go_round
       case rel => exact ⟨j + 1, by omega, by go_num, by rw [HA.out, HT.out, HP.out]; simp; omega⟩
       case measure => simp [intOf]; omega
   · have HT : Hid (run p (s.data.toList.drop j) = 0) := run_off p s.data.toList j (by have := HS.out; omega)
     go_wp2_with fail
     go_ret
     refine ⟨ret_int ?_, rfl⟩
     have h1 := HA.out
     have h2 := HT.out
     omega
theorem past_blank (s : ByteArray) (k : Nat) (w : World) (hk : k ≤ s.size) (hs : s.size ≤ 300) :
   Calls Tryz.prog 54 #[.string s, .int .i64 (k : Int), .func (.func 55) #[] #[]] w fun e w' => e = .returned (.int .i64 ((k + run blB (s.data.toList.drop k) : Nat) : Int)) ∧ w' = w :=
 past_any _ _ (enters_of Tryz.func55 (by kernel_rfl) rfl) isBlank_any s k w hk hs
theorem past_digit (s : ByteArray) (k : Nat) (w : World) (hk : k ≤ s.size) (hs : s.size ≤ 300) :
   Calls Tryz.prog 54 #[.string s, .int .i64 (k : Int), .func (.func 77) #[] #[]] w fun e w' => e = .returned (.int .i64 ((k + run dgB (s.data.toList.drop k) : Nat) : Int)) ∧ w' = w :=
 past_any _ _ (enters_of Tryz.func77 (by kernel_rfl) rfl) isDigit_any s k w hk hs
theorem past_word (s : ByteArray) (k : Nat) (w : World) (hk : k ≤ s.size) (hs : s.size ≤ 300) :
   Calls Tryz.prog 54 #[.string s, .int .i64 (k : Int), .func (.func 109) #[] #[]] w fun e w' => e = .returned (.int .i64 ((k + run inW (s.data.toList.drop k) : Nat) : Int)) ∧ w' = w :=
 past_any _ _ (enters_of Tryz.func109 (by kernel_rfl) rfl) inWord_any s k w hk hs

open Go.RowKit
set_option maxHeartbeats 1000000

def Blk5 (W : World) (b : Nat) (x0 x1 x2 x3 x4 : Value) : Prop := b < W.heap.size ∧
 (W.cell? ⟨b, 0, none⟩ = some x0 ∧ W.cell? ⟨b, 1, none⟩ = some x1 ∧ W.cell? ⟨b, 2, none⟩ = some x2 ∧ W.cell? ⟨b, 3, none⟩ = some x3 ∧ W.cell? ⟨b, 4, none⟩ = some x4) ∧
 (W.frozen? ⟨b, 0, none⟩ = false ∧ W.frozen? ⟨b, 1, none⟩ = false ∧ W.frozen? ⟨b, 2, none⟩ = false ∧ W.frozen? ⟨b, 3, none⟩ = false ∧ W.frozen? ⟨b, 4, none⟩ = false)
theorem blk5_top {w w1 : World} {x0 x1 x2 x3 x4 : Value} {T : TypeId} {b : Nat} (hb : b = w.heap.size) (E : Ext (w.alloc (.cells #[x0, x1, x2, x3, x4] T)) w1) : Blk5 w1 b x0 x1 x2 x3 x4 := by
 subst hb
 have hs : w.heap.size < (w.alloc (.cells #[x0, x1, x2, x3, x4] T)).heap.size := by simp
 have k := fun o => E.cell.1 w.heap.size o hs
 have f := fun o => E.cell.2 w.heap.size o hs
 refine ⟨Nat.lt_of_lt_of_le hs E.sz, ⟨(k 0).trans ?_, (k 1).trans ?_, (k 2).trans ?_, (k 3).trans ?_, (k 4).trans ?_⟩, (f 0).trans ?_, (f 1).trans ?_, (f 2).trans ?_, (f 3).trans ?_, (f 4).trans ?_⟩
 all_goals simp [go_sem]
theorem Blk5.ext {w w' : World} {b : Nat} {x0 x1 x2 x3 x4 : Value} (h : Blk5 w b x0 x1 x2 x3 x4) (e : Ext w w') : Blk5 w' b x0 x1 x2 x3 x4 := by
 obtain ⟨z, ⟨k0, k1, k2, k3, k4⟩, f0, f1, f2, f3, f4⟩ := h
 have k := fun o => e.cell.1 b o z
 have f := fun o => e.cell.2 b o z
 exact ⟨Nat.lt_of_lt_of_le z e.sz, ⟨(k 0).trans k0, (k 1).trans k1, (k 2).trans k2, (k 3).trans k3, (k 4).trans k4⟩, (f 0).trans f0, (f 1).trans f1, (f 2).trans f2, (f 3).trans f3, (f 4).trans f4⟩
theorem Blk5.far1 {w : World} {b c : Nat} {x0 x1 x2 x3 x4 : Value} (h : Blk5 w b x0 x1 x2 x3 x4) (hc : c ≠ b) (o : Nat) (v : Value) : Blk5 (w.setCell ⟨c, o, none⟩ v) b x0 x1 x2 x3 x4 := by
 obtain ⟨z, ⟨k0, k1, k2, k3, k4⟩, f0, f1, f2, f3, f4⟩ := h
 refine ⟨by simpa [World.setCell] using z, ⟨?_, ?_, ?_, ?_, ?_⟩, ?_, ?_, ?_, ?_, ?_⟩
 · rw [World.cell?_setCell_far _ _ _ _ hc]; exact k0
 · rw [World.cell?_setCell_far _ _ _ _ hc]; exact k1
 · rw [World.cell?_setCell_far _ _ _ _ hc]; exact k2
 · rw [World.cell?_setCell_far _ _ _ _ hc]; exact k3
 · rw [World.cell?_setCell_far _ _ _ _ hc]; exact k4
 · rw [World.frozen?_setCell]; exact f0
 · rw [World.frozen?_setCell]; exact f1
 · rw [World.frozen?_setCell]; exact f2
 · rw [World.frozen?_setCell]; exact f3
 · rw [World.frozen?_setCell]; exact f4
theorem Blk5.far {w : World} {b c : Nat} {x0 x1 x2 x3 x4 : Value} (h : Blk5 w b x0 x1 x2 x3 x4) (hc : c ≠ b) (y0 y1 y2 y3 y4 : Value) :
   Blk5 (((((w.setCell ⟨c, 0, none⟩ y0).setCell ⟨c, 1, none⟩ y1).setCell ⟨c, 2, none⟩ y2).setCell ⟨c, 3, none⟩ y3).setCell ⟨c, 4, none⟩ y4) b x0 x1 x2 x3 x4 := (((((h.far1 hc _ _).far1 hc _ _).far1 hc _ _).far1 hc _ _).far1 hc _ _)
theorem Blk5.put0 {w : World} {b : Nat} {x0 x1 x2 x3 x4 : Value} (h : Blk5 w b x0 x1 x2 x3 x4) (v : Value) : Blk5 (w.setCell ⟨b, 0, none⟩ v) b v x1 x2 x3 x4 := by
 obtain ⟨z, ⟨k0, k1, k2, k3, k4⟩, f0, f1, f2, f3, f4⟩ := h
 have e := World.cell?_setCell_same w ⟨b, 0, none⟩ v (by rw [k0])
 refine ⟨by simpa [World.setCell] using z, ⟨e, ?_, ?_, ?_, ?_⟩, ?_, ?_, ?_, ?_, ?_⟩
 · rw [World.cell?_setCell_other _ _ _ _ (by simp)]; exact k1
 · rw [World.cell?_setCell_other _ _ _ _ (by simp)]; exact k2
 · rw [World.cell?_setCell_other _ _ _ _ (by simp)]; exact k3
 · rw [World.cell?_setCell_other _ _ _ _ (by simp)]; exact k4
 · rw [World.frozen?_setCell]; exact f0
 · rw [World.frozen?_setCell]; exact f1
 · rw [World.frozen?_setCell]; exact f2
 · rw [World.frozen?_setCell]; exact f3
 · rw [World.frozen?_setCell]; exact f4
theorem Blk5.put1 {w : World} {b : Nat} {x0 x1 x2 x3 x4 : Value} (h : Blk5 w b x0 x1 x2 x3 x4) (v : Value) : Blk5 (w.setCell ⟨b, 1, none⟩ v) b x0 v x2 x3 x4 := by
 obtain ⟨z, ⟨k0, k1, k2, k3, k4⟩, f0, f1, f2, f3, f4⟩ := h
 have e := World.cell?_setCell_same w ⟨b, 1, none⟩ v (by rw [k1])
 refine ⟨by simpa [World.setCell] using z, ⟨?_, e, ?_, ?_, ?_⟩, ?_, ?_, ?_, ?_, ?_⟩
 · rw [World.cell?_setCell_other _ _ _ _ (by simp)]; exact k0
 · rw [World.cell?_setCell_other _ _ _ _ (by simp)]; exact k2
 · rw [World.cell?_setCell_other _ _ _ _ (by simp)]; exact k3
 · rw [World.cell?_setCell_other _ _ _ _ (by simp)]; exact k4
 · rw [World.frozen?_setCell]; exact f0
 · rw [World.frozen?_setCell]; exact f1
 · rw [World.frozen?_setCell]; exact f2
 · rw [World.frozen?_setCell]; exact f3
 · rw [World.frozen?_setCell]; exact f4
theorem Blk5.put2 {w : World} {b : Nat} {x0 x1 x2 x3 x4 : Value} (h : Blk5 w b x0 x1 x2 x3 x4) (v : Value) : Blk5 (w.setCell ⟨b, 2, none⟩ v) b x0 x1 v x3 x4 := by
 obtain ⟨z, ⟨k0, k1, k2, k3, k4⟩, f0, f1, f2, f3, f4⟩ := h
 have e := World.cell?_setCell_same w ⟨b, 2, none⟩ v (by rw [k2])
 refine ⟨by simpa [World.setCell] using z, ⟨?_, ?_, e, ?_, ?_⟩, ?_, ?_, ?_, ?_, ?_⟩
 · rw [World.cell?_setCell_other _ _ _ _ (by simp)]; exact k0
 · rw [World.cell?_setCell_other _ _ _ _ (by simp)]; exact k1
 · rw [World.cell?_setCell_other _ _ _ _ (by simp)]; exact k3
 · rw [World.cell?_setCell_other _ _ _ _ (by simp)]; exact k4
 · rw [World.frozen?_setCell]; exact f0
 · rw [World.frozen?_setCell]; exact f1
 · rw [World.frozen?_setCell]; exact f2
 · rw [World.frozen?_setCell]; exact f3
 · rw [World.frozen?_setCell]; exact f4
theorem Blk5.put3 {w : World} {b : Nat} {x0 x1 x2 x3 x4 : Value} (h : Blk5 w b x0 x1 x2 x3 x4) (v : Value) : Blk5 (w.setCell ⟨b, 3, none⟩ v) b x0 x1 x2 v x4 := by
 obtain ⟨z, ⟨k0, k1, k2, k3, k4⟩, f0, f1, f2, f3, f4⟩ := h
 have e := World.cell?_setCell_same w ⟨b, 3, none⟩ v (by rw [k3])
 refine ⟨by simpa [World.setCell] using z, ⟨?_, ?_, ?_, e, ?_⟩, ?_, ?_, ?_, ?_, ?_⟩
 · rw [World.cell?_setCell_other _ _ _ _ (by simp)]; exact k0
 · rw [World.cell?_setCell_other _ _ _ _ (by simp)]; exact k1
 · rw [World.cell?_setCell_other _ _ _ _ (by simp)]; exact k2
 · rw [World.cell?_setCell_other _ _ _ _ (by simp)]; exact k4
 · rw [World.frozen?_setCell]; exact f0
 · rw [World.frozen?_setCell]; exact f1
 · rw [World.frozen?_setCell]; exact f2
 · rw [World.frozen?_setCell]; exact f3
 · rw [World.frozen?_setCell]; exact f4
theorem Blk5.put4 {w : World} {b : Nat} {x0 x1 x2 x3 x4 : Value} (h : Blk5 w b x0 x1 x2 x3 x4) (v : Value) : Blk5 (w.setCell ⟨b, 4, none⟩ v) b x0 x1 x2 x3 v := by
 obtain ⟨z, ⟨k0, k1, k2, k3, k4⟩, f0, f1, f2, f3, f4⟩ := h
 have e := World.cell?_setCell_same w ⟨b, 4, none⟩ v (by rw [k4])
 refine ⟨by simpa [World.setCell] using z, ⟨?_, ?_, ?_, ?_, e⟩, ?_, ?_, ?_, ?_, ?_⟩
 · rw [World.cell?_setCell_other _ _ _ _ (by simp)]; exact k0
 · rw [World.cell?_setCell_other _ _ _ _ (by simp)]; exact k1
 · rw [World.cell?_setCell_other _ _ _ _ (by simp)]; exact k2
 · rw [World.cell?_setCell_other _ _ _ _ (by simp)]; exact k3
 · rw [World.frozen?_setCell]; exact f0
 · rw [World.frozen?_setCell]; exact f1
 · rw [World.frozen?_setCell]; exact f2
 · rw [World.frozen?_setCell]; exact f3
 · rw [World.frozen?_setCell]; exact f4
theorem Blk5.set {w : World} {b : Nat} {o0 o1 o2 o3 o4 : Value} (h : Blk5 w b o0 o1 o2 o3 o4) (x0 x1 x2 x3 x4 : Value) :
   Blk5 (((((w.setCell ⟨b, 0, none⟩ x0).setCell ⟨b, 1, none⟩ x1).setCell ⟨b, 2, none⟩ x2).setCell ⟨b, 3, none⟩ x3).setCell ⟨b, 4, none⟩ x4) b x0 x1 x2 x3 x4 := (((((h.put0 _).put1 _).put2 _).put3 _).put4 _)
theorem Blk5.dr {w : World} {b : Nat} {x0 x1 x2 x3 x4 : Value} (h : Blk5 w b x0 x1 x2 x3 x4) : Blk5 w.drew b x0 x1 x2 x3 x4 := h.ext (Ext.drew (Ext.refl _))
theorem Blk5.al {w : World} {b : Nat} {x0 x1 x2 x3 x4 : Value} (o : Obj) (h : Blk5 w b x0 x1 x2 x3 x4) : Blk5 (w.alloc o) b x0 x1 x2 x3 x4 := h.ext (Ext.alloc (Ext.refl _) _)
/-- The end of a function whose result, and others beside it, lies in a block of its own. -/
theorem fin5 (v : Value) {fn : Func} {Q : Ending → World → Prop} {a : Act} {w W : World} {b : Nat} {x0 x1 x2 x3 x4 : Value}
   (B : Blk5 W b x0 x1 x2 x3 x4) (hd : a.defers = []) (E : Ext w W)
   (hr : W.cell? ⟨b, 0, none⟩ = some x0 → W.cell? ⟨b, 1, none⟩ = some x1 → W.cell? ⟨b, 2, none⟩ = some x2 → W.cell? ⟨b, 3, none⟩ = some x3 → W.cell? ⟨b, 4, none⟩ = some x4 → (results fn a.tmps).run Tryz.prog W = .ok v W)
   (hQ : Ext w W → Q (.returned v) W) : bodyPost Tryz.prog fn Q .ret a W :=
 bodyPost_ret (hr B.2.1.1 B.2.1.2.1 B.2.1.2.2.1 B.2.1.2.2.2.1 B.2.1.2.2.2.2) hd (hQ E)

open Go.RowKit
set_option maxHeartbeats 1000000

/-- A word in memory. -/
def aggT (t : Tk) : Value := .agg #[.int .i64 t.1, .int .i64 t.2.1, .string (bs t.2.2.1), .int .i64 t.2.2.2.1, .int .i64 t.2.2.2.2]
/-- The panic that tells a place, and why. -/
def flt (k : Nat) (c : Int) : Ending := .panicked [{ v := .iface 67 (.agg #[.int .i64 (k : Int), .int .i64 c]), recovered := false }]
/-- How a word is answered that begins at a place. -/
def NxR (r : Except Int Wd) (k : Nat) (e : Ending) : Prop :=
 match r with
 | .ok x => e = .returned (.tuple #[.agg #[.int .i64 x.1, .int .i64 0, .string (bs x.2.1), .int .i64 x.2.2.1, .int .i64 x.2.2.2.1], .int .i64 ((k + x.2.2.2.2 : Nat) : Int)])
 | .error c => e = flt k c
theorem nx_fin (x : Wd) (k : Nat) (i : Int) (hi : i = ((k + x.2.2.2.2 : Nat) : Int)) :
   NxR (.ok x) k (.returned (.tuple #[.agg #[.int .i64 x.1, .int .i64 0, .string (bs x.2.1), .int .i64 x.2.2.1, .int .i64 x.2.2.2.1], .int .i64 i])) := by subst hi; rfl
theorem byte_ne {c : UInt8} (n : Nat) (hn : n < 256) : ((c.toNat : Int) == (n : Int)) = (c == UInt8.ofNat n) := by
 rw [Bool.eq_iff_iff]; simp; constructor
 · intro h; refine UInt8.toNat_inj.mp ?_; rw [UInt8.toNat_ofNat']; omega
 · rintro rfl; rw [UInt8.toNat_ofNat']; omega
theorem sub_list (s : ByteArray) (i j : Nat) : (s.extract i j).data.toList = (s.data.toList.drop i).take (j - i) := by
 rw [Lib.extract_data]
theorem sub_bs (s : ByteArray) (i n : Nat) : s.extract i (i + n) = bs ((s.data.toList.drop i).take n) := by
 have h := sub_list s i (i + n)
 rw [Nat.add_sub_cancel_left] at h
 rw [← h]; rfl
theorem rest_bs (s : ByteArray) (i : Nat) : s.extract i s.size = bs (s.data.toList.drop i) := by
 have h := sub_list s i s.size
 rw [List.take_of_length_le (by simp)] at h
 rw [← h]; rfl

theorem lword_any (s : ByteArray) (k : Nat) (w : World) (hk : k ≤ s.size) (hs : s.size ≤ 300) :
   Calls Tryz.prog 81 #[.string s, .int .i64 (k : Int)] w fun e w' => NxR (wdR (s.data.toList.drop k)) k e ∧ Ext w w' := by
 have c1 := fun W => past_word s k W hk hs
 have hr : run inW (s.data.toList.drop k) ≤ s.size - k := by have := runL_le inW (s.data.toList.drop k); simp at this; omega
 have HN : Hid (wdR (s.data.toList.drop k) = .ok (2, (s.data.toList.drop k).take (run inW (s.data.toList.drop k)), 0, 0, run inW (s.data.toList.drop k))) := rfl
 have HX : Hid (s.extract k (k + run inW (s.data.toList.drop k)) = bs ((s.data.toList.drop k).take (run inW (s.data.toList.drop k)))) := sub_bs _ _ _
 obtain ⟨m, hm⟩ : ∃ m, k + run inW (s.data.toList.drop k) = m := ⟨_, rfl⟩
 have HM : Hid (k + run inW (s.data.toList.drop k) = m) := hm
 rw [hm] at c1 HX
 have m1 : k ≤ m := by omega
 have m2 : m ≤ s.size := by omega
 clear hm hr
 go_enter Tryz.func81, Tryz.ntmps81
 go_wp2_with fail
 refine (c1 _).mono ?_
 rintro e w1 ⟨rfl, rfl⟩
 go_wp2_with fail
 refine fin5 _ (blk5_top rfl (Ext.refl _)) rfl ((Ext.refl _).alloc _) (fun g0 g1 g2 g3 g4 => by simp [results, Tryz.results81, go_sem, g0, g1, g2, g3, g4]; rfl) (fun h => ⟨?_, h⟩)
 rw [HN.out, HX.out, ← HM.out]
 exact rfl

/-! ### What is sought in a table -/
theorem find_here {α : Type} {l : List α} {q : α → Bool} {j : Nat} {x : α} (h : (l.take j).find? q = none) (hx : l[j]? = some x) (hq : q x = true) : l.find? q = some x := by
 have hj : j < l.length := (List.getElem?_eq_some_iff.mp hx).1
 have e : l = l.take j ++ x :: l.drop (j + 1) := by
   rw [List.getElem?_eq_getElem hj] at hx
   cases hx
   rw [← List.drop_eq_getElem_cons hj, List.take_append_drop]
 rw [e, List.find?_append, h]; simp [hq]
theorem find_on {α : Type} {l : List α} {q : α → Bool} {j : Nat} {x : α} (h : (l.take j).find? q = none) (hx : l[j]? = some x) (hq : q x = false) : (l.take (j + 1)).find? q = none := by
 rw [List.take_add_one, hx, List.find?_append, h]; simp [hq]
theorem find_end {α : Type} {l : List α} {q : α → Bool} {j : Nat} (h : (l.take j).find? q = none) (hj : l.length ≤ j) : l.find? q = none := by
 rwa [List.take_of_length_le hj] at h

/-- The errors' names, and the signs, lie where the program's text lays them. -/
def Nm (w : World) : Prop := 0 < w.heap.size ∧
 w.cell? ⟨0, 0, none⟩ = some (.string ⟨#[]⟩) ∧ w.cell? ⟨0, 1, none⟩ = some (.string ⟨#[35, 82, 69, 70, 33]⟩) ∧ w.cell? ⟨0, 2, none⟩ = some (.string ⟨#[35, 86, 65, 76, 85, 69, 33]⟩) ∧
 w.cell? ⟨0, 3, none⟩ = some (.string ⟨#[35, 68, 73, 86, 47, 48, 33]⟩) ∧ w.cell? ⟨0, 4, none⟩ = some (.string ⟨#[35, 78, 85, 77, 33]⟩) ∧ w.cell? ⟨0, 5, none⟩ = some (.string ⟨#[35, 67, 89, 67, 76, 69, 33]⟩)
theorem Nm.ext {w w' : World} (h : Nm w) (e : Ext w w') : Nm w' := by
 obtain ⟨hs, h0, h1, h2, h3, h4, h5⟩ := h
 have k := fun o => e.cell.1 0 o hs
 exact ⟨Nat.lt_of_lt_of_le hs e.sz, (k 0).trans h0, (k 1).trans h1, (k 2).trans h2, (k 3).trans h3, (k 4).trans h4, (k 5).trans h5⟩
def Sg (w : World) : Prop := 1 < w.heap.size ∧ ∀ i p, sgsL[i]? = some p → w.cell? ⟨1, i, none⟩ = some (.string (bs p))
theorem Sg.ext {w w' : World} (h : Sg w) (e : Ext w w') : Sg w' :=
 ⟨Nat.lt_of_lt_of_le h.1 e.sz, fun i p hp => (e.cell.1 1 i h.1).trans (h.2 i p hp)⟩
def Tab7 (w : World) : Prop := Nm w ∧ Sg w
theorem Tab7.ext {w w' : World} (h : Tab7 w) (e : Ext w w') : Tab7 w' := ⟨h.1.ext e, h.2.ext e⟩

theorem errname_at (i : Nat) (x : Int × List UInt8) (hx : errsL[i]? = some x) (w : World) (hN : Nm w) : x.1 = (i : Int) + 1 ∧ Calls Tryz.prog 39 #[.int .i64 ((i + 1 : Nat) : Int)] w fun r w' => r = .returned (.string (bs x.2)) ∧ w' = w := by
 obtain ⟨hs, h0, h1, h2, h3, h4, h5⟩ := hN
 have hi : i < 5 := (List.getElem?_eq_some_iff.mp hx).1
 have hh : i = 0 ∨ i = 1 ∨ i = 2 ∨ i = 3 ∨ i = 4 := by omega
 rcases hh with rfl | rfl | rfl | rfl | rfl
 all_goals
   simp [errsL] at hx
   subst hx
   refine ⟨rfl, ?_⟩
   clear hi
   go_enter Tryz.func39, Tryz.ntmps39
   go_wp2_with fail
   go_ret
   exact ⟨rfl, rfl⟩

theorem failure_any (s : ByteArray) (k : Nat) (w : World) (hk : k ≤ s.size) (hs : s.size ≤ 300) (hN : Nm w) :
   Calls Tryz.prog 82 #[.string s, .int .i64 (k : Int)] w fun e w' => NxR (errR (s.data.toList.drop k)) k e ∧ Ext w w' := by
 have HN : Hid (Nm w) := hN
 have HX : Hid (s.extract k s.size = bs (s.data.toList.drop k)) := rest_bs s k
 obtain ⟨q, hq⟩ : ∃ q, s.extract k s.size = q := ⟨_, rfl⟩
 have hqs : q.size ≤ 300 := by rw [← hq, ByteArray.size_extract]; omega
 have HQ : Hid (q.data.toList = s.data.toList.drop k) := by show _ = _; rw [← hq, HX.out]; rfl
 have hz : (s.size : Int) = (s.size : Int) := rfl
 clear hN HX hz
 go_enter Tryz.func82, Tryz.ntmps82
 go_wp2_with fail
 go_loopw [6] (fun i wr => ∃ j : Nat, j ≤ 5 ∧ i = .int .i64 ((j + 1 : Nat) : Int) ∧ (errsL.take j).find? (fun x => x.2.isPrefixOf (s.data.toList.drop k)) = none ∧ wr = w.alloc (.cells #[.int .i64 0, .int .i64 0, .string ⟨#[]⟩, .int .i64 0, .int .i64 0] 45)) (fun i _ => 6 - (intOf i).toNat)
 case atStart => exact ⟨0, by omega, rfl, rfl, rfl⟩
 case round =>
   obtain ⟨j, hj, rfl, hf, rfl⟩ := hrel
   have HF : Hid ((errsL.take j).find? (fun x => x.2.isPrefixOf (s.data.toList.drop k)) = none) := hf
   clear hf
   by_cases hlt : j < 5
   · obtain ⟨x, hx⟩ : ∃ x, errsL[j]? = some x := ⟨_, List.getElem?_eq_getElem (by simp [errsL]; omega)⟩
     have c1 := fun W h => (errname_at j x hx W h).2
     have HY : Hid (x.1 = (j : Int) + 1) := (errname_at j x hx w HN.out).1
     have HE : Hid (errsL[j]? = some x) := hx
     have hxs : (bs x.2).size ≤ 10 := by
       have hh : j = 0 ∨ j = 1 ∨ j = 2 ∨ j = 3 ∨ j = 4 := by omega
       rcases hh with rfl | rfl | rfl | rfl | rfl <;> (simp [errsL] at hx; subst hx; decide)
     have HZ : Hid ((bs x.2).size = x.2.length) := bs_size _
     have HP : Hid (x.2.isPrefixOf (s.data.toList.drop k) = Lib.hasPrefix q.data.toList (bs x.2).data.toList) := by show _ = _; rw [HQ.out]; rfl
     have c2 := fun W => Tryz.strings_HasPrefix q (bs x.2) W
     rw [← HP.out] at c2
     obtain ⟨t, ht⟩ : ∃ t, x.2.isPrefixOf (s.data.toList.drop k) = t := ⟨_, rfl⟩
     rw [ht] at c2
     have HT : Hid (x.2.isPrefixOf (s.data.toList.drop k) = t) := ht
     clear hx ht HP
     generalize hb : bs x.2 = b at c1 c2 hxs HZ
     have HB : Hid (bs x.2 = b) := hb
     clear hb
     have wk : wrap64 (((j + 1 : Nat) : Int) + 1) = ((j + 1 + 1 : Nat) : Int) := by unfold wrap64; omega
     have hl1 : ((j + 1 : Nat) : Int) ≤ 5 := by omega
     cases t
     · go_wp2_with fail
       refine (c1 _ (HN.out.ext ((Ext.refl _).alloc _))).mono ?_
       rintro e w1 ⟨rfl, rfl⟩
       go_wp2_with fail
       refine (c2 _).mono ?_
       rintro e w1 ⟨rfl, rfl⟩
       go_wp2_with fail
       go_roundw
       case rel => exact ⟨j + 1, by omega, by go_num, find_on HF.out HE.out HT.out, trivial⟩
       case measure => simp [intOf]; omega
     · go_wp2_with fail
       refine (c1 _ (HN.out.ext ((Ext.refl _).alloc _))).mono ?_
       rintro e w1 ⟨rfl, rfl⟩
       go_wp2_with fail
       refine (c2 _).mono ?_
       rintro e w1 ⟨rfl, rfl⟩
       go_wp2_with fail
       refine fin5 _ (blk5_top rfl (Ext.refl _)) rfl ((Ext.refl _).alloc _) (fun g0 g1 g2 g3 g4 => by simp [results, Tryz.results82, go_sem, g0, g1, g2, g3, g4]; rfl) (fun h => ⟨?_, h⟩)
       have hr : errR (s.data.toList.drop k) = .ok (4, [], 0, x.1, x.2.length) := by unfold errR errT; rw [find_here HF.out HE.out HT.out]
       rw [hr, HY.out, ← HZ.out]
       exact nx_fin (4, [], 0, (j : Int) + 1, b.size) k _ (by simp)
   · have hl1 : ¬ ((j + 1 : Nat) : Int) ≤ 5 := by omega
     go_wp2_with fail
     have hr : errR (s.data.toList.drop k) = .error 4 := by unfold errR errT; rw [find_end HF.out (by simp [errsL]; omega)]
     exact ⟨rfl, by rw [hr]; rfl, (Ext.refl _).alloc _⟩
def sgA : Value := .agg #[.string (bs [60, 62]), .string (bs [60, 61]), .string (bs [62, 61]), .string (bs [60]), .string (bs [62]), .string (bs [61]), .string (bs [43]), .string (bs [45]), .string (bs [42]), .string (bs [47]), .string (bs [38]), .string (bs [40]), .string (bs [41]), .string (bs [44]), .string (bs [58])]
theorem sg_idx0 (W : World) : (Instr.index 142 sgA (.int .i64 0)).run Tryz.prog W = .ok (.string (bs [60, 62])) W := by kernel_rfl
theorem sg_idx1 (W : World) : (Instr.index 142 sgA (.int .i64 1)).run Tryz.prog W = .ok (.string (bs [60, 61])) W := by kernel_rfl
theorem sg_idx2 (W : World) : (Instr.index 142 sgA (.int .i64 2)).run Tryz.prog W = .ok (.string (bs [62, 61])) W := by kernel_rfl
theorem sg_idx3 (W : World) : (Instr.index 142 sgA (.int .i64 3)).run Tryz.prog W = .ok (.string (bs [60])) W := by kernel_rfl
theorem sg_idx4 (W : World) : (Instr.index 142 sgA (.int .i64 4)).run Tryz.prog W = .ok (.string (bs [62])) W := by kernel_rfl
theorem sg_idx5 (W : World) : (Instr.index 142 sgA (.int .i64 5)).run Tryz.prog W = .ok (.string (bs [61])) W := by kernel_rfl
theorem sg_idx6 (W : World) : (Instr.index 142 sgA (.int .i64 6)).run Tryz.prog W = .ok (.string (bs [43])) W := by kernel_rfl
theorem sg_idx7 (W : World) : (Instr.index 142 sgA (.int .i64 7)).run Tryz.prog W = .ok (.string (bs [45])) W := by kernel_rfl
theorem sg_idx8 (W : World) : (Instr.index 142 sgA (.int .i64 8)).run Tryz.prog W = .ok (.string (bs [42])) W := by kernel_rfl
theorem sg_idx9 (W : World) : (Instr.index 142 sgA (.int .i64 9)).run Tryz.prog W = .ok (.string (bs [47])) W := by kernel_rfl
theorem sg_idx10 (W : World) : (Instr.index 142 sgA (.int .i64 10)).run Tryz.prog W = .ok (.string (bs [38])) W := by kernel_rfl
theorem sg_idx11 (W : World) : (Instr.index 142 sgA (.int .i64 11)).run Tryz.prog W = .ok (.string (bs [40])) W := by kernel_rfl
theorem sg_idx12 (W : World) : (Instr.index 142 sgA (.int .i64 12)).run Tryz.prog W = .ok (.string (bs [41])) W := by kernel_rfl
theorem sg_idx13 (W : World) : (Instr.index 142 sgA (.int .i64 13)).run Tryz.prog W = .ok (.string (bs [44])) W := by kernel_rfl
theorem sg_idx14 (W : World) : (Instr.index 142 sgA (.int .i64 14)).run Tryz.prog W = .ok (.string (bs [58])) W := by kernel_rfl
theorem sg_idx (j : Nat) (p : List UInt8) (h : sgsL[j]? = some p) (W : World) : (Instr.index 142 sgA (.int .i64 (j : Int))).run Tryz.prog W = .ok (.string (bs p)) W := by
 have hj : j < 15 := (List.getElem?_eq_some_iff.mp h).1
 have hh : j = 0 ∨ j = 1 ∨ j = 2 ∨ j = 3 ∨ j = 4 ∨ j = 5 ∨ j = 6 ∨ j = 7 ∨ j = 8 ∨ j = 9 ∨ j = 10 ∨ j = 11 ∨ j = 12 ∨ j = 13 ∨ j = 14 := by omega
 rcases hh with rfl | rfl | rfl | rfl | rfl | rfl | rfl | rfl | rfl | rfl | rfl | rfl | rfl | rfl | rfl
 · simp [sgsL] at h; subst h; exact sg_idx0 W
 · simp [sgsL] at h; subst h; exact sg_idx1 W
 · simp [sgsL] at h; subst h; exact sg_idx2 W
 · simp [sgsL] at h; subst h; exact sg_idx3 W
 · simp [sgsL] at h; subst h; exact sg_idx4 W
 · simp [sgsL] at h; subst h; exact sg_idx5 W
 · simp [sgsL] at h; subst h; exact sg_idx6 W
 · simp [sgsL] at h; subst h; exact sg_idx7 W
 · simp [sgsL] at h; subst h; exact sg_idx8 W
 · simp [sgsL] at h; subst h; exact sg_idx9 W
 · simp [sgsL] at h; subst h; exact sg_idx10 W
 · simp [sgsL] at h; subst h; exact sg_idx11 W
 · simp [sgsL] at h; subst h; exact sg_idx12 W
 · simp [sgsL] at h; subst h; exact sg_idx13 W
 · simp [sgsL] at h; subst h; exact sg_idx14 W
theorem sign_any (s : ByteArray) (k : Nat) (w : World) (hk : k ≤ s.size) (hs : s.size ≤ 300) (hS : Sg w) :
   Calls Tryz.prog 83 #[.string s, .int .i64 (k : Int)] w fun e w' => NxR (sgR (s.data.toList.drop k)) k e ∧ Ext w w' := by
 have HX : Hid (s.extract k s.size = bs (s.data.toList.drop k)) := rest_bs s k
 obtain ⟨q, hq⟩ : ∃ q, s.extract k s.size = q := ⟨_, rfl⟩
 have hqs : q.size ≤ 300 := by rw [← hq, ByteArray.size_extract]; omega
 have HQ : Hid (q.data.toList = s.data.toList.drop k) := by show _ = _; rw [← hq, HX.out]; rfl
 have hz : 1 < w.heap.size := hS.1
 have d0 : w.cell? ⟨1, 0, none⟩ = some (.string (bs [60, 62])) := hS.2 0 _ rfl
 have d1 : w.cell? ⟨1, 1, none⟩ = some (.string (bs [60, 61])) := hS.2 1 _ rfl
 have d2 : w.cell? ⟨1, 2, none⟩ = some (.string (bs [62, 61])) := hS.2 2 _ rfl
 have d3 : w.cell? ⟨1, 3, none⟩ = some (.string (bs [60])) := hS.2 3 _ rfl
 have d4 : w.cell? ⟨1, 4, none⟩ = some (.string (bs [62])) := hS.2 4 _ rfl
 have d5 : w.cell? ⟨1, 5, none⟩ = some (.string (bs [61])) := hS.2 5 _ rfl
 have d6 : w.cell? ⟨1, 6, none⟩ = some (.string (bs [43])) := hS.2 6 _ rfl
 have d7 : w.cell? ⟨1, 7, none⟩ = some (.string (bs [45])) := hS.2 7 _ rfl
 have d8 : w.cell? ⟨1, 8, none⟩ = some (.string (bs [42])) := hS.2 8 _ rfl
 have d9 : w.cell? ⟨1, 9, none⟩ = some (.string (bs [47])) := hS.2 9 _ rfl
 have d10 : w.cell? ⟨1, 10, none⟩ = some (.string (bs [38])) := hS.2 10 _ rfl
 have d11 : w.cell? ⟨1, 11, none⟩ = some (.string (bs [40])) := hS.2 11 _ rfl
 have d12 : w.cell? ⟨1, 12, none⟩ = some (.string (bs [41])) := hS.2 12 _ rfl
 have d13 : w.cell? ⟨1, 13, none⟩ = some (.string (bs [44])) := hS.2 13 _ rfl
 have d14 : w.cell? ⟨1, 14, none⟩ = some (.string (bs [58])) := hS.2 14 _ rfl
 clear HX hS
 go_enter Tryz.func83, Tryz.ntmps83
 go_wp2_with fail
 clear d0 d1 d2 d3 d4 d5 d6 d7 d8 d9 d10 d11 d12 d13 d14
 go_loopw [9] (fun i wr => ∃ j : Nat, j ≤ 15 ∧ i = .int .i64 (j : Int) ∧ (sgsL.take j).find? (fun p => p.isPrefixOf (s.data.toList.drop k)) = none ∧ wr = w.alloc (.cells #[.int .i64 0, .int .i64 0, .string ⟨#[]⟩, .int .i64 0, .int .i64 0] 45)) (fun i _ => 15 - (intOf i).toNat)
 case atStart => exact ⟨0, by omega, rfl, rfl, rfl⟩
 case round =>
   obtain ⟨j, hj, rfl, hf, rfl⟩ := hrel
   have HF : Hid ((sgsL.take j).find? (fun p => p.isPrefixOf (s.data.toList.drop k)) = none) := hf
   clear hf
   by_cases hlt : j < 15
   · obtain ⟨x, hx⟩ : ∃ x, sgsL[j]? = some x := ⟨_, List.getElem?_eq_getElem (by simp [sgsL]; omega)⟩
     have hi := fun W => sg_idx j x hx W
     unfold sgA at hi
     have HE : Hid (sgsL[j]? = some x) := hx
     have hxs : (bs x).size ≤ 10 := by
       have hm := List.mem_of_getElem? hx
       simp [sgsL] at hm
       rcases hm with rfl | rfl | rfl | rfl | rfl | rfl | rfl | rfl | rfl | rfl | rfl | rfl | rfl | rfl | rfl <;> decide
     have HZ : Hid ((bs x).size = x.length) := bs_size _
     have HP : Hid (x.isPrefixOf (s.data.toList.drop k) = Lib.hasPrefix q.data.toList (bs x).data.toList) := by show _ = _; rw [HQ.out]; rfl
     have c2 := fun W => Tryz.strings_HasPrefix q (bs x) W
     rw [← HP.out] at c2
     obtain ⟨t, ht⟩ : ∃ t, x.isPrefixOf (s.data.toList.drop k) = t := ⟨_, rfl⟩
     rw [ht] at c2
     have HT : Hid (x.isPrefixOf (s.data.toList.drop k) = t) := ht
     clear hx ht HP
     generalize hb : bs x = b at hi c2 hxs HZ
     have HB : Hid (bs x = b) := hb
     clear hb
     have wk : wrap64 ((j : Int) + 1) = ((j + 1 : Nat) : Int) := by unfold wrap64; omega
     have hl1 : (j : Int) < 15 := by omega
     cases t
     · go_wp2_with fail
       refine (c2 _).mono ?_
       rintro e w1 ⟨rfl, rfl⟩
       go_wp2_with fail
       go_roundw
       case rel => exact ⟨j + 1, by omega, by go_num, find_on HF.out HE.out HT.out, trivial⟩
       case measure => simp [intOf]; omega
     · go_wp2_with fail
       refine (c2 _).mono ?_
       rintro e w1 ⟨rfl, rfl⟩
       go_wp2_with fail
       refine fin5 _ (blk5_top rfl (Ext.refl _)) rfl ((Ext.refl _).alloc _) (fun g0 g1 g2 g3 g4 => by simp [results, Tryz.results83, go_sem, g0, g1, g2, g3, g4]; rfl) (fun h => ⟨?_, h⟩)
       have hr : sgR (s.data.toList.drop k) = .ok (3, x, 0, 0, x.length) := by unfold sgR sgT; rw [find_here HF.out HE.out HT.out]
       rw [hr, ← HZ.out, ← HB.out]
       exact nx_fin (3, x, 0, 0, (bs x).size) k _ (by simp)
   · have hl1 : ¬ (j : Int) < 15 := by omega
     go_wp2_with fail
     have hr : sgR (s.data.toList.drop k) = .error 4 := by unfold sgR sgT; rw [find_end HF.out (by simp [sgsL]; omega)]
     exact ⟨rfl, by rw [hr]; rfl, (Ext.refl _).alloc _⟩
end Go.Proofs.YtcggiljlilbdfaaGreatDoor

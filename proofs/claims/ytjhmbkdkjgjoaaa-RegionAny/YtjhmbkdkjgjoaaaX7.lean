import Derived.Test.YtjhmbkdkjgjoaaaX6
import Derived.Lib.OthersKept
import Derived.Deep.WholeRow
import Derived.Shelf.Strings.AsciiSet
import Derived.Test.YtjhmbkdkjgjoaaaX1
import Derived.Test.YtjhmbkdkjgjoaaaX2
import Derived.Test.YtjhmbkdkjgjoaaaShelf
import Derived.Defers
import Derived.Deep.AppendLies
import Derived.Laws.OwnMore
import Derived.WalkLawsBesides
import Derived.Laws.StructEq
import Derived.Shelf.SlicesE.Kit
namespace Go.Proofs.Ytjhmbkdkjgjoaaa
open Go.RowKit
set_option maxHeartbeats 1000000
def sgns : List UInt8 := [36, 48, 49, 50, 51, 52, 53, 54, 55, 56, 57]
theorem sgn_eq (c : UInt8) : sgns.contains c = (c == 36 || dgB c) := by
 have : ∀ c : Fin 256, sgns.contains (UInt8.ofNat c.val) = (UInt8.ofNat c.val == 36 || dgB (UInt8.ofNat c.val)) := by decide +kernel
 have h := this ⟨c.toNat, c.toNat_lt⟩
 simpa using h
theorem at_get (s : ByteArray) (i : Nat) (h : i < s.size) : s.data.toList[i]? = some (s[i]'h) := Lib.data_getElem? s i h
open Go.RowKit
set_option maxHeartbeats 1000000
def dlB (l : List UInt8) : Bool := l.head? == some 36
def undl (l : List UInt8) : List UInt8 := if dlB l then l.tail else l
def nmL (l : List UInt8) : List UInt8 := (undl l).takeWhile (fun c => !sgns.contains c)
def rsL (l : List UInt8) : List UInt8 := (undl l).dropWhile (fun c => !sgns.contains c)
def rowP (l : List UInt8) : Int := rowC (undl (rsL l))
def colP (l : List UInt8) : Int := colN (nmL l)
def okP (l : List UInt8) : Bool := inB (rowP l) (colP l)
def refD (r c : Int) (ar ac : Bool) : Value := .agg #[.int .i64 r, .int .i64 c, .bool ar, .bool ac]
def prV (l : List UInt8) : Value := if okP l then refD (rowP l) (colP l) (dlB (rsL l)) (dlB l) else refD 0 0 false false
def signL (b : Bool) : List UInt8 := if b then [36] else []
open Go.RowKit
abbrev Rf := Int × Int × Bool × Bool
def rz : Rf := (0, 0, false, false)
inductive T where
 | mk (k n : Int) (s : List UInt8) (e : Int) (r q : Rf) (l : List T)
def T.k : T → Int | .mk k _ _ _ _ _ _ => k
def T.n : T → Int | .mk _ n _ _ _ _ _ => n
def T.s : T → List UInt8 | .mk _ _ s _ _ _ _ => s
def T.e : T → Int | .mk _ _ _ e _ _ _ => e
def T.r : T → Rf | .mk _ _ _ _ r _ _ => r
def T.q : T → Rf | .mk _ _ _ _ _ q _ => q
def T.l : T → List T | .mk _ _ _ _ _ _ l => l
def tz : T := .mk 0 0 [] 0 rz rz []
def tNum (n : Int) : T := .mk 0 n [] 0 rz rz []
def tText (s : List UInt8) : T := .mk 1 0 s 0 rz rz []
def tBool (n : Int) : T := .mk 2 n [] 0 rz rz []
def tErr (e : Int) : T := .mk 3 0 [] e rz rz []
def tRef (r : Rf) : T := .mk 4 0 [] 0 r rz []
def tRange (r q : Rf) : T := .mk 5 0 [] 0 r q []
def tNeg (x : T) : T := .mk 6 0 [] 0 rz rz [x]
def tBin (s : List UInt8) (x y : T) : T := .mk 7 0 s 0 rz rz [x, y]
def tCall (s : List UInt8) (l : List T) : T := .mk 8 0 s 0 rz rz l
def bd1 : List (List UInt8) := [[61], [60, 62], [60], [60, 61], [62], [62, 61]]
def bnd (s : List UInt8) : Nat :=
 if s ∈ bd1 then 1 else if s = [38] then 2 else if s = [43] ∨ s = [45] then 3 else if s = [42] ∨ s = [47] then 4 else 0
def rfP (s : List UInt8) : Rf := (rowP s, colP s, dlB (rsL s), dlB s)
def wTrue : List UInt8 := [84, 82, 85, 69]
def wFalse : List UInt8 := [70, 65, 76, 83, 69]
def hd (ts : List Tk) : Tk := ts.headD (5, 0, [], 0, 0)
abbrev Ft := Int × Bool
def cd (b : Bool) : Int := if b then 2 else 4
def ft (ts : List Tk) (c : Bool) : Ft := ((hd ts).2.1, c)
def isSg (p : List UInt8) (ts : List Tk) : Bool := (hd ts).1 == 3 && (hd ts).2.2.1 == p
abbrev Rs := Except Ft (T × List Tk)
def tk1 (d : Nat) (ts : List Tk) : Except Ft (List Tk) := if 40 < d then .error (ft ts true) else .ok ts.tail
def pass1 (p : List UInt8) (d : Nat) (ts : List Tk) : Except Ft (List Tk) := if isSg p ts then tk1 d ts else .error (ft ts false)
def one (d : Nat) (ts : List Tk) (x : T) : Rs := match tk1 d ts with
 | .error e => .error e
 | .ok ts1 => .ok (x, ts1)
def refr (d : Nat) (ts : List Tk) : Except Ft (Rf × List Tk) :=
 if (hd ts).1 = 2 ∧ okP (hd ts).2.2.1 = true then (match tk1 d ts with
   | .error e => .error e
   | .ok ts1 => .ok (rfP (hd ts).2.2.1, ts1)) else .error (ft ts false)
abbrev Rd := Nat → List Tk → Rs
def argm (F : Rd) (d : Nat) (ts : List Tk) : Rs := match F d ts with
 | .error e => .error e
 | .ok (x, ts1) => if x.k = 4 ∧ ts.length = ts1.length + 1 ∧ isSg [58] ts1 = true then (match tk1 d ts1 with
   | .error e => .error e
   | .ok ts2 => match refr d ts2 with
     | .error e => .error e
     | .ok (q, ts3) => .ok (tRange x.r q, ts3)) else .ok (x, ts1)
def argl (F : Rd) (a b : Nat) (d : Nat) : Nat → List T → List Tk → Except Ft (List T × List Tk)
 | 0, l, ts => .ok (l, ts)
 | f + 1, l, ts => if l.length < a ∨ l.length < b ∧ isSg [44] ts = true then (match pass1 [44] d ts with
   | .error e => .error e
   | .ok ts1 => match argm F d ts1 with
     | .error e => .error e
     | .ok (x, ts2) => argl F a b d f (l ++ [x]) ts2) else .ok (l, ts)
def args (F : Rd) (a b : Nat) (d : Nat) (ts : List Tk) : Except Ft (List T × List Tk) := match argm F d ts with
 | .error e => .error e
 | .ok (x, ts1) => argl F a b d ts1.length [x] ts1
def call (F : Rd) (s : List UInt8) (a b : Nat) : Rd := fun d ts => match args F a b d ts with
 | .error e => .error e
 | .ok (l, ts1) => .ok (tCall s l, ts1)
def brk (F : Rd) (d : Nat) (ts : List Tk) : Rs := match pass1 [40] d ts with
 | .error e => .error e
 | .ok ts1 => match F (d + 1) ts1 with
   | .error e => .error e
   | .ok (x, ts2) => match pass1 [41] d ts2 with
     | .error e => .error e
     | .ok ts3 => .ok (x, ts3)
def wrd (F : Rd) (d : Nat) (ts : List Tk) : Rs :=
 if (hd ts).2.2.1 = wTrue then one d ts (tBool 1) else if (hd ts).2.2.1 = wFalse then one d ts (tBool 0) else
 match kno (hd ts).2.2.1 with
 | some (a, b) => (match tk1 d ts with
   | .error e => .error e
   | .ok ts1 => brk (call F (hd ts).2.2.1 a b) d ts1)
 | none => match refr d ts with
   | .error e => .error e
   | .ok (r, ts1) => .ok (tRef r, ts1)
def smp (F : Rd) (d : Nat) (ts : List Tk) : Rs :=
 if (hd ts).1 = 0 then one d ts (tNum (hd ts).2.2.2.1) else if (hd ts).1 = 1 then one d ts (tText (hd ts).2.2.1) else if (hd ts).1 = 4 then one d ts (tErr (hd ts).2.2.2.2) else
 if (hd ts).1 = 2 then wrd F d ts else brk F d ts
def opn (F O : Rd) (d : Nat) (ts : List Tk) : Rs :=
 if isSg [45] ts = true then (match tk1 d ts with
   | .error e => .error e
   | .ok ts1 => match O (d + 1) ts1 with
     | .error e => .error e
     | .ok (x, ts2) => .ok (tNeg x, ts2)) else smp F d ts
def lp (side : Rd) (k : Nat) (d : Nat) : Nat → T → List Tk → Rs
 | 0, x, ts => .ok (x, ts)
 | f + 1, x, ts => if (hd ts).1 = 3 ∧ bnd (hd ts).2.2.1 = k then (match tk1 d ts with
   | .error e => .error e
   | .ok ts1 => match side d ts1 with
     | .error e => .error e
     | .ok (y, ts2) => lp side k d f (tBin (hd ts).2.2.1 x y) ts2) else .ok (x, ts)
def lv (side : Rd) (k : Nat) : Rd := fun d ts => match side d ts with
 | .error e => .error e
 | .ok (x, ts1) => lp side k d ts1.length x ts1
def frm (o : Rd) : Rd := lv (lv (lv (lv o 4) 3) 2) 1
def O : Nat → Rd
 | 0 => fun _ ts => .error (ft ts false)
 | n + 1 => opn (frm (O n)) (O n)
def prs (ts : List Tk) : T × Int × Int := match frm (O ts.length) 0 ts with
 | .error e => (tz, e.1, cd e.2)
 | .ok (x, ts1) => if (hd ts1).1 = 5 then (x, 0, 0) else (tz, (hd ts1).2.1, 4)
def parR (l : List UInt8) : T × Int × Int := if (lexR l).2.2 = 0 then prs (lexR l).1 else (tz, (lexR l).2.1, (lexR l).2.2)
def Nz (ts : List Tk) : Prop := ∃ pre t, ts = pre ++ [t] ∧ t.1 = 5
theorem Nz.tail {ts : List Tk} (h : Nz ts) (h5 : (hd ts).1 ≠ 5) : Nz ts.tail ∧ ts.tail.length + 1 = ts.length := by
 obtain ⟨pre, t, rfl, h1⟩ := h
 cases pre with
 | nil => exact absurd h1 h5
 | cons a b => exact ⟨⟨b, t, rfl, h1⟩, by simp⟩
theorem Nz.ne {ts : List Tk} (h : Nz ts) : ts ≠ [] := by
 obtain ⟨pre, t, rfl, h1⟩ := h
 simp
theorem Nz.pos {ts : List Tk} (h : Nz ts) : 1 ≤ ts.length := by
 obtain ⟨pre, t, rfl, h1⟩ := h
 simp
theorem isSg_k {p : List UInt8} {ts : List Tk} (h : isSg p ts = true) : (hd ts).1 = 3 ∧ (hd ts).2.2.1 = p := by
 unfold isSg at h; simp at h; exact h
def Sh (ts ts' : List Tk) : Prop := Nz ts' ∧ ts'.length < ts.length
def ShR {α : Type} (ts : List Tk) (r : Except Ft (α × List Tk)) : Prop := ∀ x ts', r = .ok (x, ts') → Sh ts ts'
theorem tk1_sh {d : Nat} {ts ts1 : List Tk} (h : Nz ts) (h5 : (hd ts).1 ≠ 5) (e : tk1 d ts = .ok ts1) : Sh ts ts1 := by
 unfold tk1 at e
 split at e
 · cases e
 · cases e
   have := h.tail h5
   exact ⟨this.1, by omega⟩
theorem pass1_sh {p : List UInt8} {d : Nat} {ts ts1 : List Tk} (h : Nz ts) (e : pass1 p d ts = .ok ts1) : Sh ts ts1 := by
 unfold pass1 at e
 split at e
 · rename_i hs
   exact tk1_sh h (by rw [(isSg_k hs).1]; decide) e
 · cases e
theorem one_sh {d : Nat} {ts : List Tk} {x : T} (h : Nz ts) (h5 : (hd ts).1 ≠ 5) : ShR ts (one d ts x) := by
 intro y ts' e
 unfold one at e
 split at e
 · cases e
 · rename_i ts1 h1
   cases e
   exact tk1_sh h h5 h1
theorem refr_sh {d : Nat} {ts : List Tk} (h : Nz ts) : ShR ts (refr d ts) := by
 intro y ts' e
 unfold refr at e
 split at e
 · rename_i hk
   split at e
   · cases e
   · rename_i ts1 h1
     cases e
     exact tk1_sh h (by rw [hk.1]; decide) h1
 · cases e
def ShF (n : Nat) (F : Rd) : Prop := ∀ d ts, Nz ts → ts.length ≤ n → ShR ts (F d ts)
theorem Sh.trans {a b c : List Tk} (h : Sh a b) (k : Sh b c) : Sh a c := ⟨k.1, by have := h.2; have := k.2; omega⟩
theorem argm_sh {n : Nat} {F : Rd} (hF : ShF n F) : ShF n (argm F) := by
 intro d ts h hn x ts' e
 unfold argm at e
 split at e
 · cases e
 · rename_i y ts1 h1
   have s1 := hF d ts h hn y ts1 h1
   split at e
   · rename_i hc
     split at e
     · cases e
     · rename_i ts2 h2
       have s2 := tk1_sh s1.1 (by rw [(isSg_k hc.2.2).1]; decide) h2
       split at e
       · cases e
       · rename_i q ts3 h3
         cases e
         exact (s1.trans s2).trans (refr_sh s2.1 _ _ h3)
   · cases e; exact s1
theorem argl_sh {n : Nat} {F : Rd} (hF : ShF n F) (a b d f : Nat) : ∀ (l l' : List T) (ts ts' : List Tk), Nz ts → ts.length ≤ n → argl F a b d f l ts = .ok (l', ts') → Nz ts' ∧ ts'.length ≤ ts.length := by
 induction f with
 | zero =>
   intro l l' ts ts' h hn e
   unfold argl at e
   cases e
   exact ⟨h, Nat.le_refl _⟩
 | succ f ih =>
   intro l l' ts ts' h hn e
   unfold argl at e
   split at e
   · split at e
     · cases e
     · rename_i ts1 h1
       have s1 := pass1_sh h h1
       split at e
       · cases e
       · rename_i x ts2 h2
         have s2 := argm_sh hF d ts1 s1.1 (by have := s1.2; omega) x ts2 h2
         have := ih _ _ ts2 ts' s2.1 (by have := s1.2; have := s2.2; omega) e
         exact ⟨this.1, by have := s1.2; have := s2.2; omega⟩
   · cases e; exact ⟨h, Nat.le_refl _⟩
theorem args_sh {n : Nat} {F : Rd} (hF : ShF n F) {a b d : Nat} {ts : List Tk} (h : Nz ts) (hn : ts.length ≤ n) : ShR ts (args F a b d ts) := by
 intro x ts' e
 unfold args at e
 split at e
 · cases e
 · rename_i y ts1 h1
   have s1 := argm_sh hF d ts h hn y ts1 h1
   have := argl_sh hF a b d _ _ _ _ _ s1.1 (by have := s1.2; omega) e
   exact ⟨this.1, by have := s1.2; omega⟩
theorem call_sh {n : Nat} {F : Rd} (hF : ShF n F) (s : List UInt8) (a b : Nat) : ShF n (call F s a b) := by
 intro d ts h hn x ts' e
 unfold call at e
 split at e
 · cases e
 · rename_i y ts1 h1
   cases e
   exact args_sh hF h hn _ _ h1
theorem brk_sh {n : Nat} {F : Rd} (hF : ShF n F) : ShF (n + 1) (brk F) := by
 intro d ts h hn x ts' e
 unfold brk at e
 split at e
 · cases e
 · rename_i ts1 h1
   have s1 := pass1_sh h h1
   split at e
   · cases e
   · rename_i y ts2 h2
     have s2 := hF (d + 1) ts1 s1.1 (by have := s1.2; omega) y ts2 h2
     split at e
     · cases e
     · rename_i ts3 h3
       cases e
       exact (s1.trans s2).trans (pass1_sh s2.1 h3)
theorem wrd_sh {n : Nat} {F : Rd} (hF : ShF n F) (d : Nat) (ts : List Tk) (h : Nz ts) (hn : ts.length ≤ n + 1) (hk : (hd ts).1 = 2) : ShR ts (wrd F d ts) := by
 intro x ts' e
 have h5 : (hd ts).1 ≠ 5 := by rw [hk]; decide
 unfold wrd at e
 split at e
 · exact one_sh h h5 _ _ e
 · split at e
   · exact one_sh h h5 _ _ e
   · split at e
     · split at e
       · cases e
       · rename_i ts1 h1
         have s1 := tk1_sh h h5 h1
         exact s1.trans (brk_sh (call_sh hF _ _ _) d ts1 s1.1 (by have := s1.2; omega) _ _ e)
     · split at e
       · cases e
       · rename_i r ts1 h1
         cases e
         exact refr_sh h _ _ h1
theorem smp_sh {n : Nat} {F : Rd} (hF : ShF n F) : ShF (n + 1) (smp F) := by
 intro d ts h hn x ts' e
 unfold smp at e
 split at e
 · rename_i hk; exact one_sh h (by rw [hk]; decide) _ _ e
 · split at e
   · rename_i hk; exact one_sh h (by rw [hk]; decide) _ _ e
   · split at e
     · rename_i hk; exact one_sh h (by rw [hk]; decide) _ _ e
     · split at e
       · rename_i hk; exact wrd_sh hF d ts h hn hk _ _ e
       · exact brk_sh hF d ts h hn _ _ e
theorem opn_sh {n : Nat} {F G : Rd} (hF : ShF n F) (hG : ShF n G) : ShF (n + 1) (opn F G) := by
 intro d ts h hn x ts' e
 unfold opn at e
 split at e
 · rename_i hk
   split at e
   · cases e
   · rename_i ts1 h1
     have s1 := tk1_sh h (by rw [(isSg_k hk).1]; decide) h1
     split at e
     · cases e
     · rename_i y ts2 h2
       cases e
       exact s1.trans (hG (d + 1) ts1 s1.1 (by have := s1.2; omega) _ _ h2)
 · exact smp_sh hF d ts h hn _ _ e
theorem lp_sh {n : Nat} {F : Rd} (hF : ShF n F) (k d f : Nat) : ∀ (x y : T) (ts ts' : List Tk), Nz ts → ts.length ≤ n → lp F k d f x ts = .ok (y, ts') → Nz ts' ∧ ts'.length ≤ ts.length := by
 induction f with
 | zero =>
   intro x y ts ts' h hn e
   unfold lp at e
   cases e
   exact ⟨h, Nat.le_refl _⟩
 | succ f ih =>
   intro x y ts ts' h hn e
   unfold lp at e
   split at e
   · rename_i hk
     split at e
     · cases e
     · rename_i ts1 h1
       have s1 := tk1_sh h (by rw [hk.1]; decide) h1
       split at e
       · cases e
       · rename_i z ts2 h2
         have s2 := hF d ts1 s1.1 (by have := s1.2; omega) z ts2 h2
         have := ih _ _ ts2 ts' s2.1 (by have := s1.2; have := s2.2; omega) e
         exact ⟨this.1, by have := s1.2; have := s2.2; omega⟩
   · cases e; exact ⟨h, Nat.le_refl _⟩
theorem lv_sh {n : Nat} {F : Rd} (hF : ShF n F) (k : Nat) : ShF n (lv F k) := by
 intro d ts h hn x ts' e
 unfold lv at e
 split at e
 · cases e
 · rename_i y ts1 h1
   have s1 := hF d ts h hn y ts1 h1
   have := lp_sh hF k d _ _ _ _ _ s1.1 (by have := s1.2; omega) e
   exact ⟨this.1, by have := s1.2; omega⟩
theorem frm_sh {n : Nat} {F : Rd} (hF : ShF n F) : ShF n (frm F) := lv_sh (lv_sh (lv_sh (lv_sh hF 4) 3) 2) 1
theorem O_sh (n : Nat) : ShF n (O n) := by
 induction n with
 | zero => intro d ts h hn; exact absurd (h.pos) (by omega)
 | succ n ih => exact opn_sh (frm_sh ih) ih
open Go.RowKit
set_option maxHeartbeats 1000000
theorem lt_no {c : UInt8} (h1 : ¬ ((65 : Int) ≤ c.toNat ∧ (c.toNat : Int) ≤ 90)) (h2 : ¬ ((97 : Int) ≤ c.toNat ∧ (c.toNat : Int) ≤ 122)) : letB c = ((c.toNat : Int) == 36) := by
 unfold letB; rw [Bool.eq_iff_iff]; simp; omega
theorem lt_yes {c : UInt8} (h : ((65 : Int) ≤ c.toNat ∧ (c.toNat : Int) ≤ 90) ∨ ((97 : Int) ≤ c.toNat ∧ (c.toNat : Int) ≤ 122)) : letB c = true := by
 unfold letB; simp; omega
theorem run_at (p : UInt8 → Bool) (l : List UInt8) (k : Nat) (hk : k < l.length) : run p (l.drop k) = if p l[k] then run p (l.drop (k + 1)) + 1 else 0 := by
 rw [List.drop_eq_getElem_cons hk, run_cons]
theorem run_off (p : UInt8 → Bool) (l : List UInt8) (k : Nat) (hk : l.length ≤ k) : run p (l.drop k) = 0 := by
 rw [List.drop_eq_nil_of_le hk]; rfl
open Go.RowKit
set_option maxHeartbeats 1000000
def Blk5 (W : World) (b : Nat) (x0 x1 x2 x3 x4 : Value) : Prop := b < W.heap.size ∧
 (W.cell? ⟨b, 0, none⟩ = some x0 ∧ W.cell? ⟨b, 1, none⟩ = some x1 ∧ W.cell? ⟨b, 2, none⟩ = some x2 ∧ W.cell? ⟨b, 3, none⟩ = some x3 ∧ W.cell? ⟨b, 4, none⟩ = some x4) ∧
 (W.frozen? ⟨b, 0, none⟩ = false ∧ W.frozen? ⟨b, 1, none⟩ = false ∧ W.frozen? ⟨b, 2, none⟩ = false ∧ W.frozen? ⟨b, 3, none⟩ = false ∧ W.frozen? ⟨b, 4, none⟩ = false)
theorem blk5_top {w w1 : World} {x0 x1 x2 x3 x4 : Value} {T : TypeId} {b : Nat} (hb : b = w.heap.size) (E : Ext (w.alloc (.cells #[x0, x1, x2, x3, x4] T)) w1) : Blk5 w1 b x0 x1 x2 x3 x4 := by
 subst hb
 have hs : w.heap.size < (w.alloc (.cells #[x0, x1, x2, x3, x4] T)).heap.size := by simp
 have k := fun o => E.cell.1 w.heap.size o hs
 have f := fun o => E.cell.2 w.heap.size o hs
 refine ⟨Nat.lt_of_lt_of_le hs E.sz, ⟨(k 0).trans ?_, (k 1).trans ?_, (k 2).trans ?_, (k 3).trans ?_, (k 4).trans ?_⟩, (f 0).trans ?_, (f 1).trans ?_, (f 2).trans ?_, (f 3).trans ?_, (f 4).trans ?_⟩
 all_goals simp [go_sem]
theorem Blk5.ext {w w' : World} {b : Nat} {x0 x1 x2 x3 x4 : Value} (h : Blk5 w b x0 x1 x2 x3 x4) (e : Ext w w') : Blk5 w' b x0 x1 x2 x3 x4 := by
 obtain ⟨z, ⟨k0, k1, k2, k3, k4⟩, f0, f1, f2, f3, f4⟩ := h
 have k := fun o => e.cell.1 b o z
 have f := fun o => e.cell.2 b o z
 exact ⟨Nat.lt_of_lt_of_le z e.sz, ⟨(k 0).trans k0, (k 1).trans k1, (k 2).trans k2, (k 3).trans k3, (k 4).trans k4⟩, (f 0).trans f0, (f 1).trans f1, (f 2).trans f2, (f 3).trans f3, (f 4).trans f4⟩
theorem Blk5.far1 {w : World} {b c : Nat} {x0 x1 x2 x3 x4 : Value} (h : Blk5 w b x0 x1 x2 x3 x4) (hc : c ≠ b) (o : Nat) (v : Value) : Blk5 (w.setCell ⟨c, o, none⟩ v) b x0 x1 x2 x3 x4 := by
 obtain ⟨z, ⟨k0, k1, k2, k3, k4⟩, f0, f1, f2, f3, f4⟩ := h
 refine ⟨by simpa [World.setCell] using z, ⟨?_, ?_, ?_, ?_, ?_⟩, ?_, ?_, ?_, ?_, ?_⟩
 · rw [World.cell?_setCell_far _ _ _ _ hc]; exact k0
 · rw [World.cell?_setCell_far _ _ _ _ hc]; exact k1
 · rw [World.cell?_setCell_far _ _ _ _ hc]; exact k2
 · rw [World.cell?_setCell_far _ _ _ _ hc]; exact k3
 · rw [World.cell?_setCell_far _ _ _ _ hc]; exact k4
 · rw [World.frozen?_setCell]; exact f0
 · rw [World.frozen?_setCell]; exact f1
 · rw [World.frozen?_setCell]; exact f2
 · rw [World.frozen?_setCell]; exact f3
 · rw [World.frozen?_setCell]; exact f4
theorem Blk5.far {w : World} {b c : Nat} {x0 x1 x2 x3 x4 : Value} (h : Blk5 w b x0 x1 x2 x3 x4) (hc : c ≠ b) (y0 y1 y2 y3 y4 : Value) :
   Blk5 (((((w.setCell ⟨c, 0, none⟩ y0).setCell ⟨c, 1, none⟩ y1).setCell ⟨c, 2, none⟩ y2).setCell ⟨c, 3, none⟩ y3).setCell ⟨c, 4, none⟩ y4) b x0 x1 x2 x3 x4 := (((((h.far1 hc _ _).far1 hc _ _).far1 hc _ _).far1 hc _ _).far1 hc _ _)
theorem Blk5.put0 {w : World} {b : Nat} {x0 x1 x2 x3 x4 : Value} (h : Blk5 w b x0 x1 x2 x3 x4) (v : Value) : Blk5 (w.setCell ⟨b, 0, none⟩ v) b v x1 x2 x3 x4 := by
 obtain ⟨z, ⟨k0, k1, k2, k3, k4⟩, f0, f1, f2, f3, f4⟩ := h
 have e := World.cell?_setCell_same w ⟨b, 0, none⟩ v (by rw [k0])
 refine ⟨by simpa [World.setCell] using z, ⟨e, ?_, ?_, ?_, ?_⟩, ?_, ?_, ?_, ?_, ?_⟩
 · rw [World.cell?_setCell_other _ _ _ _ (by simp)]; exact k1
 · rw [World.cell?_setCell_other _ _ _ _ (by simp)]; exact k2
 · rw [World.cell?_setCell_other _ _ _ _ (by simp)]; exact k3
 · rw [World.cell?_setCell_other _ _ _ _ (by simp)]; exact k4
 · rw [World.frozen?_setCell]; exact f0
 · rw [World.frozen?_setCell]; exact f1
 · rw [World.frozen?_setCell]; exact f2
 · rw [World.frozen?_setCell]; exact f3
 · rw [World.frozen?_setCell]; exact f4
theorem Blk5.put1 {w : World} {b : Nat} {x0 x1 x2 x3 x4 : Value} (h : Blk5 w b x0 x1 x2 x3 x4) (v : Value) : Blk5 (w.setCell ⟨b, 1, none⟩ v) b x0 v x2 x3 x4 := by
 obtain ⟨z, ⟨k0, k1, k2, k3, k4⟩, f0, f1, f2, f3, f4⟩ := h
 have e := World.cell?_setCell_same w ⟨b, 1, none⟩ v (by rw [k1])
 refine ⟨by simpa [World.setCell] using z, ⟨?_, e, ?_, ?_, ?_⟩, ?_, ?_, ?_, ?_, ?_⟩
 · rw [World.cell?_setCell_other _ _ _ _ (by simp)]; exact k0
 · rw [World.cell?_setCell_other _ _ _ _ (by simp)]; exact k2
 · rw [World.cell?_setCell_other _ _ _ _ (by simp)]; exact k3
 · rw [World.cell?_setCell_other _ _ _ _ (by simp)]; exact k4
 · rw [World.frozen?_setCell]; exact f0
 · rw [World.frozen?_setCell]; exact f1
 · rw [World.frozen?_setCell]; exact f2
 · rw [World.frozen?_setCell]; exact f3
 · rw [World.frozen?_setCell]; exact f4
theorem Blk5.put2 {w : World} {b : Nat} {x0 x1 x2 x3 x4 : Value} (h : Blk5 w b x0 x1 x2 x3 x4) (v : Value) : Blk5 (w.setCell ⟨b, 2, none⟩ v) b x0 x1 v x3 x4 := by
 obtain ⟨z, ⟨k0, k1, k2, k3, k4⟩, f0, f1, f2, f3, f4⟩ := h
 have e := World.cell?_setCell_same w ⟨b, 2, none⟩ v (by rw [k2])
 refine ⟨by simpa [World.setCell] using z, ⟨?_, ?_, e, ?_, ?_⟩, ?_, ?_, ?_, ?_, ?_⟩
 · rw [World.cell?_setCell_other _ _ _ _ (by simp)]; exact k0
 · rw [World.cell?_setCell_other _ _ _ _ (by simp)]; exact k1
 · rw [World.cell?_setCell_other _ _ _ _ (by simp)]; exact k3
 · rw [World.cell?_setCell_other _ _ _ _ (by simp)]; exact k4
 · rw [World.frozen?_setCell]; exact f0
 · rw [World.frozen?_setCell]; exact f1
 · rw [World.frozen?_setCell]; exact f2
 · rw [World.frozen?_setCell]; exact f3
 · rw [World.frozen?_setCell]; exact f4
theorem Blk5.put3 {w : World} {b : Nat} {x0 x1 x2 x3 x4 : Value} (h : Blk5 w b x0 x1 x2 x3 x4) (v : Value) : Blk5 (w.setCell ⟨b, 3, none⟩ v) b x0 x1 x2 v x4 := by
 obtain ⟨z, ⟨k0, k1, k2, k3, k4⟩, f0, f1, f2, f3, f4⟩ := h
 have e := World.cell?_setCell_same w ⟨b, 3, none⟩ v (by rw [k3])
 refine ⟨by simpa [World.setCell] using z, ⟨?_, ?_, ?_, e, ?_⟩, ?_, ?_, ?_, ?_, ?_⟩
 · rw [World.cell?_setCell_other _ _ _ _ (by simp)]; exact k0
 · rw [World.cell?_setCell_other _ _ _ _ (by simp)]; exact k1
 · rw [World.cell?_setCell_other _ _ _ _ (by simp)]; exact k2
 · rw [World.cell?_setCell_other _ _ _ _ (by simp)]; exact k4
 · rw [World.frozen?_setCell]; exact f0
 · rw [World.frozen?_setCell]; exact f1
 · rw [World.frozen?_setCell]; exact f2
 · rw [World.frozen?_setCell]; exact f3
 · rw [World.frozen?_setCell]; exact f4
theorem Blk5.put4 {w : World} {b : Nat} {x0 x1 x2 x3 x4 : Value} (h : Blk5 w b x0 x1 x2 x3 x4) (v : Value) : Blk5 (w.setCell ⟨b, 4, none⟩ v) b x0 x1 x2 x3 v := by
 obtain ⟨z, ⟨k0, k1, k2, k3, k4⟩, f0, f1, f2, f3, f4⟩ := h
 have e := World.cell?_setCell_same w ⟨b, 4, none⟩ v (by rw [k4])
 refine ⟨by simpa [World.setCell] using z, ⟨?_, ?_, ?_, ?_, e⟩, ?_, ?_, ?_, ?_, ?_⟩
 · rw [World.cell?_setCell_other _ _ _ _ (by simp)]; exact k0
 · rw [World.cell?_setCell_other _ _ _ _ (by simp)]; exact k1
 · rw [World.cell?_setCell_other _ _ _ _ (by simp)]; exact k2
 · rw [World.cell?_setCell_other _ _ _ _ (by simp)]; exact k3
 · rw [World.frozen?_setCell]; exact f0
 · rw [World.frozen?_setCell]; exact f1
 · rw [World.frozen?_setCell]; exact f2
 · rw [World.frozen?_setCell]; exact f3
 · rw [World.frozen?_setCell]; exact f4
theorem Blk5.set {w : World} {b : Nat} {o0 o1 o2 o3 o4 : Value} (h : Blk5 w b o0 o1 o2 o3 o4) (x0 x1 x2 x3 x4 : Value) :
   Blk5 (((((w.setCell ⟨b, 0, none⟩ x0).setCell ⟨b, 1, none⟩ x1).setCell ⟨b, 2, none⟩ x2).setCell ⟨b, 3, none⟩ x3).setCell ⟨b, 4, none⟩ x4) b x0 x1 x2 x3 x4 := (((((h.put0 _).put1 _).put2 _).put3 _).put4 _)
theorem Blk5.dr {w : World} {b : Nat} {x0 x1 x2 x3 x4 : Value} (h : Blk5 w b x0 x1 x2 x3 x4) : Blk5 w.drew b x0 x1 x2 x3 x4 := h.ext (Ext.drew (Ext.refl _))
theorem Blk5.al {w : World} {b : Nat} {x0 x1 x2 x3 x4 : Value} (o : Obj) (h : Blk5 w b x0 x1 x2 x3 x4) : Blk5 (w.alloc o) b x0 x1 x2 x3 x4 := h.ext (Ext.alloc (Ext.refl _) _)
theorem fin5 (v : Value) {fn : Func} {Q : Ending → World → Prop} {a : Act} {w W : World} {b : Nat} {x0 x1 x2 x3 x4 : Value}
   (B : Blk5 W b x0 x1 x2 x3 x4) (hd : a.defers = []) (E : Ext w W)
   (hr : W.cell? ⟨b, 0, none⟩ = some x0 → W.cell? ⟨b, 1, none⟩ = some x1 → W.cell? ⟨b, 2, none⟩ = some x2 → W.cell? ⟨b, 3, none⟩ = some x3 → W.cell? ⟨b, 4, none⟩ = some x4 → (results fn a.tmps).run Try.prog W = .ok v W)
   (hQ : Ext w W → Q (.returned v) W) : bodyPost Try.prog fn Q .ret a W :=
 bodyPost_ret (hr B.2.1.1 B.2.1.2.1 B.2.1.2.2.1 B.2.1.2.2.2.1 B.2.1.2.2.2.2) hd (hQ E)
open Go.RowKit
set_option maxHeartbeats 1000000
theorem byte_ne {c : UInt8} (n : Nat) (hn : n < 256) : ((c.toNat : Int) == (n : Int)) = (c == UInt8.ofNat n) := by
 rw [Bool.eq_iff_iff]; simp; constructor
 · intro h; refine UInt8.toNat_inj.mp ?_; rw [UInt8.toNat_ofNat']; omega
 · rintro rfl; rw [UInt8.toNat_ofNat']; omega
theorem sub_list (s : ByteArray) (i j : Nat) : (s.extract i j).data.toList = (s.data.toList.drop i).take (j - i) := by
 rw [Lib.extract_data]
theorem sub_bs (s : ByteArray) (i n : Nat) : s.extract i (i + n) = bs ((s.data.toList.drop i).take n) := by
 have h := sub_list s i (i + n)
 rw [Nat.add_sub_cancel_left] at h
 rw [← h]; rfl
theorem find_here {α : Type} {l : List α} {q : α → Bool} {j : Nat} {x : α} (h : (l.take j).find? q = none) (hx : l[j]? = some x) (hq : q x = true) : l.find? q = some x := by
 have hj : j < l.length := (List.getElem?_eq_some_iff.mp hx).1
 have e : l = l.take j ++ x :: l.drop (j + 1) := by
   rw [List.getElem?_eq_getElem hj] at hx
   cases hx
   rw [← List.drop_eq_getElem_cons hj, List.take_append_drop]
 rw [e, List.find?_append, h]; simp [hq]
theorem find_on {α : Type} {l : List α} {q : α → Bool} {j : Nat} {x : α} (h : (l.take j).find? q = none) (hx : l[j]? = some x) (hq : q x = false) : (l.take (j + 1)).find? q = none := by
 rw [List.take_add_one, hx, List.find?_append, h]; simp [hq]
theorem find_end {α : Type} {l : List α} {q : α → Bool} {j : Nat} (h : (l.take j).find? q = none) (hj : l.length ≤ j) : l.find? q = none := by
 rwa [List.take_of_length_le hj] at h
open Go.RowKit
set_option maxHeartbeats 1000000
def flatT : List Tk → List Value
 | [] => []
 | t :: r => .int .i64 t.1 :: .int .i64 t.2.1 :: .string (bs t.2.2.1) :: .int .i64 t.2.2.2.1 :: .int .i64 t.2.2.2.2 :: flatT r
theorem flatT_append (a b : List Tk) : flatT (a ++ b) = flatT a ++ flatT b := by
 induction a with
 | nil => rfl
 | cons s r ih => simp [flatT, ih]
theorem flatT_length (a : List Tk) : (flatT a).length = a.length * 5 := by
 induction a with
 | nil => rfl
 | cons s r ih => simp [flatT, ih]; omega
theorem flatT_one (a : List Tk) : ∀ u ∈ flatT a, u.oneCell' = true := by
 induction a with
 | nil => simp [flatT]
 | cons s r ih => intro u hu; simp [flatT] at hu; rcases hu with rfl | rfl | rfl | rfl | rfl | hu; rfl; rfl; rfl; rfl; rfl; exact ih u hu
theorem flatT_at : ∀ (a : List Tk) (i : Nat) (t : Tk), a[i]? = some t → (flatT a)[i * 5]? = some (.int .i64 t.1) ∧ (flatT a)[i * 5 + 1]? = some (.int .i64 t.2.1) ∧ (flatT a)[i * 5 + 2]? = some (.string (bs t.2.2.1)) ∧ (flatT a)[i * 5 + 3]? = some (.int .i64 t.2.2.2.1) ∧ (flatT a)[i * 5 + 4]? = some (.int .i64 t.2.2.2.2)
 | [], _, _, h => by simp at h
 | t :: r, 0, s, h => by simp at h; subst h; simp [flatT]
 | t :: r, i + 1, s, h => by
   have ih := flatT_at r i s (by simpa using h)
   have e : (i + 1) * 5 = i * 5 + 1 + 1 + 1 + 1 + 1 := by omega
   have e1 : (i + 1) * 5 + 1 = i * 5 + 1 + 1 + 1 + 1 + 1 + 1 := by omega
   have e2 : (i + 1) * 5 + 2 = i * 5 + 2 + 1 + 1 + 1 + 1 + 1 := by omega
   have e3 : (i + 1) * 5 + 3 = i * 5 + 3 + 1 + 1 + 1 + 1 + 1 := by omega
   have e4 : (i + 1) * 5 + 4 = i * 5 + 4 + 1 + 1 + 1 + 1 + 1 := by omega
   rw [e1, e2, e3, e4, e]
   simpa [flatT] using ih
def RdT (w : World) (v : Value) (l : List Tk) : Prop :=
 (v = .slice none 0 0 ∧ l = []) ∨ ∃ b off c, v = .slice (some ⟨b, off, none⟩) l.length c ∧ l.length ≤ c ∧ b < w.heap.size ∧
   ∀ j u, (flatT l)[j]? = some u → w.cell? ⟨b, off + j, none⟩ = some u
theorem RdT.ext {w w' : World} {v : Value} {l : List Tk} (h : RdT w v l) (e : Ext w w') : RdT w' v l := by
 rcases h with h | ⟨b, off, c, rfl, h1, h2, h3⟩
 · exact .inl h
 · exact .inr ⟨b, off, c, rfl, h1, Nat.lt_of_lt_of_le h2 e.size, fun j u hu => (e.cell.1 b _ h2).trans (h3 j u hu)⟩
theorem RdT.nil (w : World) : RdT w (.slice none 0 0) [] := .inl ⟨rfl, rfl⟩
theorem RdT.form {w : World} {v : Value} {l : List Tk} (h : RdT w v l) : ∃ p c, v = .slice p l.length c ∧ l.length ≤ c := by
 rcases h with ⟨rfl, rfl⟩ | ⟨b, off, c, rfl, h, _⟩
 · exact ⟨_, _, rfl, Nat.le_refl _⟩
 · exact ⟨_, _, rfl, h⟩
theorem RdT.at {w : World} {p : Option Addr} {c n : Nat} {l : List Tk} (h : RdT w (.slice p n c) l) {k : Nat} (hk : k < l.length) :
   ∃ b off t, p = some ⟨b, off, none⟩ ∧ l[k]? = some t ∧ n = l.length ∧ ∀ w', Ext w w' → w'.cell? ⟨b, off + k * 5, none⟩ = some (.int .i64 t.1) ∧ w'.cell? ⟨b, off + k * 5 + 1, none⟩ = some (.int .i64 t.2.1) ∧ w'.cell? ⟨b, off + k * 5 + 2, none⟩ = some (.string (bs t.2.2.1)) ∧ w'.cell? ⟨b, off + k * 5 + 3, none⟩ = some (.int .i64 t.2.2.2.1) ∧ w'.cell? ⟨b, off + k * 5 + 4, none⟩ = some (.int .i64 t.2.2.2.2) := by
 rcases h with ⟨_, h2⟩ | ⟨b, off, c', h1, h2, h3, h4⟩
 · rw [h2] at hk; simp at hk
 · simp at h1
   obtain ⟨rfl, rfl, rfl⟩ := h1
   refine ⟨b, off, l[k], rfl, List.getElem?_eq_getElem hk, rfl, fun w' e => ?_⟩
   obtain ⟨k0, k1, k2, k3, k4⟩ := flatT_at l k l[k] (List.getElem?_eq_getElem hk)
   exact ⟨(e.cell.1 b _ h3).trans (h4 _ _ k0), (e.cell.1 b _ h3).trans (h4 _ _ k1), (e.cell.1 b _ h3).trans (h4 _ _ k2), (e.cell.1 b _ h3).trans (h4 _ _ k3), (e.cell.1 b _ h3).trans (h4 _ _ k4)⟩
theorem info_tk : ∃ i, Try.prog.info? 62 = some i ∧ i.zero = some (.agg #[.int .i64 0, .int .i64 0, .string ⟨#[]⟩, .int .i64 0, .int .i64 0]) ∧ i.size = 5 ∧ i.bytes = 48 := by
 have h2 : (Try.prog.info? 62).bind (fun i => i.zero) = some (.agg #[.int .i64 0, .int .i64 0, .string ⟨#[]⟩, .int .i64 0, .int .i64 0]) := by kernel_rfl
 have h3 : (Try.prog.info? 62).map (fun i => (i.size, i.bytes)) = some (5, 48) := by kernel_rfl
 cases h : Try.prog.info? 62 with
 | none => rw [h] at h2; cases h2
 | some i =>
   rw [h] at h2 h3
   simp at h2 h3
   exact ⟨i, rfl, h2, h3.1, h3.2⟩
def OwT (w : World) (base : Nat) (v : Value) (l : List Tk) : Prop := w.ownsRow base 62 5 v l.length (flatT l)
theorem heap_lt {w : World} {g : Nat} {o : Obj} (h : w.heap[g]? = some o) : g < w.heap.size := by
 rcases Nat.lt_or_ge g w.heap.size with k | k
 · exact k
 · rw [Array.getElem?_eq_none k] at h; cases h
theorem OwT.ext {w w' : World} {base : Nat} {v : Value} {l : List Tk} (h : OwT w base v l) (e : Ext w w') : OwT w' base v l := by
 refine ⟨h.1, ?_⟩
 rcases h.2 with h2 | ⟨g, cap, cur, h1, h2, h3, h4⟩
 · exact .inl h2
 · exact .inr ⟨g, cap, cur, h1, h2, (e.block g (heap_lt h3)).trans h3, h4⟩
theorem OwT.set {w : World} {base : Nat} {v : Value} {l : List Tk} (h : OwT w base v l) {p : Addr} (hp : p.block < base) (u : Value) : OwT (w.setCell p u) base v l := by
 refine ⟨h.1, ?_⟩
 rcases h.2 with h2 | ⟨g, cap, cur, h1, h2, h3, h4⟩
 · exact .inl h2
 · refine .inr ⟨g, cap, cur, h1, h2, ?_, h4⟩
   rw [Below.heap_setCell _ _ _ _ (by omega)]; exact h3
theorem OwT.nil (w : World) (base : Nat) : OwT w base (.slice none 0 0) [] := ⟨rfl, .inl ⟨rfl, rfl⟩⟩
theorem OwT.rd {w : World} {base : Nat} {v : Value} {l : List Tk} (h : OwT w base v l) : RdT w v l := by
 rcases h.2 with ⟨h1, h2⟩ | ⟨g, cap, cur, h1, h2, h3, h4, h5, h6, h7⟩
 · exact .inl ⟨h1, List.eq_nil_of_length_eq_zero h2⟩
 · refine .inr ⟨g, 0, cap, h1, by omega, heap_lt h3, fun j u hu => ?_⟩
   have hj : j < (flatT l).length := (List.getElem?_eq_some_iff.mp hu).1
   rw [flatT_length] at hj
   rw [cell_of_row w g _ cur _ (0, 0) h3, Nat.zero_add, ← Array.getElem?_toList]
   rw [← h7, List.getElem?_take] at hu
   rwa [if_pos (by omega)] at hu
theorem OwT.far {w : World} {base : Nat} {v : Value} {l : List Tk} (h : OwT w base v l) {b : Nat} (hb : b < base) : v.ownBlock ≠ some b := by
 rcases h.2 with ⟨h1, h2⟩ | ⟨g, cap, cur, h1, h2, h3⟩
 · rw [h1]; simp [Value.ownBlock]
 · rw [h1]; simp [Value.ownBlock]; omega
theorem tk_append {ops : Array Oper} {rest : List Oper} {o : Oper} {a : Act} {Q : Exit → Act → World → Prop} (W : World) (base : Nat) (s x : Operand) (v : Value) (b : Nat) (l : List Tk) (t : Tk) (hgd : o.guard = none)
   (ho : o.op = .call { callee := .builtin .append, args := #[s, x], argTypes := #[54, 54] })
   (hs : a.eval s = v) (hx : a.eval x = .slice (some ⟨b, 0, none⟩) 1 1) (hB : OwT W base v l)
   (hR : ∀ j u, (flatT [t])[j]? = some u → W.cell? ((⟨b, 0, none⟩ : Addr).add j) = some u) (hlen : l.length ≤ 100000) (hbase : base ≤ W.heap.size)
   (h : ∀ v' W', OwT W' base v' (l ++ [t]) → W.grownBy W' v.ownBlock → (∃ g cap, v' = .slice (some ⟨g, 0, none⟩) (l.length + 1) cap) → wpList Try.prog ops Q rest (a.put o.dst v') W') : wpList Try.prog ops Q (o :: rest) a W := by
 obtain ⟨i, hi, hz, h1, h2⟩ := info_tk
 refine wpList_append_own_at W hgd s x 54 ho base 62 i _ 5 48 Try.underlying54 hi hz h1 h2 rfl (by decide) v l.length (flatT l) hs hB ⟨b, 0, none⟩ 1 1 (flatT [t]) hx (flatT_length [t]) hR (flatT_one [t]) (by unfold maxLen; omega) (by omega) hbase ?_
 intro v' W' h3 h4 _ _
 rw [← flatT_append] at h3
 have h5 : OwT W' base v' (l ++ [t]) := by unfold OwT; rw [List.length_append]; exact h3
 refine h v' W' h5 h4 ?_
 rcases h3.2 with ⟨_, h0⟩ | ⟨g, cap, cur, hv, _⟩
 · omega
 · exact ⟨g, cap, hv⟩
theorem grown_cell {W W' : World} {v : Value} (h : W.grownBy W' v.ownBlock) {b : Nat} (hb : b < W.heap.size) (hne : v.ownBlock ≠ some b) (o : Nat) : W'.cell? ⟨b, o, none⟩ = W.cell? ⟨b, o, none⟩ ∧ W'.frozen? ⟨b, o, none⟩ = W.frozen? ⟨b, o, none⟩ := by
 have e := h.block b hb hne.symm
 simp only [World.cell?, World.frozen?, e]
 exact ⟨trivial, trivial⟩
theorem grown_ext {w W W' : World} {base : Nat} {v : Value} {l : List Tk} (h : W.grownBy W' v.ownBlock) (hB : OwT W base v l) (hE : Ext w W) (hb : w.heap.size ≤ base) : Ext w W' := by
 refine ⟨h.os.trans hE.os, h.tape.trans hE.tape, h.output.trans hE.output, Nat.le_trans hE.size h.size, fun k hk => ?_⟩
 exact (h.block k (Nat.lt_of_lt_of_le hk hE.size) (fun e => hB.far (Nat.lt_of_lt_of_le hk hb) e.symm)).trans (hE.block k hk)
open Go.RowKit
set_option maxHeartbeats 1000000
def Blk13 (W : World) (b : Nat) (x0 x1 x2 x3 x4 x5 x6 x7 x8 x9 x10 x11 x12 : Value) : Prop := b < W.heap.size ∧
 (W.cell? ⟨b, 0, none⟩ = some x0 ∧ W.cell? ⟨b, 1, none⟩ = some x1 ∧ W.cell? ⟨b, 2, none⟩ = some x2 ∧ W.cell? ⟨b, 3, none⟩ = some x3 ∧ W.cell? ⟨b, 4, none⟩ = some x4 ∧ W.cell? ⟨b, 5, none⟩ = some x5 ∧ W.cell? ⟨b, 6, none⟩ = some x6 ∧ W.cell? ⟨b, 7, none⟩ = some x7 ∧ W.cell? ⟨b, 8, none⟩ = some x8 ∧ W.cell? ⟨b, 9, none⟩ = some x9 ∧ W.cell? ⟨b, 10, none⟩ = some x10 ∧ W.cell? ⟨b, 11, none⟩ = some x11 ∧ W.cell? ⟨b, 12, none⟩ = some x12) ∧
 (W.frozen? ⟨b, 0, none⟩ = false ∧ W.frozen? ⟨b, 1, none⟩ = false ∧ W.frozen? ⟨b, 2, none⟩ = false ∧ W.frozen? ⟨b, 3, none⟩ = false ∧ W.frozen? ⟨b, 4, none⟩ = false ∧ W.frozen? ⟨b, 5, none⟩ = false ∧ W.frozen? ⟨b, 6, none⟩ = false ∧ W.frozen? ⟨b, 7, none⟩ = false ∧ W.frozen? ⟨b, 8, none⟩ = false ∧ W.frozen? ⟨b, 9, none⟩ = false ∧ W.frozen? ⟨b, 10, none⟩ = false ∧ W.frozen? ⟨b, 11, none⟩ = false ∧ W.frozen? ⟨b, 12, none⟩ = false)
theorem blk13_top {w w1 : World} {x0 x1 x2 x3 x4 x5 x6 x7 x8 x9 x10 x11 x12 : Value} {T : TypeId} {b : Nat} (hb : b = w.heap.size) (E : Ext (w.alloc (.cells #[x0, x1, x2, x3, x4, x5, x6, x7, x8, x9, x10, x11, x12] T)) w1) : Blk13 w1 b x0 x1 x2 x3 x4 x5 x6 x7 x8 x9 x10 x11 x12 := by
 subst hb
 have hs : w.heap.size < (w.alloc (.cells #[x0, x1, x2, x3, x4, x5, x6, x7, x8, x9, x10, x11, x12] T)).heap.size := by simp
 have k := fun o => E.cell.1 w.heap.size o hs
 have f := fun o => E.cell.2 w.heap.size o hs
 refine ⟨Nat.lt_of_lt_of_le hs E.sz, ⟨(k 0).trans ?_, (k 1).trans ?_, (k 2).trans ?_, (k 3).trans ?_, (k 4).trans ?_, (k 5).trans ?_, (k 6).trans ?_, (k 7).trans ?_, (k 8).trans ?_, (k 9).trans ?_, (k 10).trans ?_, (k 11).trans ?_, (k 12).trans ?_⟩, (f 0).trans ?_, (f 1).trans ?_, (f 2).trans ?_, (f 3).trans ?_, (f 4).trans ?_, (f 5).trans ?_, (f 6).trans ?_, (f 7).trans ?_, (f 8).trans ?_, (f 9).trans ?_, (f 10).trans ?_, (f 11).trans ?_, (f 12).trans ?_⟩
 all_goals simp [go_sem]
theorem Blk13.ext {w w' : World} {b : Nat} {x0 x1 x2 x3 x4 x5 x6 x7 x8 x9 x10 x11 x12 : Value} (h : Blk13 w b x0 x1 x2 x3 x4 x5 x6 x7 x8 x9 x10 x11 x12) (e : Ext w w') : Blk13 w' b x0 x1 x2 x3 x4 x5 x6 x7 x8 x9 x10 x11 x12 := by
 obtain ⟨z, ⟨k0, k1, k2, k3, k4, k5, k6, k7, k8, k9, k10, k11, k12⟩, f0, f1, f2, f3, f4, f5, f6, f7, f8, f9, f10, f11, f12⟩ := h
 have k := fun o => e.cell.1 b o z
 have f := fun o => e.cell.2 b o z
 exact ⟨Nat.lt_of_lt_of_le z e.sz, ⟨(k 0).trans k0, (k 1).trans k1, (k 2).trans k2, (k 3).trans k3, (k 4).trans k4, (k 5).trans k5, (k 6).trans k6, (k 7).trans k7, (k 8).trans k8, (k 9).trans k9, (k 10).trans k10, (k 11).trans k11, (k 12).trans k12⟩, (f 0).trans f0, (f 1).trans f1, (f 2).trans f2, (f 3).trans f3, (f 4).trans f4, (f 5).trans f5, (f 6).trans f6, (f 7).trans f7, (f 8).trans f8, (f 9).trans f9, (f 10).trans f10, (f 11).trans f11, (f 12).trans f12⟩
theorem Blk13.far1 {w : World} {b c : Nat} {x0 x1 x2 x3 x4 x5 x6 x7 x8 x9 x10 x11 x12 : Value} (h : Blk13 w b x0 x1 x2 x3 x4 x5 x6 x7 x8 x9 x10 x11 x12) (hc : c ≠ b) (o : Nat) (v : Value) : Blk13 (w.setCell ⟨c, o, none⟩ v) b x0 x1 x2 x3 x4 x5 x6 x7 x8 x9 x10 x11 x12 := by
 obtain ⟨z, ⟨k0, k1, k2, k3, k4, k5, k6, k7, k8, k9, k10, k11, k12⟩, f0, f1, f2, f3, f4, f5, f6, f7, f8, f9, f10, f11, f12⟩ := h
 refine ⟨by simpa [World.setCell] using z, ⟨?_, ?_, ?_, ?_, ?_, ?_, ?_, ?_, ?_, ?_, ?_, ?_, ?_⟩, ?_, ?_, ?_, ?_, ?_, ?_, ?_, ?_, ?_, ?_, ?_, ?_, ?_⟩
 all_goals first | (rw [World.cell?_setCell_far _ _ _ _ hc]; assumption) | (rw [World.frozen?_setCell]; assumption)
theorem Blk13.far {w : World} {b c : Nat} {x0 x1 x2 x3 x4 x5 x6 x7 x8 x9 x10 x11 x12 : Value} (h : Blk13 w b x0 x1 x2 x3 x4 x5 x6 x7 x8 x9 x10 x11 x12) (hc : c ≠ b) (y0 y1 y2 y3 y4 y5 y6 y7 y8 y9 y10 y11 y12 : Value) :
   Blk13 (((((((((((((w.setCell ⟨c, 0, none⟩ y0).setCell ⟨c, 1, none⟩ y1).setCell ⟨c, 2, none⟩ y2).setCell ⟨c, 3, none⟩ y3).setCell ⟨c, 4, none⟩ y4).setCell ⟨c, 5, none⟩ y5).setCell ⟨c, 6, none⟩ y6).setCell ⟨c, 7, none⟩ y7).setCell ⟨c, 8, none⟩ y8).setCell ⟨c, 9, none⟩ y9).setCell ⟨c, 10, none⟩ y10).setCell ⟨c, 11, none⟩ y11).setCell ⟨c, 12, none⟩ y12) b x0 x1 x2 x3 x4 x5 x6 x7 x8 x9 x10 x11 x12 := (((((((((((((h.far1 hc _ _).far1 hc _ _).far1 hc _ _).far1 hc _ _).far1 hc _ _).far1 hc _ _).far1 hc _ _).far1 hc _ _).far1 hc _ _).far1 hc _ _).far1 hc _ _).far1 hc _ _).far1 hc _ _)
theorem Blk13.put0 {w : World} {b : Nat} {x0 x1 x2 x3 x4 x5 x6 x7 x8 x9 x10 x11 x12 : Value} (h : Blk13 w b x0 x1 x2 x3 x4 x5 x6 x7 x8 x9 x10 x11 x12) (v : Value) : Blk13 (w.setCell ⟨b, 0, none⟩ v) b v x1 x2 x3 x4 x5 x6 x7 x8 x9 x10 x11 x12 := by
 obtain ⟨z, ⟨k0, k1, k2, k3, k4, k5, k6, k7, k8, k9, k10, k11, k12⟩, f0, f1, f2, f3, f4, f5, f6, f7, f8, f9, f10, f11, f12⟩ := h
 have e := World.cell?_setCell_same w ⟨b, 0, none⟩ v (by rw [k0])
 refine ⟨by simpa [World.setCell] using z, ⟨e, ?_, ?_, ?_, ?_, ?_, ?_, ?_, ?_, ?_, ?_, ?_, ?_⟩, ?_, ?_, ?_, ?_, ?_, ?_, ?_, ?_, ?_, ?_, ?_, ?_, ?_⟩
 all_goals first | (rw [World.cell?_setCell_other _ _ _ _ (by simp)]; assumption) | (rw [World.frozen?_setCell]; assumption)
theorem Blk13.put1 {w : World} {b : Nat} {x0 x1 x2 x3 x4 x5 x6 x7 x8 x9 x10 x11 x12 : Value} (h : Blk13 w b x0 x1 x2 x3 x4 x5 x6 x7 x8 x9 x10 x11 x12) (v : Value) : Blk13 (w.setCell ⟨b, 1, none⟩ v) b x0 v x2 x3 x4 x5 x6 x7 x8 x9 x10 x11 x12 := by
 obtain ⟨z, ⟨k0, k1, k2, k3, k4, k5, k6, k7, k8, k9, k10, k11, k12⟩, f0, f1, f2, f3, f4, f5, f6, f7, f8, f9, f10, f11, f12⟩ := h
 have e := World.cell?_setCell_same w ⟨b, 1, none⟩ v (by rw [k1])
 refine ⟨by simpa [World.setCell] using z, ⟨?_, e, ?_, ?_, ?_, ?_, ?_, ?_, ?_, ?_, ?_, ?_, ?_⟩, ?_, ?_, ?_, ?_, ?_, ?_, ?_, ?_, ?_, ?_, ?_, ?_, ?_⟩
 all_goals first | (rw [World.cell?_setCell_other _ _ _ _ (by simp)]; assumption) | (rw [World.frozen?_setCell]; assumption)
theorem Blk13.put2 {w : World} {b : Nat} {x0 x1 x2 x3 x4 x5 x6 x7 x8 x9 x10 x11 x12 : Value} (h : Blk13 w b x0 x1 x2 x3 x4 x5 x6 x7 x8 x9 x10 x11 x12) (v : Value) : Blk13 (w.setCell ⟨b, 2, none⟩ v) b x0 x1 v x3 x4 x5 x6 x7 x8 x9 x10 x11 x12 := by
 obtain ⟨z, ⟨k0, k1, k2, k3, k4, k5, k6, k7, k8, k9, k10, k11, k12⟩, f0, f1, f2, f3, f4, f5, f6, f7, f8, f9, f10, f11, f12⟩ := h
 have e := World.cell?_setCell_same w ⟨b, 2, none⟩ v (by rw [k2])
 refine ⟨by simpa [World.setCell] using z, ⟨?_, ?_, e, ?_, ?_, ?_, ?_, ?_, ?_, ?_, ?_, ?_, ?_⟩, ?_, ?_, ?_, ?_, ?_, ?_, ?_, ?_, ?_, ?_, ?_, ?_, ?_⟩
 all_goals first | (rw [World.cell?_setCell_other _ _ _ _ (by simp)]; assumption) | (rw [World.frozen?_setCell]; assumption)
theorem Blk13.put3 {w : World} {b : Nat} {x0 x1 x2 x3 x4 x5 x6 x7 x8 x9 x10 x11 x12 : Value} (h : Blk13 w b x0 x1 x2 x3 x4 x5 x6 x7 x8 x9 x10 x11 x12) (v : Value) : Blk13 (w.setCell ⟨b, 3, none⟩ v) b x0 x1 x2 v x4 x5 x6 x7 x8 x9 x10 x11 x12 := by
 obtain ⟨z, ⟨k0, k1, k2, k3, k4, k5, k6, k7, k8, k9, k10, k11, k12⟩, f0, f1, f2, f3, f4, f5, f6, f7, f8, f9, f10, f11, f12⟩ := h
 have e := World.cell?_setCell_same w ⟨b, 3, none⟩ v (by rw [k3])
 refine ⟨by simpa [World.setCell] using z, ⟨?_, ?_, ?_, e, ?_, ?_, ?_, ?_, ?_, ?_, ?_, ?_, ?_⟩, ?_, ?_, ?_, ?_, ?_, ?_, ?_, ?_, ?_, ?_, ?_, ?_, ?_⟩
 all_goals first | (rw [World.cell?_setCell_other _ _ _ _ (by simp)]; assumption) | (rw [World.frozen?_setCell]; assumption)
theorem Blk13.put4 {w : World} {b : Nat} {x0 x1 x2 x3 x4 x5 x6 x7 x8 x9 x10 x11 x12 : Value} (h : Blk13 w b x0 x1 x2 x3 x4 x5 x6 x7 x8 x9 x10 x11 x12) (v : Value) : Blk13 (w.setCell ⟨b, 4, none⟩ v) b x0 x1 x2 x3 v x5 x6 x7 x8 x9 x10 x11 x12 := by
 obtain ⟨z, ⟨k0, k1, k2, k3, k4, k5, k6, k7, k8, k9, k10, k11, k12⟩, f0, f1, f2, f3, f4, f5, f6, f7, f8, f9, f10, f11, f12⟩ := h
 have e := World.cell?_setCell_same w ⟨b, 4, none⟩ v (by rw [k4])
 refine ⟨by simpa [World.setCell] using z, ⟨?_, ?_, ?_, ?_, e, ?_, ?_, ?_, ?_, ?_, ?_, ?_, ?_⟩, ?_, ?_, ?_, ?_, ?_, ?_, ?_, ?_, ?_, ?_, ?_, ?_, ?_⟩
 all_goals first | (rw [World.cell?_setCell_other _ _ _ _ (by simp)]; assumption) | (rw [World.frozen?_setCell]; assumption)
theorem Blk13.put5 {w : World} {b : Nat} {x0 x1 x2 x3 x4 x5 x6 x7 x8 x9 x10 x11 x12 : Value} (h : Blk13 w b x0 x1 x2 x3 x4 x5 x6 x7 x8 x9 x10 x11 x12) (v : Value) : Blk13 (w.setCell ⟨b, 5, none⟩ v) b x0 x1 x2 x3 x4 v x6 x7 x8 x9 x10 x11 x12 := by
 obtain ⟨z, ⟨k0, k1, k2, k3, k4, k5, k6, k7, k8, k9, k10, k11, k12⟩, f0, f1, f2, f3, f4, f5, f6, f7, f8, f9, f10, f11, f12⟩ := h
 have e := World.cell?_setCell_same w ⟨b, 5, none⟩ v (by rw [k5])
 refine ⟨by simpa [World.setCell] using z, ⟨?_, ?_, ?_, ?_, ?_, e, ?_, ?_, ?_, ?_, ?_, ?_, ?_⟩, ?_, ?_, ?_, ?_, ?_, ?_, ?_, ?_, ?_, ?_, ?_, ?_, ?_⟩
 all_goals first | (rw [World.cell?_setCell_other _ _ _ _ (by simp)]; assumption) | (rw [World.frozen?_setCell]; assumption)
theorem Blk13.put6 {w : World} {b : Nat} {x0 x1 x2 x3 x4 x5 x6 x7 x8 x9 x10 x11 x12 : Value} (h : Blk13 w b x0 x1 x2 x3 x4 x5 x6 x7 x8 x9 x10 x11 x12) (v : Value) : Blk13 (w.setCell ⟨b, 6, none⟩ v) b x0 x1 x2 x3 x4 x5 v x7 x8 x9 x10 x11 x12 := by
 obtain ⟨z, ⟨k0, k1, k2, k3, k4, k5, k6, k7, k8, k9, k10, k11, k12⟩, f0, f1, f2, f3, f4, f5, f6, f7, f8, f9, f10, f11, f12⟩ := h
 have e := World.cell?_setCell_same w ⟨b, 6, none⟩ v (by rw [k6])
 refine ⟨by simpa [World.setCell] using z, ⟨?_, ?_, ?_, ?_, ?_, ?_, e, ?_, ?_, ?_, ?_, ?_, ?_⟩, ?_, ?_, ?_, ?_, ?_, ?_, ?_, ?_, ?_, ?_, ?_, ?_, ?_⟩
 all_goals first | (rw [World.cell?_setCell_other _ _ _ _ (by simp)]; assumption) | (rw [World.frozen?_setCell]; assumption)
theorem Blk13.put7 {w : World} {b : Nat} {x0 x1 x2 x3 x4 x5 x6 x7 x8 x9 x10 x11 x12 : Value} (h : Blk13 w b x0 x1 x2 x3 x4 x5 x6 x7 x8 x9 x10 x11 x12) (v : Value) : Blk13 (w.setCell ⟨b, 7, none⟩ v) b x0 x1 x2 x3 x4 x5 x6 v x8 x9 x10 x11 x12 := by
 obtain ⟨z, ⟨k0, k1, k2, k3, k4, k5, k6, k7, k8, k9, k10, k11, k12⟩, f0, f1, f2, f3, f4, f5, f6, f7, f8, f9, f10, f11, f12⟩ := h
 have e := World.cell?_setCell_same w ⟨b, 7, none⟩ v (by rw [k7])
 refine ⟨by simpa [World.setCell] using z, ⟨?_, ?_, ?_, ?_, ?_, ?_, ?_, e, ?_, ?_, ?_, ?_, ?_⟩, ?_, ?_, ?_, ?_, ?_, ?_, ?_, ?_, ?_, ?_, ?_, ?_, ?_⟩
 all_goals first | (rw [World.cell?_setCell_other _ _ _ _ (by simp)]; assumption) | (rw [World.frozen?_setCell]; assumption)
theorem Blk13.put8 {w : World} {b : Nat} {x0 x1 x2 x3 x4 x5 x6 x7 x8 x9 x10 x11 x12 : Value} (h : Blk13 w b x0 x1 x2 x3 x4 x5 x6 x7 x8 x9 x10 x11 x12) (v : Value) : Blk13 (w.setCell ⟨b, 8, none⟩ v) b x0 x1 x2 x3 x4 x5 x6 x7 v x9 x10 x11 x12 := by
 obtain ⟨z, ⟨k0, k1, k2, k3, k4, k5, k6, k7, k8, k9, k10, k11, k12⟩, f0, f1, f2, f3, f4, f5, f6, f7, f8, f9, f10, f11, f12⟩ := h
 have e := World.cell?_setCell_same w ⟨b, 8, none⟩ v (by rw [k8])
 refine ⟨by simpa [World.setCell] using z, ⟨?_, ?_, ?_, ?_, ?_, ?_, ?_, ?_, e, ?_, ?_, ?_, ?_⟩, ?_, ?_, ?_, ?_, ?_, ?_, ?_, ?_, ?_, ?_, ?_, ?_, ?_⟩
 all_goals first | (rw [World.cell?_setCell_other _ _ _ _ (by simp)]; assumption) | (rw [World.frozen?_setCell]; assumption)
theorem Blk13.put9 {w : World} {b : Nat} {x0 x1 x2 x3 x4 x5 x6 x7 x8 x9 x10 x11 x12 : Value} (h : Blk13 w b x0 x1 x2 x3 x4 x5 x6 x7 x8 x9 x10 x11 x12) (v : Value) : Blk13 (w.setCell ⟨b, 9, none⟩ v) b x0 x1 x2 x3 x4 x5 x6 x7 x8 v x10 x11 x12 := by
 obtain ⟨z, ⟨k0, k1, k2, k3, k4, k5, k6, k7, k8, k9, k10, k11, k12⟩, f0, f1, f2, f3, f4, f5, f6, f7, f8, f9, f10, f11, f12⟩ := h
 have e := World.cell?_setCell_same w ⟨b, 9, none⟩ v (by rw [k9])
 refine ⟨by simpa [World.setCell] using z, ⟨?_, ?_, ?_, ?_, ?_, ?_, ?_, ?_, ?_, e, ?_, ?_, ?_⟩, ?_, ?_, ?_, ?_, ?_, ?_, ?_, ?_, ?_, ?_, ?_, ?_, ?_⟩
 all_goals first | (rw [World.cell?_setCell_other _ _ _ _ (by simp)]; assumption) | (rw [World.frozen?_setCell]; assumption)
theorem Blk13.put10 {w : World} {b : Nat} {x0 x1 x2 x3 x4 x5 x6 x7 x8 x9 x10 x11 x12 : Value} (h : Blk13 w b x0 x1 x2 x3 x4 x5 x6 x7 x8 x9 x10 x11 x12) (v : Value) : Blk13 (w.setCell ⟨b, 10, none⟩ v) b x0 x1 x2 x3 x4 x5 x6 x7 x8 x9 v x11 x12 := by
 obtain ⟨z, ⟨k0, k1, k2, k3, k4, k5, k6, k7, k8, k9, k10, k11, k12⟩, f0, f1, f2, f3, f4, f5, f6, f7, f8, f9, f10, f11, f12⟩ := h
 have e := World.cell?_setCell_same w ⟨b, 10, none⟩ v (by rw [k10])
 refine ⟨by simpa [World.setCell] using z, ⟨?_, ?_, ?_, ?_, ?_, ?_, ?_, ?_, ?_, ?_, e, ?_, ?_⟩, ?_, ?_, ?_, ?_, ?_, ?_, ?_, ?_, ?_, ?_, ?_, ?_, ?_⟩
 all_goals first | (rw [World.cell?_setCell_other _ _ _ _ (by simp)]; assumption) | (rw [World.frozen?_setCell]; assumption)
theorem Blk13.put11 {w : World} {b : Nat} {x0 x1 x2 x3 x4 x5 x6 x7 x8 x9 x10 x11 x12 : Value} (h : Blk13 w b x0 x1 x2 x3 x4 x5 x6 x7 x8 x9 x10 x11 x12) (v : Value) : Blk13 (w.setCell ⟨b, 11, none⟩ v) b x0 x1 x2 x3 x4 x5 x6 x7 x8 x9 x10 v x12 := by
 obtain ⟨z, ⟨k0, k1, k2, k3, k4, k5, k6, k7, k8, k9, k10, k11, k12⟩, f0, f1, f2, f3, f4, f5, f6, f7, f8, f9, f10, f11, f12⟩ := h
 have e := World.cell?_setCell_same w ⟨b, 11, none⟩ v (by rw [k11])
 refine ⟨by simpa [World.setCell] using z, ⟨?_, ?_, ?_, ?_, ?_, ?_, ?_, ?_, ?_, ?_, ?_, e, ?_⟩, ?_, ?_, ?_, ?_, ?_, ?_, ?_, ?_, ?_, ?_, ?_, ?_, ?_⟩
 all_goals first | (rw [World.cell?_setCell_other _ _ _ _ (by simp)]; assumption) | (rw [World.frozen?_setCell]; assumption)
theorem Blk13.put12 {w : World} {b : Nat} {x0 x1 x2 x3 x4 x5 x6 x7 x8 x9 x10 x11 x12 : Value} (h : Blk13 w b x0 x1 x2 x3 x4 x5 x6 x7 x8 x9 x10 x11 x12) (v : Value) : Blk13 (w.setCell ⟨b, 12, none⟩ v) b x0 x1 x2 x3 x4 x5 x6 x7 x8 x9 x10 x11 v := by
 obtain ⟨z, ⟨k0, k1, k2, k3, k4, k5, k6, k7, k8, k9, k10, k11, k12⟩, f0, f1, f2, f3, f4, f5, f6, f7, f8, f9, f10, f11, f12⟩ := h
 have e := World.cell?_setCell_same w ⟨b, 12, none⟩ v (by rw [k12])
 refine ⟨by simpa [World.setCell] using z, ⟨?_, ?_, ?_, ?_, ?_, ?_, ?_, ?_, ?_, ?_, ?_, ?_, e⟩, ?_, ?_, ?_, ?_, ?_, ?_, ?_, ?_, ?_, ?_, ?_, ?_, ?_⟩
 all_goals first | (rw [World.cell?_setCell_other _ _ _ _ (by simp)]; assumption) | (rw [World.frozen?_setCell]; assumption)
theorem Blk13.set {w : World} {b : Nat} {o0 o1 o2 o3 o4 o5 o6 o7 o8 o9 o10 o11 o12 : Value} (h : Blk13 w b o0 o1 o2 o3 o4 o5 o6 o7 o8 o9 o10 o11 o12) (x0 x1 x2 x3 x4 x5 x6 x7 x8 x9 x10 x11 x12 : Value) :
   Blk13 (((((((((((((w.setCell ⟨b, 0, none⟩ x0).setCell ⟨b, 1, none⟩ x1).setCell ⟨b, 2, none⟩ x2).setCell ⟨b, 3, none⟩ x3).setCell ⟨b, 4, none⟩ x4).setCell ⟨b, 5, none⟩ x5).setCell ⟨b, 6, none⟩ x6).setCell ⟨b, 7, none⟩ x7).setCell ⟨b, 8, none⟩ x8).setCell ⟨b, 9, none⟩ x9).setCell ⟨b, 10, none⟩ x10).setCell ⟨b, 11, none⟩ x11).setCell ⟨b, 12, none⟩ x12) b x0 x1 x2 x3 x4 x5 x6 x7 x8 x9 x10 x11 x12 := (((((((((((((h.put0 _).put1 _).put2 _).put3 _).put4 _).put5 _).put6 _).put7 _).put8 _).put9 _).put10 _).put11 _).put12 _)
theorem Blk13.dr {w : World} {b : Nat} {x0 x1 x2 x3 x4 x5 x6 x7 x8 x9 x10 x11 x12 : Value} (h : Blk13 w b x0 x1 x2 x3 x4 x5 x6 x7 x8 x9 x10 x11 x12) : Blk13 w.drew b x0 x1 x2 x3 x4 x5 x6 x7 x8 x9 x10 x11 x12 := h.ext (Ext.drew (Ext.refl _))
theorem Blk13.al {w : World} {b : Nat} {x0 x1 x2 x3 x4 x5 x6 x7 x8 x9 x10 x11 x12 : Value} (o : Obj) (h : Blk13 w b x0 x1 x2 x3 x4 x5 x6 x7 x8 x9 x10 x11 x12) : Blk13 (w.alloc o) b x0 x1 x2 x3 x4 x5 x6 x7 x8 x9 x10 x11 x12 := h.ext (Ext.alloc (Ext.refl _) _)
end Go.Proofs.Ytjhmbkdkjgjoaaa

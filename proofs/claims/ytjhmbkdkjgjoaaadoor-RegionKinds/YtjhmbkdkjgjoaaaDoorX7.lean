/-
 The contracts of In, Area, Has (package coord's and the document's) and Can.
 The contracts of package coord's and the document's In, ColName and ColNumber.
 The contracts of package coord's and the document's ColName and ColNumber.
 strings.IndexRune at a rune that is not ASCII over an ASCII text: none.
 strings.IndexAny of any text for a sign of '$0123456789': the first place of such a byte.
 References as texts, plain data; the contracts of package coord's rowNumber, sign and Parse.
 Formulas as trees, as lists of words: what is read of them, or which word can't be. Plain mathematics: no program in sight.
 The contracts of package lex's kinds of bytes, and of past.
-/
import Derived.Test.YtjhmbkdkjgjoaaaDoorChecked
import Derived.Test.YtjhmbkdkjgjoaaaDoorX6
import Derived.Test.YtjhmbkdkjgjoaaaDoorX5
import Derived.Laws.BytesArg
import Derived.Laws.Runes
import Derived.Test.YtjhmbkdkjgjoaaaDoorShelf
import Derived.Laws.RangeAny
import Derived.Lib.IndexAny
import Derived.WalkMore
import Derived.Lib.OthersKept
import Derived.Deep.WholeRow
import Derived.Shelf.Strings.AsciiSet
import Derived.Test.YtjhmbkdkjgjoaaaDoorX1
namespace Go.Proofs.YtjhmbkdkjgjoaaaDoor
open Go.RowKit
set_option maxHeartbeats 1000000

theorem iscol_any (c : Int) (w : World) : Calls Tryd.prog 61 #[.int .i64 c] w fun e w' => e = .returned (.bool (colB c)) ∧ w' = w := by
 cases h1 : decide (1 ≤ c) <;> cases h2 : decide (c ≤ 52) <;>
 · have HR : Hid (colB c = (decide (1 ≤ c) && decide (c ≤ 52))) := rfl
   rw [h1, h2] at HR
   have h3 := h1
   have h4 := h2
   simp only [decide_eq_true_eq, decide_eq_false_iff_not] at h3 h4
   go_enter Tryd.func61, Tryd.ntmps61
   go_wp2_with fail
   go_ret
   exact ⟨ret_bool HR.out.symm, rfl⟩

theorem in_eq (r c : Int) : inB r c = (decide (1 ≤ r) && decide (r ≤ 1000) && colB c) := by unfold inB colB; simp [Bool.and_assoc]
theorem in_any (r c : Int) (w : World) : Calls Tryd.prog 44 #[.int .i64 r, .int .i64 c] w fun e w' => e = .returned (.bool (inB r c)) ∧ w' = w := by
 have k := fun W => iscol_any c W
 cases h1 : decide (1 ≤ r) <;> cases h2 : decide (r ≤ 1000) <;>
 · have HR : Hid (inB r c = (decide (1 ≤ r) && decide (r ≤ 1000) && colB c)) := in_eq r c
   rw [h1, h2] at HR
   have h3 := h1
   have h4 := h2
   simp only [decide_eq_true_eq, decide_eq_false_iff_not] at h3 h4
   go_enter Tryd.func44, Tryd.ntmps44
   first
     | (go_wp2_with fail
        refine (k _).mono ?_
        rintro e w' ⟨rfl, rfl⟩
        go_wp2_with fail
        go_ret
        exact ⟨ret_bool HR.out.symm, rfl⟩)
     | (go_wp2_with fail
        go_ret
        exact ⟨ret_bool HR.out.symm, rfl⟩)
theorem rin_any (r c : Int) (w : World) : Calls Tryd.prog 58 #[.int .i64 r, .int .i64 c] w fun e w' => e = .returned (.bool (inB r c)) ∧ w' = w := by
 cases h1 : decide (1 ≤ r) <;> cases h2 : decide (r ≤ 1000) <;> cases h5 : decide (1 ≤ c) <;> cases h6 : decide (c ≤ 52) <;>
 · have HR : Hid (inB r c = (decide (1 ≤ r) && decide (r ≤ 1000) && decide (1 ≤ c) && decide (c ≤ 52))) := rfl
   rw [h1, h2, h5, h6] at HR
   have h3 := h1
   have h4 := h2
   have h7 := h5
   have h8 := h6
   simp only [decide_eq_true_eq, decide_eq_false_iff_not] at h3 h4 h7 h8
   go_enter Tryd.func58, Tryd.ntmps58
   go_wp2_with fail
   go_ret
   exact ⟨ret_bool HR.out.symm, rfl⟩

open Go.RowKit
set_option maxHeartbeats 1000000

open Go.RowKit
set_option maxHeartbeats 1000000

theorem ret_s' {a b : ByteArray} (h : a = b) : Ending.returned (.string a) = .returned (.string b) := by rw [h]
theorem app_list' (a b : ByteArray) : (a ++ b).data.toList = a.data.toList ++ b.data.toList := by rw [ByteArray.data_append, Array.toList_append]
theorem bytes_eq {a b : ByteArray} (h : a.data.toList = b.data.toList) : a = b := by rw [← Lib.mk_data a, ← Lib.mk_data b, h]
theorem conv_ltr (x : UInt8) (w : World) : (convert 97 9 (.slice (some ⟨w.heap.size, 0, none⟩) 1 1)).run Tryd.prog (w.alloc (.cells #[.int .u8 x.toNat] 5)) = .ok (.string ⟨#[x]⟩) (w.alloc (.cells #[.int .u8 x.toNat] 5)) := by
 have := run_convert_bytes_arg (P := Tryd.prog) (w.alloc (.cells #[.int .u8 x.toNat] 5)) 97 5 Tryd.underlying97 Tryd.underlying5 w.heap.size 0 1 1 [(x.toNat : Int)] rfl (fun i hi => by
   obtain rfl : i = 0 := by omega
   simp) 9 Tryd.underlying9
 rw [this]
 simp [strOfNums]
def abc : ByteArray := ⟨#[65, 66, 67, 68, 69, 70, 71, 72, 73, 74, 75, 76, 77, 78, 79, 80, 81, 82, 83, 84, 85, 86, 87, 88, 89, 90]⟩
theorem abc_at : ∀ i : Fin 26, abc[i.val]'(i.isLt) = UInt8.ofNat (65 + i.val) := by decide +kernel
set_option maxRecDepth 100000 in
theorem rcolname_any (c : Int) (hc : I64 c) (w : World) :
   Calls Tryd.prog 59 #[.int .i64 c] w fun e w' => e = .returned (.string ⟨(nameL c).toArray⟩) ∧ Ext w w' := by
 obtain ⟨b1, b2⟩ := hc
 by_cases c1 : c < 1
 · have HN : Hid (nameL c = []) := by show nameL c = []; unfold nameL colB; rw [if_neg (by simp; omega)]
   have h3 : decide (c < 1) = true := by simpa using c1
   go_enter Tryd.func59, Tryd.ntmps59
   go_wp2_with fail
   go_ret
   exact ⟨ret_s' (by rw [HN.out]), Ext.refl _⟩
 have h3 : decide (c < 1) = false := by simpa using c1
 by_cases c2 : 52 < c
 · have HN : Hid (nameL c = []) := by show nameL c = []; unfold nameL colB; rw [if_neg (by simp; omega)]
   have h4 : decide (52 < c) = true := by simpa using c2
   go_enter Tryd.func59, Tryd.ntmps59
   go_wp2_with fail
   go_ret
   exact ⟨ret_s' (by rw [HN.out]), Ext.refl _⟩
 have h4 : decide (52 < c) = false := by simpa using c2
 obtain ⟨n, hn⟩ : ∃ n : Nat, c = (n : Int) + 1 := ⟨(c - 1).toNat, by omega⟩
 subst hn
 have n1 : (n : Int) ≤ 51 := by omega
 have n0 : (0 : Int) ≤ n := by omega
 have HN1 : Hid (n < 26 → nameL ((n : Int) + 1) = [UInt8.ofNat (65 + n % 26)]) := by
   show _ → _; intro h; unfold nameL colB; rw [if_pos (by simp; omega), if_pos (by omega)]; unfold ltr; congr 3
 have HN2 : Hid (¬ n < 26 → nameL ((n : Int) + 1) = [65, UInt8.ofNat (65 + n % 26)]) := by
   show _ → _; intro h; unfold nameL colB; rw [if_pos (by simp; omega), if_neg (by omega)]; unfold ltr; congr 4
 generalize hx : UInt8.ofNat (65 + n % 26) = x at HN1 HN2
 have cv := conv_ltr x w
 generalize hX : (⟨#[x]⟩ : ByteArray) = X at cv
 have CV : Hid (_ = _) := cv
 have hXs : X.size = 1 := by rw [← hX]; rfl
 have HX : Hid (X.data.toList = [x]) := by show _ = _; rw [← hX]
 obtain ⟨k, hk⟩ : ∃ k : Nat, k = n % 26 := ⟨_, rfl⟩
 have hk1 : (n : Int) % 26 = (k : Int) := by omega
 have hk2 : (k : Int) < 26 := by omega
 have hk0 : (0 : Int) ≤ k := by omega
 obtain ⟨S, hS⟩ : ∃ S : ByteArray, abc = S := ⟨_, rfl⟩
 have hSs : S.size = 26 := by rw [← hS]; rfl
 have hlt : k < S.size := by omega
 have hSk : S[k]'hlt = x := by
   subst hS
   rw [← hx, ← hk]
   exact abc_at ⟨k, by omega⟩
 unfold abc at hS
 clear hx hX cv c1 c2 b1 b2 hk
 go_enter Tryd.func59, Tryd.ntmps59
 go_wp2_with fail
 rw [CV.out]
 by_cases h : n < 26
 · have HL : Hid (nameL ((n : Int) + 1) = [x]) := HN1.out h
   have h5 : (n : Int) + 1 ≤ 26 := by omega
   clear h
   go_wp2_with fail
   go_ret
   exact ⟨ret_s' (by rw [HL.out, ← HX.out, Lib.mk_data]), (Ext.refl _).alloc _⟩
 · have HL : Hid (nameL ((n : Int) + 1) = [65, x]) := HN2.out h
   have h5 : (26 : Int) < (n : Int) + 1 := by omega
   clear h
   go_wp2_with fail
   go_ret
   exact ⟨ret_s' (bytes_eq (by rw [HL.out, app_list', HX.out]; rfl)), (Ext.refl _).alloc _⟩

theorem name_eq (k : Nat) (s : ByteArray) (h1 : 1 ≤ k) (h2 : k ≤ 52) : ((⟨(nameL k).toArray⟩ : ByteArray).toList == s.toList) = decide (colN s.data.toList = k) := by
 rw [ByteArray.toList_eq, ByteArray.toList_eq, Bool.eq_iff_iff, beq_iff_eq, decide_eq_true_eq]
 exact name_inj k s.data.toList h1 h2
theorem rcolnumber_any (s : ByteArray) (w : World) :
   Calls Tryd.prog 81 #[.string s] w fun e w' => e = .returned (.int .i64 (colN s.data.toList)) ∧ Ext w w' := by
 have HL : Hid (colN s.data.toList ≤ 52) := colN_le _
 go_enter Tryd.func81, Tryd.ntmps81
 go_wp2_with fail
 go_loopw [3] (fun v3 wx => ∃ g k : Nat, k + g = 53 ∧ 1 ≤ k ∧ v3 = .int .i64 k ∧ Ext w wx ∧ (colN s.data.toList = 0 ∨ k ≤ colN s.data.toList)) (fun v3 _ => 53 - (intOf v3).toNat)
 case atStart => exact ⟨52, 1, rfl, Nat.le_refl _, rfl, Ext.refl _, by omega⟩
 case round =>
   obtain ⟨g, k, hk, k1, rfl, E, hc⟩ := hrel
   have HC : Hid (colN s.data.toList = 0 ∨ k ≤ colN s.data.toList) := hc
   clear hc
   cases g with
   | zero =>
     obtain rfl : k = 53 := by omega
     have HZ : Hid (colN s.data.toList = 0) := by
       show _ = _
       have := HC.out; have := HL.out; omega
     clear hk k1
     go_wp2_with fail
     go_ret
     exact ⟨ret_int (by rw [HZ.out]; rfl), E⟩
   | succ g =>
     have kk : (k : Int) ≤ 52 := by omega
     have k2 : k ≤ 52 := by omega
     have c := fun W => rcolname_any (k : Int) ⟨by omega, by omega⟩ W
     have hq := name_eq k s k1 k2
     have HK : Hid (k + (g + 1) = 53) := hk
     have HK1 : Hid (1 ≤ k) := k1
     generalize (⟨(nameL k).toArray⟩ : ByteArray) = q at c hq
     clear hk k2 k1
     by_cases h : colN s.data.toList = k
     · rw [show decide (colN s.data.toList = k) = true from by simpa using h] at hq
       have H : Hid (colN s.data.toList = k) := h
       clear h
       go_wp2_with fail
       refine (c _).mono ?_
       rintro e w1 ⟨rfl, E1⟩
       go_wp2_with fail
       go_ret
       exact ⟨ret_int (by rw [H.out]), E.trans E1⟩
     · rw [show decide (colN s.data.toList = k) = false from by simpa using h] at hq
       have H : Hid (colN s.data.toList ≠ k) := h
       clear h
       go_wp2_with fail
       refine (c _).mono ?_
       rintro e w1 ⟨rfl, E1⟩
       go_wp2_with fail
       go_roundw
       case measure => have := HK.out; simp [intOf]; omega
       case rel =>
         exact ⟨g, k + 1, by have := HK.out; omega, by omega, by go_num, E.trans E1, by have := HC.out; have := H.out; omega⟩

open Go.RowKit
set_option maxHeartbeats 1000000

open Go.RowKit
set_option maxHeartbeats 1000000

/-- The signs that end a name. -/
def sgns : List UInt8 := [36, 48, 49, 50, 51, 52, 53, 54, 55, 56, 57]
theorem sgn_eq (c : UInt8) : sgns.contains c = (c == 36 || dgB c) := by
 have : ∀ c : Fin 256, sgns.contains (UInt8.ofNat c.val) = (UInt8.ofNat c.val == 36 || dgB (UInt8.ofNat c.val)) := by decide +kernel
 have h := this ⟨c.toNat, c.toNat_lt⟩
 simpa using h
theorem at_get (s : ByteArray) (i : Nat) (h : i < s.size) : s.data.toList[i]? = some (s[i]'h) := Lib.data_getElem? s i h

open Go.RowKit
set_option maxHeartbeats 1000000

/-- A $ ahead; what stands behind it. -/
def dlB (l : List UInt8) : Bool := l.head? == some 36
def undl (l : List UInt8) : List UInt8 := if dlB l then l.tail else l
/-- A name, up to the first $ or digit; what follows. -/
def nmL (l : List UInt8) : List UInt8 := (undl l).takeWhile (fun c => !sgns.contains c)
def rsL (l : List UInt8) : List UInt8 := (undl l).dropWhile (fun c => !sgns.contains c)
/-- The place that a text names, as the code reads it. -/
def rowP (l : List UInt8) : Int := rowC (undl (rsL l))
def colP (l : List UInt8) : Int := colN (nmL l)
def okP (l : List UInt8) : Bool := inB (rowP l) (colP l)
/-- A reference as a struct. -/
def refD (r c : Int) (ar ac : Bool) : Value := .agg #[.int .i64 r, .int .i64 c, .bool ar, .bool ac]
def prV (l : List UInt8) : Value := if okP l then refD (rowP l) (colP l) (dlB (rsL l)) (dlB l) else refD 0 0 false false

def signL (b : Bool) : List UInt8 := if b then [36] else []

open Go.RowKit

/-- A place that is referred to: row, column, which of them is absolute. -/
abbrev Rf := Int × Int × Bool × Bool
def rz : Rf := (0, 0, false, false)
/-- A tree: kind, number, text, error, place, second place, parts. -/
inductive T where
 | mk (k n : Int) (s : List UInt8) (e : Int) (r q : Rf) (l : List T)
def T.k : T → Int | .mk k _ _ _ _ _ _ => k
def T.n : T → Int | .mk _ n _ _ _ _ _ => n
def T.s : T → List UInt8 | .mk _ _ s _ _ _ _ => s
def T.e : T → Int | .mk _ _ _ e _ _ _ => e
def T.r : T → Rf | .mk _ _ _ _ r _ _ => r
def T.q : T → Rf | .mk _ _ _ _ _ q _ => q
def T.l : T → List T | .mk _ _ _ _ _ _ l => l
def tz : T := .mk 0 0 [] 0 rz rz []
def tNum (n : Int) : T := .mk 0 n [] 0 rz rz []
def tText (s : List UInt8) : T := .mk 1 0 s 0 rz rz []
def tBool (n : Int) : T := .mk 2 n [] 0 rz rz []
def tErr (e : Int) : T := .mk 3 0 [] e rz rz []
def tRef (r : Rf) : T := .mk 4 0 [] 0 r rz []
def tRange (r q : Rf) : T := .mk 5 0 [] 0 r q []
def tNeg (x : T) : T := .mk 6 0 [] 0 rz rz [x]
def tBin (s : List UInt8) (x y : T) : T := .mk 7 0 s 0 rz rz [x, y]
def tCall (s : List UInt8) (l : List T) : T := .mk 8 0 s 0 rz rz l

/-- How tightly a sign binds. -/
def bd1 : List (List UInt8) := [[61], [60, 62], [60], [60, 61], [62], [62, 61]]
def bnd (s : List UInt8) : Nat :=
 if s ∈ bd1 then 1 else if s = [38] then 2 else if s = [43] ∨ s = [45] then 3 else if s = [42] ∨ s = [47] then 4 else 0
/-- The place that a word names. -/
def rfP (s : List UInt8) : Rf := (rowP s, colP s, dlB (rsL s), dlB s)
def wTrue : List UInt8 := [84, 82, 85, 69]
def wFalse : List UInt8 := [70, 65, 76, 83, 69]

/-- The word that comes next; a fault there. -/
def hd (ts : List Tk) : Tk := ts.headD (5, 0, [], 0, 0)
/-- A fault: its place, whether it is too deep. -/
abbrev Ft := Int × Bool
def cd (b : Bool) : Int := if b then 2 else 4
def ft (ts : List Tk) (c : Bool) : Ft := ((hd ts).2.1, c)
def isSg (p : List UInt8) (ts : List Tk) : Bool := (hd ts).1 == 3 && (hd ts).2.2.1 == p
abbrev Rs := Except Ft (T × List Tk)
def tk1 (d : Nat) (ts : List Tk) : Except Ft (List Tk) := if 40 < d then .error (ft ts true) else .ok ts.tail
def pass1 (p : List UInt8) (d : Nat) (ts : List Tk) : Except Ft (List Tk) := if isSg p ts then tk1 d ts else .error (ft ts false)
/-- One word as a tree. -/
def one (d : Nat) (ts : List Tk) (x : T) : Rs := match tk1 d ts with
 | .error e => .error e
 | .ok ts1 => .ok (x, ts1)
def refr (d : Nat) (ts : List Tk) : Except Ft (Rf × List Tk) :=
 if (hd ts).1 = 2 ∧ okP (hd ts).2.2.1 = true then (match tk1 d ts with
   | .error e => .error e
   | .ok ts1 => .ok (rfP (hd ts).2.2.1, ts1)) else .error (ft ts false)
abbrev Rd := Nat → List Tk → Rs
def argm (F : Rd) (d : Nat) (ts : List Tk) : Rs := match F d ts with
 | .error e => .error e
 | .ok (x, ts1) => if x.k = 4 ∧ ts.length = ts1.length + 1 ∧ isSg [58] ts1 = true then (match tk1 d ts1 with
   | .error e => .error e
   | .ok ts2 => match refr d ts2 with
     | .error e => .error e
     | .ok (q, ts3) => .ok (tRange x.r q, ts3)) else .ok (x, ts1)
/-- The arguments behind those that are read. -/
def argl (F : Rd) (a b : Nat) (d : Nat) : Nat → List T → List Tk → Except Ft (List T × List Tk)
 | 0, l, ts => .ok (l, ts)
 | f + 1, l, ts => if l.length < a ∨ l.length < b ∧ isSg [44] ts = true then (match pass1 [44] d ts with
   | .error e => .error e
   | .ok ts1 => match argm F d ts1 with
     | .error e => .error e
     | .ok (x, ts2) => argl F a b d f (l ++ [x]) ts2) else .ok (l, ts)
def args (F : Rd) (a b : Nat) (d : Nat) (ts : List Tk) : Except Ft (List T × List Tk) := match argm F d ts with
 | .error e => .error e
 | .ok (x, ts1) => argl F a b d ts1.length [x] ts1
def call (F : Rd) (s : List UInt8) (a b : Nat) : Rd := fun d ts => match args F a b d ts with
 | .error e => .error e
 | .ok (l, ts1) => .ok (tCall s l, ts1)
def brk (F : Rd) (d : Nat) (ts : List Tk) : Rs := match pass1 [40] d ts with
 | .error e => .error e
 | .ok ts1 => match F (d + 1) ts1 with
   | .error e => .error e
   | .ok (x, ts2) => match pass1 [41] d ts2 with
     | .error e => .error e
     | .ok ts3 => .ok (x, ts3)
def wrd (F : Rd) (d : Nat) (ts : List Tk) : Rs :=
 if (hd ts).2.2.1 = wTrue then one d ts (tBool 1) else if (hd ts).2.2.1 = wFalse then one d ts (tBool 0) else
 match kno (hd ts).2.2.1 with
 | some (a, b) => (match tk1 d ts with
   | .error e => .error e
   | .ok ts1 => brk (call F (hd ts).2.2.1 a b) d ts1)
 | none => match refr d ts with
   | .error e => .error e
   | .ok (r, ts1) => .ok (tRef r, ts1)
def smp (F : Rd) (d : Nat) (ts : List Tk) : Rs :=
 if (hd ts).1 = 0 then one d ts (tNum (hd ts).2.2.2.1) else if (hd ts).1 = 1 then one d ts (tText (hd ts).2.2.1) else if (hd ts).1 = 4 then one d ts (tErr (hd ts).2.2.2.2) else
 if (hd ts).1 = 2 then wrd F d ts else brk F d ts
def opn (F O : Rd) (d : Nat) (ts : List Tk) : Rs :=
 if isSg [45] ts = true then (match tk1 d ts with
   | .error e => .error e
   | .ok ts1 => match O (d + 1) ts1 with
     | .error e => .error e
     | .ok (x, ts2) => .ok (tNeg x, ts2)) else smp F d ts
def lp (side : Rd) (k : Nat) (d : Nat) : Nat → T → List Tk → Rs
 | 0, x, ts => .ok (x, ts)
 | f + 1, x, ts => if (hd ts).1 = 3 ∧ bnd (hd ts).2.2.1 = k then (match tk1 d ts with
   | .error e => .error e
   | .ok ts1 => match side d ts1 with
     | .error e => .error e
     | .ok (y, ts2) => lp side k d f (tBin (hd ts).2.2.1 x y) ts2) else .ok (x, ts)
def lv (side : Rd) (k : Nat) : Rd := fun d ts => match side d ts with
 | .error e => .error e
 | .ok (x, ts1) => lp side k d ts1.length x ts1
def frm (o : Rd) : Rd := lv (lv (lv (lv o 4) 3) 2) 1
def O : Nat → Rd
 | 0 => fun _ ts => .error (ft ts false)
 | n + 1 => opn (frm (O n)) (O n)
/-- The tree of all words. -/
def prs (ts : List Tk) : T × Int × Int := match frm (O ts.length) 0 ts with
 | .error e => (tz, e.1, cd e.2)
 | .ok (x, ts1) => if (hd ts1).1 = 5 then (x, 0, 0) else (tz, (hd ts1).2.1, 4)
/-- What is answered of a text. -/
def parR (l : List UInt8) : T × Int × Int := if (lexR l).2.2 = 0 then prs (lexR l).1 else (tz, (lexR l).2.1, (lexR l).2.2)

/-! ### What is left, is left behind -/
/-- ts ends with the end. -/
def Nz (ts : List Tk) : Prop := ∃ pre t, ts = pre ++ [t] ∧ t.1 = 5
theorem Nz.tail {ts : List Tk} (h : Nz ts) (h5 : (hd ts).1 ≠ 5) : Nz ts.tail ∧ ts.tail.length + 1 = ts.length := by
 obtain ⟨pre, t, rfl, h1⟩ := h
 cases pre with
 | nil => exact absurd h1 h5
 | cons a b => exact ⟨⟨b, t, rfl, h1⟩, by simp⟩
theorem Nz.ne {ts : List Tk} (h : Nz ts) : ts ≠ [] := by
 obtain ⟨pre, t, rfl, h1⟩ := h
 simp
theorem Nz.pos {ts : List Tk} (h : Nz ts) : 1 ≤ ts.length := by
 obtain ⟨pre, t, rfl, h1⟩ := h
 simp
theorem isSg_k {p : List UInt8} {ts : List Tk} (h : isSg p ts = true) : (hd ts).1 = 3 ∧ (hd ts).2.2.1 = p := by
 unfold isSg at h; simp at h; exact h
/-- What is read is at least one word, and never the end. -/
def Sh (ts ts' : List Tk) : Prop := Nz ts' ∧ ts'.length < ts.length
def ShR {α : Type} (ts : List Tk) (r : Except Ft (α × List Tk)) : Prop := ∀ x ts', r = .ok (x, ts') → Sh ts ts'
theorem tk1_sh {d : Nat} {ts ts1 : List Tk} (h : Nz ts) (h5 : (hd ts).1 ≠ 5) (e : tk1 d ts = .ok ts1) : Sh ts ts1 := by
 unfold tk1 at e
 split at e
 · cases e
 · cases e
   have := h.tail h5
   exact ⟨this.1, by omega⟩
theorem pass1_sh {p : List UInt8} {d : Nat} {ts ts1 : List Tk} (h : Nz ts) (e : pass1 p d ts = .ok ts1) : Sh ts ts1 := by
 unfold pass1 at e
 split at e
 · rename_i hs
   exact tk1_sh h (by rw [(isSg_k hs).1]; decide) e
 · cases e
theorem one_sh {d : Nat} {ts : List Tk} {x : T} (h : Nz ts) (h5 : (hd ts).1 ≠ 5) : ShR ts (one d ts x) := by
 intro y ts' e
 unfold one at e
 split at e
 · cases e
 · rename_i ts1 h1
   cases e
   exact tk1_sh h h5 h1
theorem refr_sh {d : Nat} {ts : List Tk} (h : Nz ts) : ShR ts (refr d ts) := by
 intro y ts' e
 unfold refr at e
 split at e
 · rename_i hk
   split at e
   · cases e
   · rename_i ts1 h1
     cases e
     exact tk1_sh h (by rw [hk.1]; decide) h1
 · cases e
/-- A reading that reads at least one word, of lists up to so long. -/
def ShF (n : Nat) (F : Rd) : Prop := ∀ d ts, Nz ts → ts.length ≤ n → ShR ts (F d ts)
theorem Sh.trans {a b c : List Tk} (h : Sh a b) (k : Sh b c) : Sh a c := ⟨k.1, by have := h.2; have := k.2; omega⟩
theorem argm_sh {n : Nat} {F : Rd} (hF : ShF n F) : ShF n (argm F) := by
 intro d ts h hn x ts' e
 unfold argm at e
 split at e
 · cases e
 · rename_i y ts1 h1
   have s1 := hF d ts h hn y ts1 h1
   split at e
   · rename_i hc
     split at e
     · cases e
     · rename_i ts2 h2
       have s2 := tk1_sh s1.1 (by rw [(isSg_k hc.2.2).1]; decide) h2
       split at e
       · cases e
       · rename_i q ts3 h3
         cases e
         exact (s1.trans s2).trans (refr_sh s2.1 _ _ h3)
   · cases e; exact s1
theorem argl_sh {n : Nat} {F : Rd} (hF : ShF n F) (a b d f : Nat) : ∀ (l l' : List T) (ts ts' : List Tk), Nz ts → ts.length ≤ n → argl F a b d f l ts = .ok (l', ts') → Nz ts' ∧ ts'.length ≤ ts.length := by
 induction f with
 | zero =>
   intro l l' ts ts' h hn e
   unfold argl at e
   cases e
   exact ⟨h, Nat.le_refl _⟩
 | succ f ih =>
   intro l l' ts ts' h hn e
   unfold argl at e
   split at e
   · split at e
     · cases e
     · rename_i ts1 h1
       have s1 := pass1_sh h h1
       split at e
       · cases e
       · rename_i x ts2 h2
         have s2 := argm_sh hF d ts1 s1.1 (by have := s1.2; omega) x ts2 h2
         have := ih _ _ ts2 ts' s2.1 (by have := s1.2; have := s2.2; omega) e
         exact ⟨this.1, by have := s1.2; have := s2.2; omega⟩
   · cases e; exact ⟨h, Nat.le_refl _⟩
theorem args_sh {n : Nat} {F : Rd} (hF : ShF n F) {a b d : Nat} {ts : List Tk} (h : Nz ts) (hn : ts.length ≤ n) : ShR ts (args F a b d ts) := by
 intro x ts' e
 unfold args at e
 split at e
 · cases e
 · rename_i y ts1 h1
   have s1 := argm_sh hF d ts h hn y ts1 h1
   have := argl_sh hF a b d _ _ _ _ _ s1.1 (by have := s1.2; omega) e
   exact ⟨this.1, by have := s1.2; omega⟩
theorem call_sh {n : Nat} {F : Rd} (hF : ShF n F) (s : List UInt8) (a b : Nat) : ShF n (call F s a b) := by
 intro d ts h hn x ts' e
 unfold call at e
 split at e
 · cases e
 · rename_i y ts1 h1
   cases e
   exact args_sh hF h hn _ _ h1
theorem brk_sh {n : Nat} {F : Rd} (hF : ShF n F) : ShF (n + 1) (brk F) := by
 intro d ts h hn x ts' e
 unfold brk at e
 split at e
 · cases e
 · rename_i ts1 h1
   have s1 := pass1_sh h h1
   split at e
   · cases e
   · rename_i y ts2 h2
     have s2 := hF (d + 1) ts1 s1.1 (by have := s1.2; omega) y ts2 h2
     split at e
     · cases e
     · rename_i ts3 h3
       cases e
       exact (s1.trans s2).trans (pass1_sh s2.1 h3)
theorem wrd_sh {n : Nat} {F : Rd} (hF : ShF n F) (d : Nat) (ts : List Tk) (h : Nz ts) (hn : ts.length ≤ n + 1) (hk : (hd ts).1 = 2) : ShR ts (wrd F d ts) := by
 intro x ts' e
 have h5 : (hd ts).1 ≠ 5 := by rw [hk]; decide
 unfold wrd at e
 split at e
 · exact one_sh h h5 _ _ e
 · split at e
   · exact one_sh h h5 _ _ e
   · split at e
     · split at e
       · cases e
       · rename_i ts1 h1
         have s1 := tk1_sh h h5 h1
         exact s1.trans (brk_sh (call_sh hF _ _ _) d ts1 s1.1 (by have := s1.2; omega) _ _ e)
     · split at e
       · cases e
       · rename_i r ts1 h1
         cases e
         exact refr_sh h _ _ h1
theorem smp_sh {n : Nat} {F : Rd} (hF : ShF n F) : ShF (n + 1) (smp F) := by
 intro d ts h hn x ts' e
 unfold smp at e
 split at e
 · rename_i hk; exact one_sh h (by rw [hk]; decide) _ _ e
 · split at e
   · rename_i hk; exact one_sh h (by rw [hk]; decide) _ _ e
   · split at e
     · rename_i hk; exact one_sh h (by rw [hk]; decide) _ _ e
     · split at e
       · rename_i hk; exact wrd_sh hF d ts h hn hk _ _ e
       · exact brk_sh hF d ts h hn _ _ e
theorem opn_sh {n : Nat} {F G : Rd} (hF : ShF n F) (hG : ShF n G) : ShF (n + 1) (opn F G) := by
 intro d ts h hn x ts' e
 unfold opn at e
 split at e
 · rename_i hk
   split at e
   · cases e
   · rename_i ts1 h1
     have s1 := tk1_sh h (by rw [(isSg_k hk).1]; decide) h1
     split at e
     · cases e
     · rename_i y ts2 h2
       cases e
       exact s1.trans (hG (d + 1) ts1 s1.1 (by have := s1.2; omega) _ _ h2)
 · exact smp_sh hF d ts h hn _ _ e
theorem lp_sh {n : Nat} {F : Rd} (hF : ShF n F) (k d f : Nat) : ∀ (x y : T) (ts ts' : List Tk), Nz ts → ts.length ≤ n → lp F k d f x ts = .ok (y, ts') → Nz ts' ∧ ts'.length ≤ ts.length := by
 induction f with
 | zero =>
   intro x y ts ts' h hn e
   unfold lp at e
   cases e
   exact ⟨h, Nat.le_refl _⟩
 | succ f ih =>
   intro x y ts ts' h hn e
   unfold lp at e
   split at e
   · rename_i hk
     split at e
     · cases e
     · rename_i ts1 h1
       have s1 := tk1_sh h (by rw [hk.1]; decide) h1
       split at e
       · cases e
       · rename_i z ts2 h2
         have s2 := hF d ts1 s1.1 (by have := s1.2; omega) z ts2 h2
         have := ih _ _ ts2 ts' s2.1 (by have := s1.2; have := s2.2; omega) e
         exact ⟨this.1, by have := s1.2; have := s2.2; omega⟩
   · cases e; exact ⟨h, Nat.le_refl _⟩
theorem lv_sh {n : Nat} {F : Rd} (hF : ShF n F) (k : Nat) : ShF n (lv F k) := by
 intro d ts h hn x ts' e
 unfold lv at e
 split at e
 · cases e
 · rename_i y ts1 h1
   have s1 := hF d ts h hn y ts1 h1
   have := lp_sh hF k d _ _ _ _ _ s1.1 (by have := s1.2; omega) e
   exact ⟨this.1, by have := s1.2; omega⟩
theorem frm_sh {n : Nat} {F : Rd} (hF : ShF n F) : ShF n (frm F) := lv_sh (lv_sh (lv_sh (lv_sh hF 4) 3) 2) 1
theorem O_sh (n : Nat) : ShF n (O n) := by
 induction n with
 | zero => intro d ts h hn; exact absurd (h.pos) (by omega)
 | succ n ih => exact opn_sh (frm_sh ih) ih

open Go.RowKit
set_option maxHeartbeats 1000000

theorem lt_no {c : UInt8} (h1 : ¬ ((65 : Int) ≤ c.toNat ∧ (c.toNat : Int) ≤ 90)) (h2 : ¬ ((97 : Int) ≤ c.toNat ∧ (c.toNat : Int) ≤ 122)) : letB c = ((c.toNat : Int) == 36) := by
 unfold letB; rw [Bool.eq_iff_iff]; simp; omega
theorem lt_yes {c : UInt8} (h : ((65 : Int) ≤ c.toNat ∧ (c.toNat : Int) ≤ 90) ∨ ((97 : Int) ≤ c.toNat ∧ (c.toNat : Int) ≤ 122)) : letB c = true := by
 unfold letB; simp; omega
theorem run_at (p : UInt8 → Bool) (l : List UInt8) (k : Nat) (hk : k < l.length) : run p (l.drop k) = if p l[k] then run p (l.drop (k + 1)) + 1 else 0 := by
 rw [List.drop_eq_getElem_cons hk, run_cons]
theorem run_off (p : UInt8 → Bool) (l : List UInt8) (k : Nat) (hk : l.length ≤ k) : run p (l.drop k) = 0 := by
 rw [List.drop_eq_nil_of_le hk]; rfl
end Go.Proofs.YtjhmbkdkjgjoaaaDoor

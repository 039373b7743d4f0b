/-
  Values of cells as plain data: what a value is as, what it is shown as, turned, held against another, reckoned. No program in sight.
-/
import Derived.Test.YtdmiddpfgmbbhaaGreatDoorDecD
import Derived.Test.YtdmiddpfgmbbhaaGreatDoorDecK
import Derived.Test.YtdmiddpfgmbbhaaGreatDoorFixF
import Derived.Test.YtdmiddpfgmbbhaaGreatDoorFixD
import Derived.Lib.Bytealg
namespace Go.Proofs.YtdmiddpfgmbbhaaGreatDoor
open Go.RowKit

/-- A value that can be, without what plays no part. -/
inductive V where
  | blank
  | tf (b : Bool)
  | num (n : Int)
  | text (s : ByteArray)
  | err (e : Int)
/-- No bytes. -/
def noB : ByteArray := ⟨#[]⟩
/-- A struct of a value's four fields. -/
def rowV (k n : Int) (s : ByteArray) (e : Int) : Value := .agg #[.int .i64 k, .int .i64 n, .string s, .int .i64 e]
def V.dat : V → Value
  | .blank => .agg #[.int .i64 0, .int .i64 0, .string ⟨#[]⟩, .int .i64 0]
  | .tf b => .agg #[.int .i64 1, .int .i64 (if b then 1 else 0), .string ⟨#[]⟩, .int .i64 0]
  | .num n => .agg #[.int .i64 2, .int .i64 n, .string ⟨#[]⟩, .int .i64 0]
  | .text s => .agg #[.int .i64 3, .int .i64 0, .string s, .int .i64 0]
  | .err e => .agg #[.int .i64 4, .int .i64 0, .string ⟨#[]⟩, .int .i64 e]
def V.ok : V → Prop
  | .num n => I64 n ∧ canB n = true
  | .text s => s.size ≤ 300
  | .err e => 1 ≤ e ∧ e ≤ 5
  | _ => True
def mkErr (e : Int) : V := .err (if 1 ≤ e ∧ e ≤ 5 then e else 2)
def mkNum (n : Int) : V := if canB n then .num n else .err 4
def mkText (s : ByteArray) : V := if s.size ≤ 300 then .text s else .err 2
/-- What the fields are as. -/
def nm (k n : Int) (s : ByteArray) (e : Int) : V :=
  if k = 1 then .tf (n != 0) else if k = 2 then mkNum n else if k = 3 then mkText s else if k = 4 then mkErr e else .blank
theorem mkErr_ok (e : Int) : (mkErr e).ok := by unfold mkErr; show 1 ≤ _ ∧ _ ≤ (5 : Int); split <;> omega
theorem mkErr_is {e : Int} (h : 1 ≤ e ∧ e ≤ 5) : mkErr e = .err e := by unfold mkErr; rw [if_pos h]
theorem mkNum_ok (n : Int) (h : I64 n) : (mkNum n).ok := by
  unfold mkNum; split
  · exact ⟨h, by assumption⟩
  · exact ⟨by decide, by decide⟩
theorem mkNum_is {n : Int} (h : canB n = true) : mkNum n = .num n := by unfold mkNum; rw [if_pos h]
theorem mkText_ok (s : ByteArray) : (mkText s).ok := by
  unfold mkText; split
  · assumption
  · exact ⟨by decide, by decide⟩
theorem mkText_is {s : ByteArray} (h : s.size ≤ 300) : mkText s = .text s := by unfold mkText; rw [if_pos h]
theorem nm_ok (k n : Int) (s : ByteArray) (e : Int) (hn : I64 n) : (nm k n s e).ok := by
  unfold nm
  split
  · trivial
  · split
    · exact mkNum_ok n hn
    · split
      · exact mkText_ok s
      · split
        · exact mkErr_ok e
        · trivial
theorem nm_blank : nm 0 0 ⟨#[]⟩ 0 = .blank := rfl
theorem nm_tf (b : Bool) : nm 1 (if b then 1 else 0) ⟨#[]⟩ 0 = .tf b := by cases b <;> rfl
theorem nm_num {n : Int} (h : canB n = true) : nm 2 n ⟨#[]⟩ 0 = .num n := mkNum_is h
theorem nm_text {s : ByteArray} (h : s.size ≤ 300) : nm 3 0 s 0 = .text s := mkText_is h
theorem nm_err {e : Int} (h : 1 ≤ e ∧ e ≤ 5) : nm 4 0 ⟨#[]⟩ e = .err e := mkErr_is h

def trueL : List UInt8 := [84, 82, 85, 69]
def falseL : List UInt8 := [70, 65, 76, 83, 69]
def errName (e : Int) : List UInt8 :=
  if e = 1 then [35, 82, 69, 70, 33] else if e = 2 then [35, 86, 65, 76, 85, 69, 33] else if e = 3 then [35, 68, 73, 86, 47, 48, 33] else if e = 4 then [35, 78, 85, 77, 33] else if e = 5 then [35, 67, 89, 67, 76, 69, 33] else []
/-- The bytes of a list. -/
def bs (l : List UInt8) : ByteArray := ⟨l.toArray⟩
def V.shown : V → ByteArray
  | .blank => ⟨#[]⟩
  | .tf b => bs (if b then trueL else falseL)
  | .num n => bs (printL n)
  | .text s => s
  | .err e => bs (errName e)
/-- What a numeral says. -/
def readV (s : ByteArray) : V := if rdK s.data.toList = 1 then .num (rdV s.data.toList) else if rdK s.data.toList = 2 then .err 4 else .err 2
def V.toNum : V → V
  | .blank => .num 0
  | .tf b => .num (if b then 10000 else 0)
  | .text s => readV s
  | v => v
def V.toText : V → V
  | .err e => .err e
  | v => .text v.shown
def V.toBool : V → V
  | .blank => .tf false
  | .num n => .tf (n != 0)
  | .text s => if s.data.toList = trueL then .tf true else if s.data.toList = falseL then .tf false else .err 2
  | v => v
def V.neg (v : V) : V := match v.toNum with
  | .num n => .num (-n)
  | u => u
def toldR (b : Bool) (v : Int) : V := if b then mkNum v else .err 4
def reckon (op : Int) (x y : Int) : V :=
  if op = 43 then toldR (addB x y) (addV x y) else if op = 45 then toldR (subB x y) (subV x y) else if op = 42 then toldR (mulB x y) (mulV x y) else if y = 0 then .err 3 else toldR (divB x y) (divV x y)
def opB (op : Int) : Bool := op == 43 || op == 45 || op == 42 || op == 47
def arith2 (op : Int) : V → V → V
  | .err e, _ => .err e
  | _, .err e => .err e
  | .num x, .num y => reckon op x y
  | _, _ => .blank
def arith (op : Int) (a b : V) : V := if opB op then arith2 op a.toNum b.toNum else .err 2
def join2 : V → V → V
  | .err e, _ => .err e
  | _, .err e => .err e
  | .text s, .text t => mkText (s ++ t)
  | _, _ => .blank
def join (a b : V) : V := join2 a.toText b.toText
/-- What a cell's text is. -/
def nameE (l : List UInt8) : Int := if l = errName 1 then 1 else if l = errName 2 then 2 else if l = errName 3 then 3 else if l = errName 4 then 4 else if l = errName 5 then 5 else 0
def lit (s : ByteArray) : V :=
  if s.data.toList = [] then .blank
  else if s.data.toList.head? = some 39 then mkText (bs (s.data.toList.drop 1))
  else if rdK s.data.toList = 1 then .num (rdV s.data.toList)
  else if rdK s.data.toList = 2 then .err 4
  else if s.data.toList = trueL then .tf true
  else if s.data.toList = falseL then .tf false
  else if nameE s.data.toList ≠ 0 then .err (nameE s.data.toList)
  else mkText s

/-! ### Which is ahead -/
def sg3 (x y : Int) : Int := if x < y then -1 else if x > y then 1 else 0
def V.zeroOf : V → V
  | .num _ => .num 0
  | .text _ => .text ⟨#[]⟩
  | .tf _ => .tf false
  | v => v
def asBy (o v : V) : V := match v with
  | .blank => o.zeroOf
  | v => v
def rankV : V → Int
  | .num _ => 1
  | .text _ => 2
  | .tf _ => 3
  | _ => 0
def ord : V → V → Int
  | .num x, .num y => sg3 x y
  | .text s, .text t => Lib.compareBytes s.data.toList t.data.toList
  | .tf a, .tf b => sg3 (if a then 1 else 0) (if b then 1 else 0)
  | a, b => sg3 (rankV a) (rankV b)
def cmpV : V → V → Int
  | .err _, _ => 0
  | _, .err _ => 0
  | a, b => ord (asBy b a) (asBy a b)
def cmpE : V → V → V
  | .err e, _ => .err e
  | _, .err e => .err e
  | _, _ => .blank

theorem rdK_cases (l : List UInt8) : rdK l = 0 ∨ rdK l = 1 ∨ rdK l = 2 := by unfold rdK; split <;> (try split) <;> simp
theorem rdV_can (l : List UInt8) : I64 (rdV l) ∧ canB (rdV l) = true := by
  unfold rdV I64 canB
  split
  · rename_i h
    simp at h
    split <;> simp <;> omega
  · simp
theorem print_len (n : Int) (h : I64 n) : (printL n).length ≤ 25 := by
  obtain ⟨h1, h2⟩ := h
  cases hc : canB n
  · have : printL n = [110, 111, 110, 101] := by unfold printL; rw [hc]; rfl
    rw [this]; decide
  · rw [print_sgn n hc]
    obtain ⟨k, hk, hl⟩ := frac_back (n.natAbs % 10000) (Nat.mod_lt _ (by decide))
    have hd := dec_len (n.natAbs / 10000) 14 (by omega)
    have hb : (bodyL n.natAbs).length ≤ 20 := by
      unfold bodyL; rw [List.length_append]
      split
      · simp; omega
      · simp; omega
    unfold sgnL; split
    · simp; omega
    · omega
theorem bs_size (l : List UInt8) : (bs l).size = l.length := by unfold bs; rw [← size_list]
theorem bs_list (l : List UInt8) : (bs l).data.toList = l := rfl
theorem shown_size (v : V) (h : v.ok) : v.shown.size ≤ 300 := by
  cases v with
  | blank => decide
  | tf b => cases b <;> decide
  | num n => show (bs (printL n)).size ≤ 300; rw [bs_size]; exact Nat.le_trans (print_len n h.1) (by decide)
  | text s => exact h
  | err e =>
    show (bs (errName e)).size ≤ 300; rw [bs_size]; unfold errName
    repeat (first | (split; decide) | decide)
theorem readV_ok (s : ByteArray) : (readV s).ok := by
  unfold readV; split
  · exact rdV_can _
  · split <;> exact ⟨by decide, by decide⟩
theorem toNum_ok (v : V) (h : v.ok) : v.toNum.ok := by
  cases v with
  | blank => exact ⟨⟨by decide, by decide⟩, by decide⟩
  | tf b => cases b <;> exact ⟨⟨by decide, by decide⟩, by decide⟩
  | num n => exact h
  | text s => exact readV_ok s
  | err e => exact h
theorem toText_ok (v : V) (h : v.ok) : v.toText.ok := by
  cases v with
  | err e => exact h
  | blank => exact shown_size .blank h
  | tf b => exact shown_size (.tf b) h
  | num n => exact shown_size (.num n) h
  | text s => exact h
/-- A value as a number is a number or an error; as a text a text or an error. -/
theorem toNum_cases (v : V) (h : v.ok) : (∃ n, v.toNum = .num n ∧ I64 n ∧ canB n = true) ∨ (∃ e, v.toNum = .err e ∧ 1 ≤ e ∧ e ≤ 5) := by
  have k := toNum_ok v h
  cases v with
  | blank => exact .inl ⟨_, rfl, k⟩
  | tf b => exact .inl ⟨_, rfl, k⟩
  | num n => exact .inl ⟨_, rfl, k⟩
  | text s =>
    show (∃ n, readV s = .num n ∧ _) ∨ (∃ e, readV s = .err e ∧ _)
    unfold readV
    split
    · exact .inl ⟨_, rfl, rdV_can _⟩
    · split
      · exact .inr ⟨_, rfl, by decide, by decide⟩
      · exact .inr ⟨_, rfl, by decide, by decide⟩
  | err e => exact .inr ⟨_, rfl, h⟩
theorem toText_cases (v : V) (h : v.ok) : (∃ s, v.toText = .text s ∧ s.size ≤ 300) ∨ (∃ e, v.toText = .err e ∧ 1 ≤ e ∧ e ≤ 5) := by
  cases v with
  | err e => exact .inr ⟨_, rfl, h⟩
  | blank => exact .inl ⟨_, rfl, shown_size .blank h⟩
  | tf b => exact .inl ⟨_, rfl, shown_size (.tf b) h⟩
  | num n => exact .inl ⟨_, rfl, shown_size (.num n) h⟩
  | text s => exact .inl ⟨_, rfl, h⟩
theorem neg_can (n : Int) (h : I64 n) (c : canB n = true) : I64 (-n) ∧ canB (-n) = true := by
  obtain ⟨_, _⟩ := h
  have : n ≠ -9223372036854775808 := by simpa [canB] using c
  refine ⟨⟨by omega, by omega⟩, ?_⟩
  unfold canB; simp; omega

/-! ### The order -/
theorem sg3_anti (x y : Int) : sg3 y x = -sg3 x y := by unfold sg3; split <;> split <;> (try split) <;> (try split) <;> omega
theorem cb_anti (a b : List UInt8) : Lib.compareBytes b a = -Lib.compareBytes a b := by
  induction a generalizing b with
  | nil => cases b <;> rfl
  | cons x a ih =>
    cases b with
    | nil => rfl
    | cons y b =>
      unfold Lib.compareBytes
      by_cases h1 : x < y
      · have h2 : ¬ y < x := fun h => UInt8.lt_irrefl x (UInt8.lt_trans h1 h)
        simp [h1, h2]
      · by_cases h2 : y < x
        · simp [h1, h2]
        · simp [h1, h2, ih]
theorem cb_range (a b : List UInt8) : Lib.compareBytes a b = -1 ∨ Lib.compareBytes a b = 0 ∨ Lib.compareBytes a b = 1 := by
  induction a generalizing b with
  | nil => cases b <;> simp [Lib.compareBytes]
  | cons x a ih =>
    cases b with
    | nil => simp [Lib.compareBytes]
    | cons y b => unfold Lib.compareBytes; split; · simp
                  split; · simp
                  exact ih b
theorem cb_zero (a b : List UInt8) (h : Lib.compareBytes a b = 0) : a = b := by
  induction a generalizing b with
  | nil => cases b with
    | nil => rfl
    | cons => simp [Lib.compareBytes] at h
  | cons x a ih =>
    cases b with
    | nil => simp [Lib.compareBytes] at h
    | cons y b =>
      unfold Lib.compareBytes at h
      by_cases h1 : x < y
      · simp [h1] at h
      · by_cases h2 : y < x
        · simp [h1, h2] at h
        · simp only [h1, h2, if_false] at h
          have : x = y := UInt8.le_antisymm (UInt8.not_lt.1 h2) (UInt8.not_lt.1 h1)
          rw [this, ih b h]
theorem cb_self (a : List UInt8) : Lib.compareBytes a a = 0 := by
  induction a with
  | nil => rfl
  | cons x a ih => unfold Lib.compareBytes; simp [UInt8.lt_irrefl, ih]
theorem cb_trans (a b c : List UInt8) (h1 : Lib.compareBytes a b = -1) (h2 : Lib.compareBytes b c = -1) : Lib.compareBytes a c = -1 := by
  induction a generalizing b c with
  | nil =>
    cases c with
    | nil => cases b with
      | nil => simp [Lib.compareBytes] at h1
      | cons => simp [Lib.compareBytes] at h2
    | cons => rfl
  | cons x a ih =>
    cases b with
    | nil => simp [Lib.compareBytes] at h1
    | cons y b =>
      cases c with
      | nil => simp [Lib.compareBytes] at h2
      | cons z c =>
        unfold Lib.compareBytes at h1 h2 ⊢
        by_cases p : x < y
        · by_cases q : y < z
          · simp [UInt8.lt_trans p q]
          · by_cases q' : z < y
            · simp [q, q'] at h2
            · have : y = z := UInt8.le_antisymm (UInt8.not_lt.1 q') (UInt8.not_lt.1 q)
              rw [← this]; simp [p]
        · by_cases p' : y < x
          · simp [p, p'] at h1
          · have e : x = y := UInt8.le_antisymm (UInt8.not_lt.1 p') (UInt8.not_lt.1 p)
            simp only [p, p', if_false] at h1
            subst e
            by_cases q : x < z
            · simp [q]
            · by_cases q' : z < x
              · simp [q, q'] at h2
              · simp only [q, q', if_false] at h2 ⊢
                exact ih b c h1 h2
end Go.Proofs.YtdmiddpfgmbbhaaGreatDoor

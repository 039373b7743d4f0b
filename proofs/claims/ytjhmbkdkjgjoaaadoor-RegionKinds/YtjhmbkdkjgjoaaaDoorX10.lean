/-
 The contracts of Known, of package parse and of the document.
 The contracts of Known and binds (Power), of package parse and of the document.
 What is read of words hangs on no place; and of words that another closing bracket or comma ends, the same is read as at the end, or they lie too deep. Plain mathematics: no program in sight.
 The contract of reference.
-/
import Derived.Test.YtjhmbkdkjgjoaaaDoorX1
import Derived.Test.YtjhmbkdkjgjoaaaDoorX6
import Derived.Test.YtjhmbkdkjgjoaaaDoorX9
import Derived.Test.YtjhmbkdkjgjoaaaDoorX7
namespace Go.Proofs.YtjhmbkdkjgjoaaaDoor
open Go.RowKit
set_option maxHeartbeats 1000000

theorem rknown_any (s : ByteArray) (w : World) :
   Calls Tryd.prog 69 #[.string s] w fun e w' => e = .returned (.tuple #[.int .i64 (knA s.data.toList), .int .i64 (knB s.data.toList), .bool (kno s.data.toList).isSome]) ∧ w' = w := by
 have hs := ByteArray.toList_eq s
 obtain ⟨l, hl⟩ : ∃ l, s.data.toList = l := ⟨_, rfl⟩
 rw [hl] at hs ⊢
 clear hl
 by_cases h0 : l = [83, 85, 77]
 · subst h0
   have e0 : (s.toList == [83, 85, 77]) = true := by rw [hs]; decide
   clear hs 
   go_enter Tryd.func69, Tryd.ntmps69
   go_wp2_with fail
   go_ret3
   exact ⟨rfl, rfl⟩
 have e0 : (s.toList == [83, 85, 77]) = false := by rw [hs]; simpa using h0
 by_cases h1 : l = [67, 79, 85, 78, 84]
 · subst h1
   have e1 : (s.toList == [67, 79, 85, 78, 84]) = true := by rw [hs]; decide
   clear hs h0
   go_enter Tryd.func69, Tryd.ntmps69
   go_wp2_with fail
   go_ret3
   exact ⟨rfl, rfl⟩
 have e1 : (s.toList == [67, 79, 85, 78, 84]) = false := by rw [hs]; simpa using h1
 by_cases h2 : l = [77, 73, 78]
 · subst h2
   have e2 : (s.toList == [77, 73, 78]) = true := by rw [hs]; decide
   clear hs h0 h1
   go_enter Tryd.func69, Tryd.ntmps69
   go_wp2_with fail
   go_ret3
   exact ⟨rfl, rfl⟩
 have e2 : (s.toList == [77, 73, 78]) = false := by rw [hs]; simpa using h2
 by_cases h3 : l = [77, 65, 88]
 · subst h3
   have e3 : (s.toList == [77, 65, 88]) = true := by rw [hs]; decide
   clear hs h0 h1 h2
   go_enter Tryd.func69, Tryd.ntmps69
   go_wp2_with fail
   go_ret3
   exact ⟨rfl, rfl⟩
 have e3 : (s.toList == [77, 65, 88]) = false := by rw [hs]; simpa using h3
 by_cases h4 : l = [65, 86, 69, 82, 65, 71, 69]
 · subst h4
   have e4 : (s.toList == [65, 86, 69, 82, 65, 71, 69]) = true := by rw [hs]; decide
   clear hs h0 h1 h2 h3
   go_enter Tryd.func69, Tryd.ntmps69
   go_wp2_with fail
   go_ret3
   exact ⟨rfl, rfl⟩
 have e4 : (s.toList == [65, 86, 69, 82, 65, 71, 69]) = false := by rw [hs]; simpa using h4
 by_cases h5 : l = [65, 78, 68]
 · subst h5
   have e5 : (s.toList == [65, 78, 68]) = true := by rw [hs]; decide
   clear hs h0 h1 h2 h3 h4
   go_enter Tryd.func69, Tryd.ntmps69
   go_wp2_with fail
   go_ret3
   exact ⟨rfl, rfl⟩
 have e5 : (s.toList == [65, 78, 68]) = false := by rw [hs]; simpa using h5
 by_cases h6 : l = [79, 82]
 · subst h6
   have e6 : (s.toList == [79, 82]) = true := by rw [hs]; decide
   clear hs h0 h1 h2 h3 h4 h5
   go_enter Tryd.func69, Tryd.ntmps69
   go_wp2_with fail
   go_ret3
   exact ⟨rfl, rfl⟩
 have e6 : (s.toList == [79, 82]) = false := by rw [hs]; simpa using h6
 by_cases h7 : l = [67, 79, 78, 67, 65, 84]
 · subst h7
   have e7 : (s.toList == [67, 79, 78, 67, 65, 84]) = true := by rw [hs]; decide
   clear hs h0 h1 h2 h3 h4 h5 h6
   go_enter Tryd.func69, Tryd.ntmps69
   go_wp2_with fail
   go_ret3
   exact ⟨rfl, rfl⟩
 have e7 : (s.toList == [67, 79, 78, 67, 65, 84]) = false := by rw [hs]; simpa using h7
 by_cases h8 : l = [73, 70]
 · subst h8
   have e8 : (s.toList == [73, 70]) = true := by rw [hs]; decide
   clear hs h0 h1 h2 h3 h4 h5 h6 h7
   go_enter Tryd.func69, Tryd.ntmps69
   go_wp2_with fail
   go_ret3
   exact ⟨rfl, rfl⟩
 have e8 : (s.toList == [73, 70]) = false := by rw [hs]; simpa using h8
 by_cases h9 : l = [73, 78, 68, 69, 88]
 · subst h9
   have e9 : (s.toList == [73, 78, 68, 69, 88]) = true := by rw [hs]; decide
   clear hs h0 h1 h2 h3 h4 h5 h6 h7 h8
   go_enter Tryd.func69, Tryd.ntmps69
   go_wp2_with fail
   go_ret3
   exact ⟨rfl, rfl⟩
 have e9 : (s.toList == [73, 78, 68, 69, 88]) = false := by rw [hs]; simpa using h9
 by_cases h10 : l = [82, 79, 85, 78, 68]
 · subst h10
   have e10 : (s.toList == [82, 79, 85, 78, 68]) = true := by rw [hs]; decide
   clear hs h0 h1 h2 h3 h4 h5 h6 h7 h8 h9
   go_enter Tryd.func69, Tryd.ntmps69
   go_wp2_with fail
   go_ret3
   exact ⟨rfl, rfl⟩
 have e10 : (s.toList == [82, 79, 85, 78, 68]) = false := by rw [hs]; simpa using h10
 by_cases h11 : l = [77, 79, 68]
 · subst h11
   have e11 : (s.toList == [77, 79, 68]) = true := by rw [hs]; decide
   clear hs h0 h1 h2 h3 h4 h5 h6 h7 h8 h9 h10
   go_enter Tryd.func69, Tryd.ntmps69
   go_wp2_with fail
   go_ret3
   exact ⟨rfl, rfl⟩
 have e11 : (s.toList == [77, 79, 68]) = false := by rw [hs]; simpa using h11
 by_cases h12 : l = [73, 70, 69, 82, 82, 79, 82]
 · subst h12
   have e12 : (s.toList == [73, 70, 69, 82, 82, 79, 82]) = true := by rw [hs]; decide
   clear hs h0 h1 h2 h3 h4 h5 h6 h7 h8 h9 h10 h11
   go_enter Tryd.func69, Tryd.ntmps69
   go_wp2_with fail
   go_ret3
   exact ⟨rfl, rfl⟩
 have e12 : (s.toList == [73, 70, 69, 82, 82, 79, 82]) = false := by rw [hs]; simpa using h12
 by_cases h13 : l = [76, 69, 70, 84]
 · subst h13
   have e13 : (s.toList == [76, 69, 70, 84]) = true := by rw [hs]; decide
   clear hs h0 h1 h2 h3 h4 h5 h6 h7 h8 h9 h10 h11 h12
   go_enter Tryd.func69, Tryd.ntmps69
   go_wp2_with fail
   go_ret3
   exact ⟨rfl, rfl⟩
 have e13 : (s.toList == [76, 69, 70, 84]) = false := by rw [hs]; simpa using h13
 by_cases h14 : l = [78, 79, 84]
 · subst h14
   have e14 : (s.toList == [78, 79, 84]) = true := by rw [hs]; decide
   clear hs h0 h1 h2 h3 h4 h5 h6 h7 h8 h9 h10 h11 h12 h13
   go_enter Tryd.func69, Tryd.ntmps69
   go_wp2_with fail
   go_ret3
   exact ⟨rfl, rfl⟩
 have e14 : (s.toList == [78, 79, 84]) = false := by rw [hs]; simpa using h14
 by_cases h15 : l = [65, 66, 83]
 · subst h15
   have e15 : (s.toList == [65, 66, 83]) = true := by rw [hs]; decide
   clear hs h0 h1 h2 h3 h4 h5 h6 h7 h8 h9 h10 h11 h12 h13 h14
   go_enter Tryd.func69, Tryd.ntmps69
   go_wp2_with fail
   go_ret3
   exact ⟨rfl, rfl⟩
 have e15 : (s.toList == [65, 66, 83]) = false := by rw [hs]; simpa using h15
 by_cases h16 : l = [70, 76, 79, 79, 82]
 · subst h16
   have e16 : (s.toList == [70, 76, 79, 79, 82]) = true := by rw [hs]; decide
   clear hs h0 h1 h2 h3 h4 h5 h6 h7 h8 h9 h10 h11 h12 h13 h14 h15
   go_enter Tryd.func69, Tryd.ntmps69
   go_wp2_with fail
   go_ret3
   exact ⟨rfl, rfl⟩
 have e16 : (s.toList == [70, 76, 79, 79, 82]) = false := by rw [hs]; simpa using h16
 by_cases h17 : l = [83, 81, 82, 84]
 · subst h17
   have e17 : (s.toList == [83, 81, 82, 84]) = true := by rw [hs]; decide
   clear hs h0 h1 h2 h3 h4 h5 h6 h7 h8 h9 h10 h11 h12 h13 h14 h15 h16
   go_enter Tryd.func69, Tryd.ntmps69
   go_wp2_with fail
   go_ret3
   exact ⟨rfl, rfl⟩
 have e17 : (s.toList == [83, 81, 82, 84]) = false := by rw [hs]; simpa using h17
 by_cases h18 : l = [76, 69, 78]
 · subst h18
   have e18 : (s.toList == [76, 69, 78]) = true := by rw [hs]; decide
   clear hs h0 h1 h2 h3 h4 h5 h6 h7 h8 h9 h10 h11 h12 h13 h14 h15 h16 h17
   go_enter Tryd.func69, Tryd.ntmps69
   go_wp2_with fail
   go_ret3
   exact ⟨rfl, rfl⟩
 have e18 : (s.toList == [76, 69, 78]) = false := by rw [hs]; simpa using h18
 by_cases h19 : l = [73, 83, 69, 82, 82, 79, 82]
 · subst h19
   have e19 : (s.toList == [73, 83, 69, 82, 82, 79, 82]) = true := by rw [hs]; decide
   clear hs h0 h1 h2 h3 h4 h5 h6 h7 h8 h9 h10 h11 h12 h13 h14 h15 h16 h17 h18
   go_enter Tryd.func69, Tryd.ntmps69
   go_wp2_with fail
   go_ret3
   exact ⟨rfl, rfl⟩
 have e19 : (s.toList == [73, 83, 69, 82, 82, 79, 82]) = false := by rw [hs]; simpa using h19
 have HK : Hid (kno l = none) := by show _ = _; simp [kno, kn1, kn2, kn3, kn4, kn5, h0, h1, h2, h3, h4, h5, h6, h7, h8, h9, h10, h11, h12, h13, h14, h15, h16, h17, h18, h19]
 clear hs h0 h1 h2 h3 h4 h5 h6 h7 h8 h9 h10 h11 h12 h13 h14 h15 h16 h17 h18 h19
 go_enter Tryd.func69, Tryd.ntmps69
 go_wp2_with fail
 go_ret3
 unfold knA knB
 rw [HK.out]
 exact ⟨rfl, rfl⟩

open Go.RowKit
set_option maxHeartbeats 1000000

theorem rpow8_any (s : ByteArray) (w : World) :
   Calls Tryd.prog 36 #[.string s] w fun e w' => e = .returned (.int .i64 ((bnd s.data.toList : Nat) : Int)) ∧ w' = w := by
 have hs := ByteArray.toList_eq s
 obtain ⟨l, hl⟩ : ∃ l, s.data.toList = l := ⟨_, rfl⟩
 rw [hl] at hs ⊢
 clear hl
 by_cases h0 : l = [61]
 · subst h0
   have e0 : (s.toList == [61]) = true := by rw [hs]; decide
   clear hs 
   go_enter Tryd.func36, Tryd.ntmps36
   go_wp2_with fail
   go_ret
   exact ⟨rfl, rfl⟩
 have e0 : (s.toList == [61]) = false := by rw [hs]; simpa using h0
 by_cases h1 : l = [60, 62]
 · subst h1
   have e1 : (s.toList == [60, 62]) = true := by rw [hs]; decide
   clear hs h0
   go_enter Tryd.func36, Tryd.ntmps36
   go_wp2_with fail
   go_ret
   exact ⟨rfl, rfl⟩
 have e1 : (s.toList == [60, 62]) = false := by rw [hs]; simpa using h1
 by_cases h2 : l = [60]
 · subst h2
   have e2 : (s.toList == [60]) = true := by rw [hs]; decide
   clear hs h0 h1
   go_enter Tryd.func36, Tryd.ntmps36
   go_wp2_with fail
   go_ret
   exact ⟨rfl, rfl⟩
 have e2 : (s.toList == [60]) = false := by rw [hs]; simpa using h2
 by_cases h3 : l = [60, 61]
 · subst h3
   have e3 : (s.toList == [60, 61]) = true := by rw [hs]; decide
   clear hs h0 h1 h2
   go_enter Tryd.func36, Tryd.ntmps36
   go_wp2_with fail
   go_ret
   exact ⟨rfl, rfl⟩
 have e3 : (s.toList == [60, 61]) = false := by rw [hs]; simpa using h3
 by_cases h4 : l = [62]
 · subst h4
   have e4 : (s.toList == [62]) = true := by rw [hs]; decide
   clear hs h0 h1 h2 h3
   go_enter Tryd.func36, Tryd.ntmps36
   go_wp2_with fail
   go_ret
   exact ⟨rfl, rfl⟩
 have e4 : (s.toList == [62]) = false := by rw [hs]; simpa using h4
 by_cases h5 : l = [62, 61]
 · subst h5
   have e5 : (s.toList == [62, 61]) = true := by rw [hs]; decide
   clear hs h0 h1 h2 h3 h4
   go_enter Tryd.func36, Tryd.ntmps36
   go_wp2_with fail
   go_ret
   exact ⟨rfl, rfl⟩
 have e5 : (s.toList == [62, 61]) = false := by rw [hs]; simpa using h5
 by_cases h6 : l = [38]
 · subst h6
   have e6 : (s.toList == [38]) = true := by rw [hs]; decide
   clear hs h0 h1 h2 h3 h4 h5
   go_enter Tryd.func36, Tryd.ntmps36
   go_wp2_with fail
   go_ret
   exact ⟨rfl, rfl⟩
 have e6 : (s.toList == [38]) = false := by rw [hs]; simpa using h6
 by_cases h7 : l = [43]
 · subst h7
   have e7 : (s.toList == [43]) = true := by rw [hs]; decide
   clear hs h0 h1 h2 h3 h4 h5 h6
   go_enter Tryd.func36, Tryd.ntmps36
   go_wp2_with fail
   go_ret
   exact ⟨rfl, rfl⟩
 have e7 : (s.toList == [43]) = false := by rw [hs]; simpa using h7
 by_cases h8 : l = [45]
 · subst h8
   have e8 : (s.toList == [45]) = true := by rw [hs]; decide
   clear hs h0 h1 h2 h3 h4 h5 h6 h7
   go_enter Tryd.func36, Tryd.ntmps36
   go_wp2_with fail
   go_ret
   exact ⟨rfl, rfl⟩
 have e8 : (s.toList == [45]) = false := by rw [hs]; simpa using h8
 by_cases h9 : l = [42]
 · subst h9
   have e9 : (s.toList == [42]) = true := by rw [hs]; decide
   clear hs h0 h1 h2 h3 h4 h5 h6 h7 h8
   go_enter Tryd.func36, Tryd.ntmps36
   go_wp2_with fail
   go_ret
   exact ⟨rfl, rfl⟩
 have e9 : (s.toList == [42]) = false := by rw [hs]; simpa using h9
 by_cases h10 : l = [47]
 · subst h10
   have e10 : (s.toList == [47]) = true := by rw [hs]; decide
   clear hs h0 h1 h2 h3 h4 h5 h6 h7 h8 h9
   go_enter Tryd.func36, Tryd.ntmps36
   go_wp2_with fail
   go_ret
   exact ⟨rfl, rfl⟩
 have e10 : (s.toList == [47]) = false := by rw [hs]; simpa using h10
 have HK : Hid (bnd l = 0) := by show _ = _; simp [bnd, bd1, h0, h1, h2, h3, h4, h5, h6, h7, h8, h9, h10]
 clear hs h0 h1 h2 h3 h4 h5 h6 h7 h8 h9 h10
 go_enter Tryd.func36, Tryd.ntmps36
 go_wp2_with fail
 go_ret
 exact ⟨ret_int (by rw [HK.out]; rfl), rfl⟩

open Go.RowKit

/-- The same words up to the end, whatever their places; in place of the end tl. -/
inductive Rt (tl : List Tk) : List Tk → List Tk → Prop
 | nil (e : Tk) : e.1 = 5 → Rt tl [e] tl
 | cons (t t' : Tk) (ts ts' : List Tk) : t.1 ≠ 5 → t'.1 = t.1 → t'.2.2 = t.2.2 → Rt tl ts ts' → Rt tl (t :: ts) (t' :: ts')
/-- What may stand in place of the end: the end; or a closing bracket, a comma. -/
def Stp (z : Bool) (tl : List Tk) : Prop := if z then ∃ e, tl = [e] ∧ e.1 = 5 else ∃ t r, tl = t :: r ∧ t.1 = 3 ∧ (t.2.2.1 = [41] ∨ t.2.2.1 = [44])
def DD (z : Bool) (d d' : Nat) : Prop := d ≤ d' ∧ (z = true → d' = d)
def RG {α β : Type} (z : Bool) (N : α → Prop) (P : α → β → Prop) (r : Except Ft α) (r' : Except Ft β) : Prop := match r with
 | .ok x => N x ∨ (∃ x', r' = .ok x' ∧ P x x') ∨ (z = false ∧ ∃ p, r' = .error (p, true))
 | .error e => z = true → ∃ p, r' = .error (p, e.2)
def no {α : Type} : α → Prop := fun _ => False
theorem RG.long {α β : Type} {z : Bool} {N : α → Prop} {P : α → β → Prop} {r : Except Ft α} (hz : z = false) (p : Int) : RG z N P r (.error (p, true)) := by
 cases r with
 | ok x => exact .inr (.inr ⟨hz, p, rfl⟩)
 | error e => intro h; rw [hz] at h; cases h
theorem RG.ok {α β : Type} {z : Bool} {N : α → Prop} {P : α → β → Prop} {x : α} {x' : β} (h : P x x') : RG z N P (.ok x) (.ok x') := .inr (.inl ⟨x', rfl, h⟩)
theorem RG.err {α β : Type} {z : Bool} {N : α → Prop} {P : α → β → Prop} {e e' : Ft} (h : e'.2 = e.2) : RG z N P (.error e) (.error e') := fun _ => ⟨e'.1, by rw [← h]⟩
theorem RG.off {α β : Type} {z : Bool} {N : α → Prop} {P : α → β → Prop} {e : Ft} {r' : Except Ft β} (h : z = false) : RG z N P (.error e) r' := by intro h1; rw [h] at h1; cases h1
/-- One reading behind another. -/
theorem RG.then {α β γ δ : Type} {z : Bool} {N : α → Prop} {P : α → β → Prop} {N2 : γ → Prop} {P2 : γ → δ → Prop} {r : Except Ft α} {r' : Except Ft β} {f : α → Except Ft γ} {f' : β → Except Ft δ}
   (h : RG z N P r r') (hN : ∀ x, r = .ok x → N x → ∀ y', RG z N2 P2 (f x) y') (hf : ∀ x x', r = .ok x → P x x' → RG z N2 P2 (f x) (f' x')) : RG z N2 P2 (r.bind f) (r'.bind f') := by
 cases r with
 | error e =>
   intro hz
   obtain ⟨p, rfl⟩ := h hz
   exact ⟨p, rfl⟩
 | ok x =>
   rcases h with h | ⟨x', rfl, h⟩ | ⟨hz, p, rfl⟩
   · exact hN x rfl h _
   · exact hf x x' rfl h
   · exact RG.long hz p
/-! ### The readings as one behind another -/
/-! ### Heads -/
theorem Rt.len {tl ts ts' : List Tk} (h : Rt tl ts ts') : ts'.length + 1 = ts.length + tl.length := by
 induction h with
 | nil e h => simp; omega
 | cons t t' ts ts' h1 h2 h3 h4 ih => simp; omega
theorem Rt.nz {tl ts ts' : List Tk} (h : Rt tl ts ts') : Nz ts := by
 induction h with
 | nil e h => exact ⟨[], e, rfl, h⟩
 | cons t t' ts ts' h1 h2 h3 h4 ih =>
   obtain ⟨pre, x, rfl, hx⟩ := ih
   exact ⟨t :: pre, x, rfl, hx⟩
theorem Rt.ends {z : Bool} {tl ts ts' : List Tk} (h : Rt tl ts ts') (hS : Stp z tl) (h5 : (hd ts).1 = 5) : ts' = tl ∧ (z = true → (hd ts').1 = 5) ∧ (z = false → (hd ts').1 = 3 ∧ ((hd ts').2.2.1 = [41] ∨ (hd ts').2.2.1 = [44])) := by
 cases h with
 | nil e h =>
   refine ⟨rfl, ?_, ?_⟩
   · intro hz; subst hz
     obtain ⟨x, rfl, hx⟩ := hS
     exact hx
   · intro hz; subst hz
     obtain ⟨t, r, rfl, h1, h2⟩ := hS
     exact ⟨h1, h2⟩
 | cons t t' ts ts' h1 h2 h3 h4 => exact absurd h5 h1
def Pt {α : Type} (tl : List Tk) (a b : α × List Tk) : Prop := b.1 = a.1 ∧ Rt tl a.2 b.2
def RF (z : Bool) (tl : List Tk) (n m : Nat) (F F' : Rd) : Prop := ∀ d d' ts ts', DD z d d' → Rt tl ts ts' → ts.length ≤ n → ts'.length ≤ m → RG z no (Pt tl) (F d ts) (F' d' ts')
/-- .. where nothing is said of what is read up to the end. -/
def RW (z : Bool) (tl : List Tk) (n m : Nat) (F F' : Rd) : Prop := ∀ d d' ts ts', DD z d d' → Rt tl ts ts' → ts.length ≤ n → ts'.length ≤ m → RG z (fun x => z = false ∧ (hd x.2).1 = 5) (Pt tl) (F d ts) (F' d' ts')
theorem RF.weak {z : Bool} {tl : List Tk} {n m : Nat} {F F' : Rd} (h : RF z tl n m F F') : RW z tl n m F F' := by
 intro d d' ts ts' h1 h2 h3 h4
 have k := h d d' ts ts' h1 h2 h3 h4
 unfold RG at k ⊢
 split
 · rename_i x hx
   rw [hx] at k
   exact .inr (k.resolve_left (fun h => h.elim))
 · rename_i x hx
   rw [hx] at k
   exact k
theorem DD.up {z : Bool} {d d' : Nat} (h : DD z d d') : DD z (d + 1) (d' + 1) := ⟨Nat.succ_le_succ h.1, fun e => by rw [h.2 e]⟩

open Go.RowKit
set_option maxHeartbeats 1000000

theorem Blk.extB {b g : Nat} {w w' : World} {x0 x1 x2 x3 : Value} (h : Blk w g x0 x1 x2 x3) (e : ExtB b w w') (hg : g ≠ b) : Blk w' g x0 x1 x2 x3 := by
 obtain ⟨z, ⟨k0, k1, k2, k3⟩, f0, f1, f2, f3⟩ := h
 have k := fun o => (e.cell z hg o).1
 have f := fun o => (e.cell z hg o).2
 exact ⟨Nat.lt_of_lt_of_le z e.size, ⟨(k 0).trans k0, (k 1).trans k1, (k 2).trans k2, (k 3).trans k3⟩, (f 0).trans f0, (f 1).trans f1, (f 2).trans f2, (f 3).trans f3⟩
theorem hd_mem {ts : List Tk} (h : 1 ≤ ts.length) : hd ts ∈ ts := by
 cases ts with
 | nil => simp at h
 | cons t r => simp [hd]
end Go.Proofs.YtjhmbkdkjgjoaaaDoor

/-
  Formulas as words, as lists of bytes: which word begins a text, and which words a text has. Plain mathematics: no program in sight.
-/
import Derived.Test.YtfppjnigbodphaaDoorDec
namespace Go.Proofs.YtfppjnigbodphaaDoor
open Go.RowKit

def bs (l : List UInt8) : ByteArray := ⟨l.toArray⟩
theorem bs_list (l : List UInt8) : (bs l).data.toList = l := rfl
theorem bs_of (q : ByteArray) : bs q.data.toList = q := rfl
theorem bs_size (l : List UInt8) : (bs l).size = l.length := by simp [bs, ByteArray.size]

/-- A letter or $; what a word goes on with; how many bytes of a kind there are. -/
def ltB (c : UInt8) : Bool := decide (65 ≤ c.toNat ∧ c.toNat ≤ 90 ∨ 97 ≤ c.toNat ∧ c.toNat ≤ 122 ∨ c.toNat = 36)
def inW (c : UInt8) : Bool := ltB c || dgB c || c == 95
def blB (c : UInt8) : Bool := c == 32
def run (p : UInt8 → Bool) (l : List UInt8) : Nat := (l.takeWhile p).length
/-- Where a number ends. -/
def numE (l : List UInt8) : Nat :=
  if l[run dgB l]? = some 46 ∧ 0 < run dgB (l.drop (run dgB l + 1)) then run dgB l + 1 + run dgB (l.drop (run dgB l + 1)) else run dgB l
/-- What stands behind a quote, up to the one that ends it; and how many bytes that is. -/
def txt : List UInt8 → Option (List UInt8 × Nat)
  | [] => none
  | [c] => if c = 34 then some ([], 1) else none
  | c :: d :: r => if c = 34 then (if d = 34 then (txt r).map (fun x => (34 :: x.1, x.2 + 2)) else some ([], 1)) else (txt (d :: r)).map (fun x => (c :: x.1, x.2 + 1))
def errsL : List (Int × List UInt8) := [(1, [35, 82, 69, 70, 33]), (2, [35, 86, 65, 76, 85, 69, 33]), (3, [35, 68, 73, 86, 47, 48, 33]), (4, [35, 78, 85, 77, 33]), (5, [35, 67, 89, 67, 76, 69, 33])]
def errT (l : List UInt8) : Option (Int × List UInt8) := errsL.find? (fun x => x.2.isPrefixOf l)
def sgsL : List (List UInt8) := [[60, 62], [60, 61], [62, 61], [60], [62], [61], [43], [45], [42], [47], [38], [40], [41], [44], [58]]
def sgT (l : List UInt8) : Option (List UInt8) := sgsL.find? (fun p => p.isPrefixOf l)

/-- The word that a text begins with: its kind, its text, its number, its error, its length; or why there is none. -/
abbrev Wd := Int × List UInt8 × Int × Int × Nat
def numR (l : List UInt8) : Except Int Wd := if rdK (l.take (numE l)) = 0 then .error 4 else if rdK (l.take (numE l)) = 2 then .error 2 else .ok (0, [], rdV (l.take (numE l)), 0, numE l)
def txtR (l : List UInt8) : Except Int Wd := match txt l.tail with
  | none => .error 4
  | some x => .ok (1, x.1, 0, 0, x.2 + 1)
def wdR (l : List UInt8) : Except Int Wd := .ok (2, l.take (run inW l), 0, 0, run inW l)
def errR (l : List UInt8) : Except Int Wd := match errT l with
  | none => .error 4
  | some x => .ok (4, [], 0, x.1, x.2.length)
def sgR (l : List UInt8) : Except Int Wd := match sgT l with
  | none => .error 4
  | some p => .ok (3, p, 0, 0, p.length)
def nxt (l : List UInt8) : Except Int Wd :=
  match l.head? with
  | none => .error 4
  | some c => if dgB c then numR l else if c = 34 then txtR l else if ltB c then wdR l else if c = 35 then errR l else sgR l

/-- A word as it is told: its kind, its place, its text, its number, its error. -/
abbrev Tk := Int × Int × List UInt8 × Int × Int
def tkOf (x : Wd) (p : Nat) : Tk := (x.1, (p : Int), x.2.1, x.2.2.1, x.2.2.2.1)
def endT (p : Nat) : Tk := (5, (p : Int), [], 0, 0)
def wds : Nat → Nat → List UInt8 → Except (Nat × Int) (List Tk)
  | 0, _, _ => .ok []
  | _ + 1, p, [] => .ok [endT p]
  | f + 1, p, c :: r => if c = 32 then wds f (p + 1) r else
    match nxt (c :: r) with
    | .error e => .error (p, e)
    | .ok x => (wds f (p + x.2.2.2.2) ((c :: r).drop x.2.2.2.2)).map (fun ts => tkOf x p :: ts)
/-- The words of a text that begins at a place. -/
def W (p : Nat) (l : List UInt8) : Except (Nat × Int) (List Tk) := wds (l.length + 1) p l
/-- What is answered. -/
def lexR (l : List UInt8) : List Tk × Int × Int :=
  if 300 < l.length then ([], 0, 2) else match W 0 l with
    | .ok ts => (ts, 0, 0)
    | .error x => ([], (x.1 : Int), x.2)

theorem runL_le (p : UInt8 → Bool) (l : List UInt8) : run p l ≤ l.length := by
  unfold run; exact (List.takeWhile_prefix p).length_le
theorem run_cons (p : UInt8 → Bool) (c : UInt8) (l : List UInt8) : run p (c :: l) = if p c then run p l + 1 else 0 := by
  unfold run; rw [List.takeWhile_cons]; split <;> simp
theorem run_nil (p : UInt8 → Bool) : run p [] = 0 := rfl
theorem numE_le (l : List UInt8) : numE l ≤ l.length := by
  unfold numE
  split
  · rename_i h
    have h1 := runL_le dgB (l.drop (run dgB l + 1))
    have h2 : run dgB l < l.length := (List.getElem?_eq_some_iff.mp h.1).1
    simp at h1; omega
  · exact runL_le _ _
theorem numE_ge (l : List UInt8) : run dgB l ≤ numE l := by unfold numE; split <;> omega
theorem txt_le : ∀ (l : List UInt8) (x : List UInt8 × Nat), txt l = some x → 1 ≤ x.2 ∧ x.2 ≤ l.length
  | [], x, h => by simp [txt] at h
  | [c], x, h => by
    unfold txt at h
    split at h
    · cases h; simp
    · cases h
  | c :: d :: r, x, h => by
    unfold txt at h
    split at h
    · split at h
      · rw [Option.map_eq_some_iff] at h
        obtain ⟨y, hy, rfl⟩ := h
        have := txt_le r y hy
        simp; omega
      · cases h; simp
    · rw [Option.map_eq_some_iff] at h
      obtain ⟨y, hy, rfl⟩ := h
      have := txt_le (d :: r) y hy
      simp at this ⊢; omega
theorem errT_le {l : List UInt8} {x : Int × List UInt8} (h : errT l = some x) : 1 ≤ x.2.length ∧ x.2.length ≤ l.length := by
  unfold errT at h
  have h1 := List.find?_some h
  have h2 := List.mem_of_find?_eq_some h
  refine ⟨?_, ?_⟩
  · simp [errsL] at h2; rcases h2 with rfl | rfl | rfl | rfl | rfl <;> simp
  · exact (List.isPrefixOf_iff_prefix.mp h1).length_le
theorem sgT_le {l p : List UInt8} (h : sgT l = some p) : 1 ≤ p.length ∧ p.length ≤ l.length ∧ l.take p.length = p := by
  unfold sgT at h
  have h1 := List.find?_some h
  have h2 := List.mem_of_find?_eq_some h
  refine ⟨?_, (List.isPrefixOf_iff_prefix.mp h1).length_le, ?_⟩
  · simp [sgsL] at h2; rcases h2 with rfl | rfl | rfl | rfl | rfl | rfl | rfl | rfl | rfl | rfl | rfl | rfl | rfl | rfl | rfl <;> simp
  · obtain ⟨t, ht⟩ := List.isPrefixOf_iff_prefix.mp h1
    rw [← ht, List.take_left]
theorem nxt_cons (c : UInt8) (r : List UInt8) : nxt (c :: r) = if dgB c then numR (c :: r) else if c = 34 then txtR (c :: r) else if ltB c then wdR (c :: r) else if c = 35 then errR (c :: r) else sgR (c :: r) := rfl
theorem nxt_pos {l : List UInt8} {x : Wd} (h : nxt l = .ok x) : 1 ≤ x.2.2.2.2 ∧ x.2.2.2.2 ≤ l.length := by
  cases l with
  | nil => cases h
  | cons c r =>
    rw [nxt_cons] at h
    split at h
    · rename_i hd
      unfold numR at h
      split at h
      · cases h
      · split at h
        · cases h
        · cases h
          have h1 := numE_le (c :: r)
          have h2 := numE_ge (c :: r)
          rw [run_cons, if_pos hd] at h2
          exact ⟨by simp only []; omega, h1⟩
    · split at h
      · unfold txtR at h
        split at h
        · cases h
        · rename_i x hx
          cases h
          have := txt_le _ _ hx
          simp at this ⊢; omega
      · split at h
        · rename_i hl
          unfold wdR at h
          cases h
          have := runL_le inW (c :: r)
          refine ⟨?_, this⟩
          simp only [run_cons]
          rw [if_pos (by unfold inW; rw [hl]; rfl)]; omega
        · split at h
          · unfold errR at h
            split at h
            · cases h
            · rename_i x hx
              cases h
              exact errT_le hx
          · unfold sgR at h
            split at h
            · cases h
            · rename_i x hx
              cases h
              exact ⟨(sgT_le hx).1, (sgT_le hx).2.1⟩
/-- Fuel enough is fuel enough. -/
theorem wds_more (f : Nat) : ∀ (g p : Nat) (l : List UInt8), l.length < f → l.length < g → wds f p l = wds g p l := by
  induction f with
  | zero => intro g p l h; omega
  | succ f ih =>
    intro g p l hf hg
    cases g with
    | zero => omega
    | succ g =>
      cases l with
      | nil => rfl
      | cons c r =>
        unfold wds
        simp at hf hg
        split
        · exact ih g _ _ (by omega) (by omega)
        · split
          · rfl
          · rename_i x hx
            have h1 := nxt_pos hx
            simp at h1
            rw [ih g]
            · simp; omega
            · simp; omega
theorem W_nil (p : Nat) : W p [] = .ok [endT p] := rfl
theorem W_blank (p : Nat) (r : List UInt8) : W p (32 :: r) = W (p + 1) r := rfl
theorem W_cons (p : Nat) (c : UInt8) (r : List UInt8) (h : ¬ c = 32) : W p (c :: r) = match nxt (c :: r) with
    | .error e => .error (p, e)
    | .ok x => (W (p + x.2.2.2.2) ((c :: r).drop x.2.2.2.2)).map (fun ts => tkOf x p :: ts) := by
  unfold W
  conv => lhs; unfold wds
  rw [if_neg h]
  cases hx : nxt (c :: r) with
  | error e => rfl
  | ok x =>
    have h1 := nxt_pos hx
    simp at h1
    simp only []
    rw [wds_more _ (((c :: r).drop x.2.2.2.2).length + 1)]
    · simp; omega
    · simp
/-- Blanks ahead are passed over. -/
theorem W_run (p : Nat) (l : List UInt8) : W p l = W (p + run blB l) (l.drop (run blB l)) := by
  induction l generalizing p with
  | nil => rfl
  | cons c r ih =>
    rw [run_cons]
    by_cases h : c = 32
    · subst h
      rw [W_blank, ih (p + 1)]
      have e : p + 1 + run blB r = p + (run blB r + 1) := by omega
      simp [blB, e]
    · simp [blB, h]
theorem run_stop (q : UInt8 → Bool) (l : List UInt8) (c : UInt8) (h : l[run q l]? = some c) : q c = false := by
  induction l with
  | nil => simp at h
  | cons d r ih =>
    rw [run_cons] at h
    by_cases hd : q d = true
    · rw [if_pos hd] at h; exact ih (by simpa using h)
    · rw [if_neg hd] at h; simp at h; subst h; simpa using hd
end Go.Proofs.YtfppjnigbodphaaDoor

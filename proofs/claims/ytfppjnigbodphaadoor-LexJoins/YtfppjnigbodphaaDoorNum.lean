/-
  Plain arithmetic of 64 and 128 bits for the walks over package fix and the document's answers: no program in sight.
-/
import Derived.WalkKit
import Derived.WalkSpells
import Derived.Deep.QuietTactic
import Derived.BigQuiet
import Derived.Shelf.Spec.BitsCarry
import Derived.Deep.RegionHeld3
namespace Go.Proofs.YtfppjnigbodphaaDoor
open Go.RowKit

/-- Is it a number? (Every int64 but the least.) -/
def canB (a : Int) : Bool := a != -9223372036854775808
/-- A number without its sign. -/
def absI (a : Int) : Int := if a < 0 then -a else a
/-- The upper half of a in 128 bits. -/
def up64 (a : Int) : Int := if a < 0 then 18446744073709551615 else 0
/-- The borrow. -/
def bor (x y : Int) : Int := if x < y then 1 else 0
/-- x as a signed number of 64 bits. -/
def sg64 (x : Int) : Int := (x + 9223372036854775808) % 18446744073709551616 - 9223372036854775808
/-- x as an unsigned number of 64 bits. -/
def un64 (x : Int) : Int := x % 18446744073709551616
/-- The two halves of a sum. -/
def hiOf (x : Int) : Int := sg64 (x / 18446744073709551616)
def loOf (x : Int) : Int := x % 18446744073709551616
/-- An int64. -/
def I64 (a : Int) : Prop := -9223372036854775808 ≤ a ∧ a ≤ 9223372036854775807
/-- A uint64. -/
def U64 (a : Int) : Prop := 0 ≤ a ∧ a < 18446744073709551616

theorem i64_of_wf {x : Int} (h : (Lit.int .i64 x).wf = true) : I64 x := by
  simp [Lit.wf, IntKind.min, IntKind.max, IntKind.signed, IntKind.bits] at h
  exact ⟨by omega, by omega⟩
theorem u64_of_wf {x : Int} (h : (Lit.int .u64 x).wf = true) : U64 x := by
  simp [Lit.wf, IntKind.min, IntKind.max, IntKind.signed, IntKind.bits] at h
  exact ⟨by omega, by omega⟩
theorem u8_of_wf {x : Int} (h : (Lit.int .u8 x).wf = true) : 0 ≤ x ∧ x ≤ 255 := by
  simp [Lit.wf, IntKind.min, IntKind.max, IntKind.signed, IntKind.bits] at h
  exact ⟨by omega, by omega⟩

theorem ret_int {k : IntKind} {a b : Int} (h : a = b) : Ending.returned (.int k a) = .returned (.int k b) := by rw [h]
theorem ret_bool {a b : Bool} (h : a = b) : Ending.returned (.bool a) = .returned (.bool b) := by rw [h]
theorem ret_ib {k : IntKind} {a b : Int} {x y : Bool} (h : a = b) (g : x = y) : Ending.returned (.tuple #[.int k a, .bool x]) = .returned (.tuple #[.int k b, .bool y]) := by rw [h, g]
theorem ret_ii {k l : IntKind} {a b x y : Int} (h : a = b) (g : x = y) : Ending.returned (.tuple #[.int k a, .int l x]) = .returned (.tuple #[.int k b, .int l y]) := by rw [h, g]
theorem ret_agg {k l : IntKind} {a b x y : Int} (h : a = b) (g : x = y) : Ending.returned (.agg #[.int k a, .int l x]) = .returned (.agg #[.int k b, .int l y]) := by rw [h, g]

theorem wrapU (x : Int) : IntKind.u64.wrap x = x % 18446744073709551616 := IntKind.wrap_u64 x

theorem hiOf_mk (hi lo : Int) (h : I64 hi) (l : U64 lo) : hiOf (hi * 18446744073709551616 + lo) = hi := by
  obtain ⟨_, _⟩ := h; obtain ⟨_, _⟩ := l; unfold hiOf sg64; omega
theorem loOf_mk (hi lo : Int) (l : U64 lo) : loOf (hi * 18446744073709551616 + lo) = lo := by
  obtain ⟨_, _⟩ := l; unfold loOf; omega

def uhi (x : Int) : Int := (x / 18446744073709551616) % 18446744073709551616
theorem hi_bd (x : Int) : I64 (hiOf x) := by unfold hiOf sg64; exact ⟨by omega, by omega⟩
theorem lo_bd (x : Int) : U64 (loOf x) := by unfold loOf; exact ⟨by omega, by omega⟩
theorem uhi_bd (x : Int) : U64 (uhi x) := by unfold uhi; exact ⟨by omega, by omega⟩
theorem up_bd (a : Int) : 0 ≤ up64 a ∧ up64 a < 18446744073709551616 := by unfold up64; split <;> omega
theorem bor_bd (x y : Int) : 0 ≤ bor x y ∧ bor x y ≤ 1 := by unfold bor; split <;> omega
theorem plus_lo (x a : Int) : (loOf x + IntKind.u64.wrap a) % 18446744073709551616 = loOf (x + a) := by rw [wrapU]; unfold loOf; omega
theorem plus_hi (x a : Int) (h : I64 a) : wrap64 ((IntKind.u64.wrap (hiOf x) + up64 a + (loOf x + IntKind.u64.wrap a) / 18446744073709551616) % 18446744073709551616) = hiOf (x + a) := by
  obtain ⟨_, _⟩ := h
  simp only [wrapU]; unfold wrap64 hiOf loOf up64 sg64; split <;> omega
theorem less_lo (x a : Int) : (loOf x - IntKind.u64.wrap a) % 18446744073709551616 = loOf (x - a) := by rw [wrapU]; unfold loOf; omega
theorem less_hi (x a : Int) (h : I64 a) : wrap64 ((IntKind.u64.wrap (hiOf x) - up64 a - bor (loOf x) (IntKind.u64.wrap a)) % 18446744073709551616) = hiOf (x - a) := by
  obtain ⟨_, _⟩ := h
  simp only [wrapU]; unfold wrap64 hiOf loOf up64 sg64 bor; split <;> split <;> omega
theorem uhi_hiOf (x : Int) : IntKind.u64.wrap (hiOf x) = uhi x := by rw [wrapU]; unfold hiOf uhi sg64; omega
theorem hiOf_uhi (x : Int) : wrap64 (uhi x) = hiOf x := by unfold wrap64 hiOf uhi sg64; omega
theorem sg_lo (x : Int) : wrap64 (loOf x) = sg64 x := by unfold wrap64 loOf sg64; omega
theorem sg_bd (x : Int) : I64 (sg64 x) := by unfold sg64; exact ⟨by omega, by omega⟩

/-- The world behind a call: of what was there nothing has turned. -/
def Ext (w w' : World) : Prop := Below w.heap.size w w'
theorem Ext.refl (w : World) : Ext w w := Below.refl _ _
theorem Ext.trans {a b c : World} (h : Ext a b) (k : Ext b c) : Ext a c := Below.trans h (Below.mono k h.size)
theorem Ext.drew {a w : World} (h : Ext a w) : Ext a w.drew := Below.drew h
theorem Ext.drewN {a w : World} (h : Ext a w) (n : Nat) : Ext a (w.drewN n) := h.trans ⟨rfl, rfl, rfl, Nat.le_refl _, fun _ _ => rfl⟩
theorem Ext.alloc {a w : World} (h : Ext a w) (o : Obj) : Ext a (w.alloc o) := Below.alloc h h.size o
theorem Ext.setCell {a w : World} (h : Ext a w) {p : Addr} (hp : a.heap.size ≤ p.block) (u : Value) : Ext a (w.setCell p u) := Below.setCell h hp u
theorem Ext.cell {w w1 : World} (hb : Ext w w1) : (∀ b o, b < w.heap.size → w1.cell? ⟨b, o, none⟩ = w.cell? ⟨b, o, none⟩) ∧ (∀ b o, b < w.heap.size → w1.frozen? ⟨b, o, none⟩ = w.frozen? ⟨b, o, none⟩) :=
  ⟨fun b o h => Below.cell hb (p := ⟨b, o, none⟩) h, fun b o h => Below.frozen hb (p := ⟨b, o, none⟩) h⟩
theorem Ext.sz {w w' : World} (h : Ext w w') : w.heap.size ≤ w'.heap.size := h.size

/-- A sum as a number: is it one, and which. -/
def toldB (x : Int) : Bool := (uhi x == up64 (sg64 x)) && canB (sg64 x)
def toldV (x : Int) : Int := if toldB x then sg64 x else 0
/-- Is x a number? -/
def fitB (x : Int) : Bool := decide (-9223372036854775808 < x ∧ x < 9223372036854775808)
theorem toldB_eq (x : Int) (h : -36893488147419103232 ≤ x ∧ x ≤ 36893488147419103232) : toldB x = fitB x := by
  unfold toldB fitB canB
  rw [Bool.eq_iff_iff]
  simp
  unfold uhi up64 sg64
  constructor
  · rintro ⟨h1, h2⟩
    split at h1 <;> omega
  · intro h1
    constructor
    · split <;> omega
    · omega
theorem toldV_eq (x : Int) (h : -36893488147419103232 ≤ x ∧ x ≤ 36893488147419103232) : toldV x = if fitB x then x else 0 := by
  unfold toldV
  rw [toldB_eq x h]
  cases hf : fitB x
  · rfl
  · simp only [if_true]
    unfold fitB at hf
    simp at hf
    unfold sg64
    omega

/-! ### For regions that draw their order: a pair of cells, and that of what was there nothing has turned -/
theorem keep2 {w W w' : World} {b n : Nat} {u v : Value} (h : (Ext w W ∧ b + n < W.heap.size) ∧ W.cell? ⟨b, 0, none⟩ = some u ∧ W.cell? ⟨b, 1, none⟩ = some v) (e : Ext W w') :
    (Ext w w' ∧ b + n < w'.heap.size) ∧ w'.cell? ⟨b, 0, none⟩ = some u ∧ w'.cell? ⟨b, 1, none⟩ = some v :=
  ⟨⟨h.1.1.trans e, Nat.lt_of_lt_of_le h.1.2 e.size⟩, (e.cell.1 b 0 (by omega)).trans h.2.1, (e.cell.1 b 1 (by omega)).trans h.2.2⟩
theorem keepS {w W : World} {b m : Nat} {u v : Value} (h : (Ext w W ∧ b + m < W.heap.size) ∧ W.cell? ⟨b, 0, none⟩ = some u ∧ W.cell? ⟨b, 1, none⟩ = some v) {n o : Nat} {x : Value} (hn : w.heap.size < n) (hb : b < n) :
    (Ext w (W.setCell ⟨n, o, none⟩ x) ∧ b + m < (W.setCell ⟨n, o, none⟩ x).heap.size) ∧ (W.setCell ⟨n, o, none⟩ x).cell? ⟨b, 0, none⟩ = some u ∧ (W.setCell ⟨n, o, none⟩ x).cell? ⟨b, 1, none⟩ = some v :=
  ⟨⟨h.1.1.setCell (Nat.le_of_lt hn) _, by simpa [World.setCell] using h.1.2⟩, by rw [World.cell?_setCell_far _ _ _ _ (by simp; omega)]; exact h.2.1, by rw [World.cell?_setCell_far _ _ _ _ (by simp; omega)]; exact h.2.2⟩
end Go.Proofs.YtfppjnigbodphaaDoor

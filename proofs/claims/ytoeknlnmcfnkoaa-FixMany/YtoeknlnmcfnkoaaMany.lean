/-
  The walk of FixMany: a sum of many numbers, in and out, of the program and of the document's answers.
-/
import Derived.Test.YtoeknlnmcfnkoaaFixD
import Derived.Test.YtoeknlnmcfnkoaaFixF
import Derived.Deep.CutBlock
import Derived.Deep.DeepCutAuto
namespace Go.Proofs.Ytoeknlnmcfnkoaa
open Go.RowKit
set_option maxHeartbeats 1000000

/-- Block b holds the two values. -/
def Two (wr : World) (b : Nat) (u v : Value) : Prop :=
  b < wr.heap.size ∧ wr.cell? ⟨b, 0, none⟩ = some u ∧ wr.cell? ⟨b, 1, none⟩ = some v ∧ wr.frozen? ⟨b, 0, none⟩ = false ∧ wr.frozen? ⟨b, 1, none⟩ = false
theorem Two.ext {w w' : World} {b : Nat} {u v : Value} (h : Two w b u v) (e : Ext w w') : Two w' b u v := by
  obtain ⟨z, c0, c1, f0, f1⟩ := h
  exact ⟨Nat.lt_of_lt_of_le z e.size, (e.cell.1 b 0 z).trans c0, (e.cell.1 b 1 z).trans c1, (e.cell.2 b 0 z).trans f0, (e.cell.2 b 1 z).trans f1⟩
theorem Two.set {w : World} {b : Nat} {u v : Value} (h : Two w b u v) (u' v' : Value) : Two ((w.setCell ⟨b, 0, none⟩ u').setCell ⟨b, 1, none⟩ v') b u' v' := by
  obtain ⟨z, c0, c1, f0, f1⟩ := h
  have c0' := World.cell?_setCell_same w ⟨b, 0, none⟩ u' (by rw [c0])
  have c1' : (w.setCell ⟨b, 0, none⟩ u').cell? ⟨b, 1, none⟩ = some v := by
    rw [World.cell?_setCell_other _ _ _ _ (by simp)]; exact c1
  refine ⟨by simpa [World.setCell] using z, ?_, ?_, ?_, ?_⟩
  · rw [World.cell?_setCell_other _ _ _ _ (by simp)]; exact c0'
  · exact World.cell?_setCell_same _ ⟨b, 1, none⟩ _ (by rw [c1'])
  · rw [World.frozen?_setCell, World.frozen?_setCell]; exact f0
  · rw [World.frozen?_setCell, World.frozen?_setCell]; exact f1
theorem Two.far {w : World} {b c : Nat} {u v : Value} (h : Two w b u v) (hc : c ≠ b) (o : Nat) (x : Value) : Two (w.setCell ⟨c, o, none⟩ x) b u v := by
  obtain ⟨z, c0, c1, f0, f1⟩ := h
  refine ⟨by simpa [World.setCell] using z, ?_, ?_, ?_, ?_⟩
  · rw [World.cell?_setCell_far _ _ _ _ hc]; exact c0
  · rw [World.cell?_setCell_far _ _ _ _ hc]; exact c1
  · rw [World.frozen?_setCell]; exact f0
  · rw [World.frozen?_setCell]; exact f1
/-- What the walk is told of a slice of integers that came in. -/
def IsRow (k : IntKind) (w : World) (a : Option Addr) (len cap : Nat) (zs : List Int) : Prop :=
  (a = none ∧ len = 0 ∧ cap = 0 ∧ zs = []) ∨
  ∃ x, a = some x ∧ len ≤ cap ∧ cap ≤ maxLen ∧ zs.length = cap ∧ (∀ i, i < zs.length → w.cell? (x.add i) = some (.int k (zs.getD i 0))) ∧ ∀ n ∈ zs, (Lit.int k n).wf = true
/-- The three sums stand in their blocks; of what was there nothing has turned. -/
def Sums (w : World) (ba bb : Nat) (X A B : Int) (wr : World) : Prop :=
  Ext w wr ∧ Two wr w.heap.size (.int .i64 (hiOf X)) (.int .u64 (loOf X)) ∧ Two wr ba (.int .i64 (hiOf A)) (.int .u64 (loOf A)) ∧ Two wr bb (.int .i64 (hiOf B)) (.int .u64 (loOf B))
theorem Sums.ext {w W W' : World} {ba bb : Nat} {X A B : Int} (h : Sums w ba bb X A B W) (e : Ext W W') : Sums w ba bb X A B W' :=
  ⟨h.1.trans e, h.2.1.ext e, h.2.2.1.ext e, h.2.2.2.ext e⟩
theorem Sums.setA {w W : World} {ba bb : Nat} {X A B : Int} (h : Sums w ba bb X A B W) (hne : ba ≠ bb) (ha : w.heap.size < ba) (A' : Int) :
    Sums w ba bb X A' B ((W.setCell ⟨ba, 0, none⟩ (.int .i64 (hiOf A'))).setCell ⟨ba, 1, none⟩ (.int .u64 (loOf A'))) :=
  ⟨(h.1.setCell (Nat.le_of_lt ha) _).setCell (Nat.le_of_lt ha) _, (h.2.1.far (by omega) _ _).far (by omega) _ _, h.2.2.1.set _ _, (h.2.2.2.far hne _ _).far hne _ _⟩
theorem Sums.setB {w W : World} {ba bb : Nat} {X A B : Int} (h : Sums w ba bb X A B W) (hne : ba ≠ bb) (hb : w.heap.size < bb) (B' : Int) :
    Sums w ba bb X A B' ((W.setCell ⟨bb, 0, none⟩ (.int .i64 (hiOf B'))).setCell ⟨bb, 1, none⟩ (.int .u64 (loOf B'))) :=
  ⟨(h.1.setCell (Nat.le_of_lt hb) _).setCell (Nat.le_of_lt hb) _, (h.2.1.far (by omega) _ _).far (by omega) _ _, (h.2.2.1.far (Ne.symm hne) _ _).far (Ne.symm hne) _ _, h.2.2.2.set _ _⟩
theorem reads_mk {w : World} {ba bb sb o : Nat} {X C z : Int} {W : World} (h : Sums w ba bb X C C W) (hsb : sb < w.heap.size) (hc : w.cell? ⟨sb, o, none⟩ = some (.int .i64 z)) :
    Sums w ba bb X C C W ∧ W.cell? ⟨ba, 0, none⟩ = some (.int .i64 (hiOf C)) ∧ W.cell? ⟨ba, 1, none⟩ = some (.int .u64 (loOf C)) ∧ W.cell? ⟨bb, 0, none⟩ = some (.int .i64 (hiOf C)) ∧ W.cell? ⟨bb, 1, none⟩ = some (.int .u64 (loOf C)) ∧ W.cell? ⟨sb, o, none⟩ = some (.int .i64 z) :=
  ⟨h, h.2.2.1.2.1, h.2.2.1.2.2.1, h.2.2.2.2.1, h.2.2.2.2.2.1, (h.1.cell.1 sb o hsb).trans hc⟩
/-- The sum of the first k. -/
def sm (f : Nat → Int) : Nat → Int
  | 0 => 0
  | k + 1 => sm f k + f k
theorem sm_congr {f h : Nat → Int} : ∀ {k : Nat}, (∀ i, i < k → f i = h i) → sm f k = sm h k
  | 0, _ => rfl
  | k + 1, e => by simp only [sm]; rw [sm_congr (k := k) (fun i hi => e i (by omega)), e k (by omega)]
theorem sm_front (f : Nat → Int) : ∀ k : Nat, sm f (k + 1) = f 0 + sm (fun i => f (i + 1)) k
  | 0 => by simp [sm]
  | k + 1 => by
    have := sm_front f k
    simp only [sm] at this ⊢
    omega
theorem sm_turn1 (f : Nat → Int) (n : Nat) (hn : 0 < n) : sm (fun j => f ((j + 1) % n)) n = sm f n := by
  obtain ⟨m, rfl⟩ : ∃ m, n = m + 1 := ⟨n - 1, by omega⟩
  rw [sm_front f m]
  simp only [sm, Nat.mod_self]
  rw [sm_congr (h := fun i => f (i + 1)) (fun i hi => by rw [Nat.mod_eq_of_lt (by omega)])]
  omega
theorem sm_turn (f : Nat → Int) (n : Nat) (hn : 0 < n) : ∀ g : Nat, sm (fun j => f ((j + g) % n)) n = sm f n
  | 0 => sm_congr fun i hi => by rw [Nat.add_zero, Nat.mod_eq_of_lt hi]
  | g + 1 => by
    have := sm_turn (fun m => f ((m + 1) % n)) n hn g
    rw [sm_turn1 f n hn] at this
    rw [← this]
    refine sm_congr fun i _ => ?_
    show f ((i + (g + 1)) % n) = f (((i + g) % n + 1) % n)
    rw [Nat.mod_add_mod, Nat.add_assoc]
set_option maxRecDepth 100000 in
theorem many_walk (X : Int) (a : Option Addr) (n c : Nat) (zs : List Int) (g : Int) (w : World) (hn : n ≤ 140737488351232) (hg : 0 ≤ g ∧ g ≤ 255)
    (hz : ∀ i, I64 (zs.getD i 0))
    (hl : 0 < n → ∃ sb off : Nat, a = some ⟨sb, off, none⟩ ∧ sb < w.heap.size ∧ ∀ i, i < n → w.cell? ⟨sb, off + i, none⟩ = some (.int .i64 (zs.getD i 0))) :
    Calls Try.prog 8 #[.agg #[.int .i64 (hiOf X), .int .u64 (loOf X)], .slice a n c, .int .u8 g] w fun e w' => e = .returned (.bool true) ∧ Ext w w' := by
  have HN : Hid (n ≤ 140737488351232) := hn
  have hnI : (n : Int) ≤ 140737488351232 := by omega
  have HZ : Hid (∀ i, I64 (zs.getD i 0)) := hz
  have HL : Hid (0 < n → ∃ sb off : Nat, a = some ⟨sb, off, none⟩ ∧ sb < w.heap.size ∧ ∀ i, i < n → w.cell? ⟨sb, off + i, none⟩ = some (.int .i64 (zs.getD i 0))) := hl
  obtain ⟨g1, g2⟩ := hg
  clear hn hz hl
  go_enter Try.func8, Try.ntmps8
  go_upto_region 1 with fail
  go_cut [7, 8] (fun u v wx => ∃ ba bb : Nat, u = .pointer (some ⟨ba, 0, none⟩) ∧ v = .pointer (some ⟨bb, 0, none⟩) ∧ ba ≠ bb ∧ w.heap.size < ba ∧ w.heap.size < bb ∧ Sums w ba bb X X X wx)
  case first =>
    go_region
    all_goals go_wp2_with fail
    · go_meet
      case rel =>
        refine ⟨w.heap.size + 1, w.heap.size + 1 + 1, rfl, rfl, by omega, by omega, by omega, (((Ext.refl _).alloc _).alloc _).alloc _ |>.drew, ?_, ?_, ?_⟩ <;> simp [Two, go_sem, World.cell?_alloc_past]
    · go_meet
      case rel =>
        refine ⟨w.heap.size + 1 + 1, w.heap.size + 1, rfl, rfl, by omega, by omega, by omega, (((Ext.refl _).alloc _).alloc _).alloc _ |>.drew, ?_, ?_, ?_⟩ <;> simp [Two, go_sem, World.cell?_alloc_past]
  case rest =>
    obtain ⟨ba, bb, rfl, rfl, hne, ha, hb, hS⟩ := hcut
    have HS0 : Hid (Sums w ba bb X X X wc) := hS
    clear hS
    go_wp2
    go_loopw [9] (fun i wr => ∃ k : Nat, k ≤ n ∧ i = .int .i64 k ∧ Sums w ba bb X (X + sm (fun i => zs.getD i 0) k) (X + sm (fun i => zs.getD i 0) k) wr) (fun i _ => n - (intOf i).toNat)
    case atStart => exact ⟨0, Nat.zero_le _, rfl, by simpa [sm] using HS0.out⟩
    case round =>
      obtain ⟨k, hk, rfl, hS⟩ := hrel
      by_cases hlt : k < n
      · obtain ⟨sb, off, rfl, hsb, hcell⟩ := HL.out (by omega)
        have hck := (hS.1.cell.1 sb (off + k) hsb).trans (hcell k hlt)
        have hzk := HZ.out k
        have HS : Hid (Sums w ba bb X (X + sm (fun i => zs.getD i 0) k) (X + sm (fun i => zs.getD i 0) k) wr) := hS
        have HC : Hid (w.cell? ⟨sb, off + k, none⟩ = some (.int .i64 (zs.getD k 0))) := hcell k hlt
        obtain ⟨x1, x2, x3, x4, x5⟩ := hS.2.2.1
        clear hS hcell HL
        generalize hzk' : zs.getD k 0 = z at *
        generalize hA : X + sm (fun i => zs.getD i 0) k = A at *
        go_upto_region 5 with fail
        go_cut [28] (fun _ wx => Sums w ba bb X (A + z) A wx)
        case first =>
          go_region_with (go_at_call 27; refine (plus_acc A z hzk _).mono ?_; rintro e w1 ⟨rfl, E1⟩; have HS1 : Hid (Sums w ba bb X A A w1) := ((HS.out.ext ((Ext.refl _).drew)).ext E1); obtain ⟨y1, y2, y3, y4, y5⟩ := HS1.out.2.2.1)
          all_goals
            go_wp2_with fail
            go_meet
            case rel => exact HS1.out.setA hne ha (A + z)
        case rest =>
          have HS2 : Hid (Sums w ba bb X (A + z) A wc) := hcut
          have hck2 := (hcut.1.cell.1 sb (off + k) hsb).trans HC.out
          obtain ⟨y1, y2, y3, y4, y5⟩ := hcut.2.2.2
          clear hcut x1 x2 x3 x4 x5 hck HS
          go_upto_region 6 with fail
          go_cut [34] (fun _ wx => Sums w ba bb X (A + z) (A + z) wx)
          case first =>
            go_region_with (go_at_call 28; refine (rplus_acc A z hzk _).mono ?_; rintro e w1 ⟨rfl, E1⟩; have HS1 : Hid (Sums w ba bb X (A + z) A w1) := ((HS2.out.ext ((Ext.refl _).drew)).ext E1); obtain ⟨y1, y2, y3, y4, y5⟩ := HS1.out.2.2.2)
            all_goals
              go_wp2_with fail
              go_meet
              case rel => exact HS1.out.setB hne hb (A + z)
          case rest =>
            have HS3 : Hid (Sums w ba bb X (A + z) (A + z) wc) := hcut
            clear hcut y1 y2 y3 y4 y5 hck2
            obtain ⟨C, hC⟩ : ∃ C, C = A + z := ⟨_, rfl⟩
            rw [← hC] at HS3
            have HCe : Hid (C = A + z) := hC
            clear hC
            have cL := fun W => less_acc C z hzk W
            have cM := fun W => rless_acc C z hzk W
            obtain ⟨h0, h1, h2, h3, h4, h5⟩ := reads_mk HS3.out hsb HC.out
            go_upto_region 7 with fail
            go_region_held3 (fun w' => Sums w ba bb X C C w' ∧ w'.cell? ⟨ba, 0, none⟩ = some (.int .i64 (hiOf C)) ∧ w'.cell? ⟨ba, 1, none⟩ = some (.int .u64 (loOf C)) ∧ w'.cell? ⟨bb, 0, none⟩ = some (.int .i64 (hiOf C)) ∧ w'.cell? ⟨bb, 1, none⟩ = some (.int .u64 (loOf C)) ∧ w'.cell? ⟨sb, off + k, none⟩ = some (.int .i64 z))
              (first
                | assumption
                | exact reads_mk (HS3.out.ext ((Ext.refl _).drew)) hsb HC.out)
              (first
                | (go_at_call 29; refine (cL _).mono ?_; rintro e w1 ⟨rfl, E1⟩; have hR := reads_mk ((And.left (by assumption : Sums w ba bb X C C _ ∧ _)).ext E1) hsb HC.out)
                | (go_at_call 30; refine (cM _).mono ?_; rintro e w1 ⟨rfl, E1⟩; have hR := reads_mk ((And.left (by assumption : Sums w ba bb X C C _ ∧ _)).ext E1) hsb HC.out))
            all_goals
              have HR : Hid (Sums w ba bb X C C _) := hR.1
              go_wp2
              go_roundw
              case rel => exact ⟨k + 1, by omega, by go_num, by simp only [sm]; rw [hzk', ← Int.add_assoc, hA, ← HCe.out]; exact HR.out⟩
              case measure => simp [intOf]; omega
      · obtain rfl : k = n := by omega
        have HS : Hid (Sums w ba bb X (X + sm (fun i => zs.getD i 0) k) (X + sm (fun i => zs.getD i 0) k) wr) := hS
        obtain ⟨x1, x2, x3, x4, x5⟩ := hS.2.2.1
        obtain ⟨y1, y2, y3, y4, y5⟩ := hS.2.2.2
        clear hS
        generalize hA : X + sm (fun i => zs.getD i 0) k = A at *
        have HA : Hid (X + sm (fun i => zs.getD i 0) k = A) := hA
        clear hA
        go_wp2_with fail
        refine (told_acc A _).mono ?_
        rintro e w1 ⟨rfl, E1⟩
        have HS1 : Hid (Sums w ba bb X A A w1) := HS.out.ext E1
        clear x1 x2 x3 x4 x5 y1 y2 y3 y4 y5 HS E1
        obtain ⟨y1, y2, y3, y4, y5⟩ := HS1.out.2.2.2
        go_wp2_with fail
        refine (rtold_acc A _).mono ?_
        rintro e w2 ⟨rfl, E2⟩
        have HS2 : Hid (Sums w ba bb X A A w2) := HS1.out.ext E2
        clear y1 y2 y3 y4 y5 HS1 E2
        generalize toldV A = tv at *
        generalize toldB A = tb at *
        obtain ⟨G, hG⟩ : ∃ G : Nat, (G : Int) = g := ⟨g.toNat, by omega⟩
        have HG : Hid ((G : Int) = g) := hG
        clear hG
        go_wp2
        go_loopw [14] (fun i wr => ∃ m : Nat, m ≤ k ∧ i = .int .i64 ((m : Int) - 1) ∧ Sums w ba bb X (X + sm (fun j => zs.getD ((j + G) % k) 0) m) A wr) (fun i _ => (intOf i + 1).toNat)
        case atStart =>
          refine ⟨k, Nat.le_refl _, rfl, ?_⟩
          have e : X + sm (fun j => zs.getD ((j + G) % k) 0) k = A := by
            rw [← HA.out]
            rcases Nat.eq_zero_or_pos k with h | h
            · subst h; rfl
            · rw [sm_turn (fun i => zs.getD i 0) k h G]
          rw [e]
          exact HS2.out
        case round =>
          obtain ⟨m, hm, rfl, hS⟩ := hrel
          rcases Nat.eq_zero_or_pos m with rfl | hm0
          · have HS3 : Hid (Sums w ba bb X X A wr) := by have := hS; simp only [sm, Int.add_zero] at this; exact this
            obtain ⟨x1, x2, x3, x4, x5⟩ := HS3.out.2.2.1
            obtain ⟨z1, z2, z3, z4, z5⟩ := HS3.out.2.1
            clear hS HS2
            go_wp2_with fail
            refine (lives_any _).mono ?_
            rintro e w6 ⟨rfl, E6⟩
            go_wp2
            go_ret
            exact ⟨rfl, HS3.out.1.trans E6⟩
          · obtain ⟨j, rfl⟩ : ∃ j, m = j + 1 := ⟨m - 1, by omega⟩
            have ej : (((j + 1 : Nat) : Int) - 1) = (j : Int) := by omega
            rw [ej]
            clear ej hm0
            have hk0 : 0 < k := by omega
            obtain ⟨sb, off, rfl, hsb, hcell⟩ := HL.out hk0
            have hq : (j + G) % k < k := Nat.mod_lt _ hk0
            have hck := (hS.1.cell.1 sb (off + (j + G) % k) hsb).trans (hcell _ hq)
            have hzk := HZ.out ((j + G) % k)
            have em : ((j : Int) + g) % (k : Int) = (((j + G) % k : Nat) : Int) := by rw [← HG.out, Int.natCast_emod, Int.natCast_add]
            have hS' := hS
            simp only [sm] at hS'
            have HS3 : Hid (Sums w ba bb X (X + (sm (fun j => zs.getD ((j + G) % k) 0) j + zs.getD ((j + G) % k) 0)) A wr) := hS'
            obtain ⟨x1, x2, x3, x4, x5⟩ := hS'.2.2.1
            clear hS hS' hcell HL
            generalize hqe : (j + G) % k = q at *
            generalize hze : zs.getD q 0 = z at *
            generalize hT : sm (fun j => zs.getD ((j + G) % k) 0) j = T at *
            have HT : Hid (sm (fun j => zs.getD ((j + G) % k) 0) j = T) := hT
            have cL := fun W => less_acc (X + (T + z)) z hzk W
            have ex : X + (T + z) - z = X + T := by omega
            rw [ex] at cL
            generalize X + (T + z) = Y at *
            have k0 : ¬ (k : Int) = 0 := by omega
            have hqI : (q : Int) < (k : Int) := by omega
            have hjI : (j : Int) < (k : Int) := by omega
            clear hT ex hqe hze hk0
            go_upto_region 16 with fail
            go_region_with (go_at_call 29; refine (cL _).mono ?_; rintro e w1 ⟨rfl, E1⟩; have HS4 : Hid (Sums w ba bb X Y A w1) := ((HS3.out.ext ((Ext.refl _).drew)).ext E1); obtain ⟨y1, y2, y3, y4, y5⟩ := HS4.out.2.2.1)
            all_goals
              go_wp2
              go_roundw
              case rel => exact ⟨j, by omega, rfl, by rw [HT.out]; exact HS4.out.setA hne ha (X + T)⟩
              case measure => simp [intOf]
end Go.Proofs.Ytoeknlnmcfnkoaa

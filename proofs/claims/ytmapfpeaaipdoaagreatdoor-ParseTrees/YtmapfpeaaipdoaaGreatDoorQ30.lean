/-
  Which trees are well made, as far as lives asks; lives.
  all, by whichever answer; towards Well of any tree.
  Well of any tree.
  From a list that lays the library's tables, the errors' names and the signs to their cells; a world in which they lie. No condition.
-/
import Derived.Test.YtmapfpeaaipdoaaGreatDoorQ27
import Derived.Test.YtmapfpeaaipdoaaGreatDoorQ11
import Derived.Test.YtmapfpeaaipdoaaGreatDoorQ10
import Derived.Test.YtmapfpeaaipdoaaGreatDoorQ4
import Derived.Test.YtmapfpeaaipdoaaGreatDoorRows
import Derived.ProofKit
import Derived.OpenShut
import Derived.Deep.DeepHandedRow
import Derived.Stop.LaidErr
import Derived.Lib.LaidTab
import Derived.Lib.SmallJoins
import Derived.MakeChecks
namespace Go.Proofs.YtmapfpeaaipdoaaGreatDoor
open Go.RowKit
set_option maxHeartbeats 6000000

theorem isIn_any (r0 r1 : Int) (r2 r3 : Bool) (w : World) : Calls Tryz.prog 15 #[.agg #[.int .i64 r0, .int .i64 r1, .bool r2, .bool r3]] w fun e w' => e = .returned (.bool (inB r0 r1)) ∧ Ext w w' := by
  have c1 := fun W => in_any r0 r1 W
  go_enter Tryz.func15, Tryz.ntmps15
  go_wp2_with fail
  refine (c1 _).mono ?_
  rintro e w1 ⟨rfl, rfl⟩
  go_wp2_with fail
  go_ret
  exact ⟨rfl, (Ext.refl _).alloc _⟩
/-- Well says yes of t. -/
def WTr (P : Nat → Prop) (t : T) : Prop := ∀ (W : World) (pp : Option Addr) (ln cl : Nat), IsL W P (.slice pp ln cl) t.l → Calls Tryz.prog 6 #[.agg #[.int .i64 t.k, .int .i64 t.n, .string (bs t.s), .int .i64 t.e, .int .i64 t.r.1, .int .i64 t.r.2.1, .bool t.r.2.2.1, .bool t.r.2.2.2, .int .i64 t.q.1, .int .i64 t.q.2.1, .bool t.q.2.2.1, .bool t.q.2.2.2, .slice pp ln cl]] W fun e w' => e = .returned (.bool true) ∧ Ext W w'
set_option maxRecDepth 100000 in
theorem all_true (P : Nat → Prop) (l : List T) (pp : Option Addr) (ln cl : Nat) (w : World) (hl : l.length ≤ 1000) (hx : ∀ x ∈ l, WTr P x) (h : IsL w P (.slice pp ln cl) l) :
    Calls Tryz.prog 16 #[.slice pp ln cl, .func (.func 6) #[] #[]] w fun e w' => e = .returned (.bool true) ∧ Ext w w' := by
  have hln : ln = l.length := by
    obtain ⟨p, c, h1, _⟩ := h.form
    cases h1; rfl
  have hent : ∀ args W, (callFunc 6 args).run Tryz.prog W = .ok (.enter 6 args) W := enters_of Tryz.func6 (by kernel_rfl) rfl
  have HX : Hid (∀ x ∈ l, WTr P x) := hx
  have HI : Hid (IsL w P (.slice pp ln cl) l) := h
  have HLN : Hid (ln = l.length) := hln
  have hl2 : ln ≤ 1000 := by omega
  clear hx h hln hl
  go_enter Tryz.func16, Tryz.ntmps16
  go_wp2_with fail
  go_loopw [6, 9] (fun _ i wr => ∃ j : Nat, j ≤ ln ∧ i = .int .i64 (j : Int) ∧ Ext w wr) (fun _ i _ => ln - (intOf i).toNat)
  case atStart => exact ⟨0, Nat.zero_le _, rfl, Ext.refl _⟩
  case round =>
    obtain ⟨j, hj, rfl, hE⟩ := hrel
    have HE : Hid (Ext w wr) := hE
    clear hE
    by_cases hlt : j < ln
    · have hltI : (j : Int) < (ln : Int) := by omega
      have hI := HI.out.ext HE.out
      obtain ⟨gb, off, x, lv, hpp, hx1, hA1, hgb, hA2, hLx, hce⟩ := hI.at (i := j) (by rw [← HLN.out]; exact hlt)
      clear hA1 hA2
      subst hpp
      obtain ⟨pp, cl', hlv, hcl⟩ := hLx.form
      obtain ⟨ln', hln'⟩ : ∃ ln', x.l.length = ln' := ⟨_, rfl⟩
      rw [hln'] at hlv
      subst hlv
      have HC : Hid (Calls Tryz.prog 6 #[.agg #[.int .i64 x.k, .int .i64 x.n, .string (bs x.s), .int .i64 x.e, .int .i64 x.r.1, .int .i64 x.r.2.1, .bool x.r.2.2.1, .bool x.r.2.2.2, .int .i64 x.q.1, .int .i64 x.q.2.1, .bool x.q.2.2.1, .bool x.q.2.2.2, .slice pp ln' cl']] (wr.alloc (.cells #[.int .i64 x.k, .int .i64 x.n, .string (bs x.s), .int .i64 x.e, .int .i64 x.r.1, .int .i64 x.r.2.1, .bool x.r.2.2.1, .bool x.r.2.2.2, .int .i64 x.q.1, .int .i64 x.q.2.1, .bool x.q.2.2.1, .bool x.q.2.2.2, .slice pp ln' cl'] 26)) fun e w' => e = .returned (.bool true) ∧ Ext (wr.alloc (.cells #[.int .i64 x.k, .int .i64 x.n, .string (bs x.s), .int .i64 x.e, .int .i64 x.r.1, .int .i64 x.r.2.1, .bool x.r.2.2.1, .bool x.r.2.2.2, .int .i64 x.q.1, .int .i64 x.q.2.1, .bool x.q.2.2.1, .bool x.q.2.2.2, .slice pp ln' cl'] 26)) w') := HX.out x (List.mem_of_getElem? hx1) _ pp ln' cl' (hLx.ext ((Ext.refl _).alloc _))
      have e0 : wr.cell? ⟨gb, off + j * 13, none⟩ = some (.int .i64 x.k) := hce 0 _ rfl
      have e1 : wr.cell? ⟨gb, off + j * 13 + 1, none⟩ = some (.int .i64 x.n) := hce 1 _ rfl
      have e2 : wr.cell? ⟨gb, off + j * 13 + 2, none⟩ = some (.string (bs x.s)) := hce 2 _ rfl
      have e3 : wr.cell? ⟨gb, off + j * 13 + 3, none⟩ = some (.int .i64 x.e) := hce 3 _ rfl
      have e4 : wr.cell? ⟨gb, off + j * 13 + 4, none⟩ = some (.int .i64 x.r.1) := hce 4 _ rfl
      have e5 : wr.cell? ⟨gb, off + j * 13 + 5, none⟩ = some (.int .i64 x.r.2.1) := hce 5 _ rfl
      have e6 : wr.cell? ⟨gb, off + j * 13 + 6, none⟩ = some (.bool x.r.2.2.1) := hce 6 _ rfl
      have e7 : wr.cell? ⟨gb, off + j * 13 + 7, none⟩ = some (.bool x.r.2.2.2) := hce 7 _ rfl
      have e8 : wr.cell? ⟨gb, off + j * 13 + 8, none⟩ = some (.int .i64 x.q.1) := hce 8 _ rfl
      have e9 : wr.cell? ⟨gb, off + j * 13 + 9, none⟩ = some (.int .i64 x.q.2.1) := hce 9 _ rfl
      have e10 : wr.cell? ⟨gb, off + j * 13 + 10, none⟩ = some (.bool x.q.2.2.1) := hce 10 _ rfl
      have e11 : wr.cell? ⟨gb, off + j * 13 + 11, none⟩ = some (.bool x.q.2.2.2) := hce 11 _ rfl
      have e12 : wr.cell? ⟨gb, off + j * 13 + 12, none⟩ = some (.slice pp ln' cl') := hce 12 _ rfl
      clear hI hx1 hLx hce hcl hln'
      go_wp2_with fail
      refine HC.out.mono ?_
      rintro e w1 ⟨rfl, E1⟩
      have HE1 : Hid (Ext w w1) := (HE.out.alloc _).trans E1
      clear E1 e0 e1 e2 e3 e4 e5 e6 e7 e8 e9 e10 e11 e12
      go_wp2_with fail
      go_roundw
      case rel => exact ⟨j + 1, by omega, by go_num, HE1.out⟩
      case measure => show ln - ((j : Int) + 1).toNat < ln - ((j : Int)).toNat; omega
    · have hltI : ¬ (j : Int) < (ln : Int) := by omega
      go_wp2_with fail
      go_ret
      exact ⟨rfl, HE.out⟩
theorem wt_num (P : Nat → Prop) (t : T) (hk : t.k = 0) (hn : 0 ≤ t.n) : WTr P t := by
  intro W pp ln cl _
  have e0 : (t.k == 0) = true := by rw [hk]; rfl
  have HN : Hid (decide (0 ≤ t.n) = true) := by show _ = _; simpa using hn
  generalize t.k = tk at *
  generalize t.n = tn at *
  clear hk hn
  go_enter Tryz.func6, Tryz.ntmps6
  go_wp2_with fail
  go_ret
  exact ⟨ret_bool HN.out, (Ext.refl _).alloc _⟩
theorem wt_ref (P : Nat → Prop) (t : T) (hk : t.k = 4) (hn : inB t.r.1 t.r.2.1 = true) : WTr P t := by
  intro W pp ln cl _
  have e0 : (t.k == 0) = false := by rw [hk]; rfl
  have e1 : (t.k == 1) = false := by rw [hk]; rfl
  have e2 : (t.k == 2) = false := by rw [hk]; rfl
  have e3 : (t.k == 3) = false := by rw [hk]; rfl
  have e4 : (t.k == 4) = true := by rw [hk]; rfl
  have c1 := fun W => isIn_any t.r.1 t.r.2.1 t.r.2.2.1 t.r.2.2.2 W
  rw [hn] at c1
  generalize t.k = tk at *
  clear hk hn
  go_enter Tryz.func6, Tryz.ntmps6
  go_wp2_with fail
  refine (c1 _).mono ?_
  rintro e w1 ⟨rfl, E1⟩
  have HE : Hid (Ext W w1) := ((Ext.refl _).alloc _).trans E1
  clear E1
  go_wp2_with fail
  go_ret
  exact ⟨rfl, HE.out⟩
theorem wt_neg (P : Nat → Prop) (t : T) (hk : t.k = 6) (hl : t.l.length = 1) (hx : ∀ x ∈ t.l, WTr P x) : WTr P t := by
  intro W pp ln cl h
  have hln : ln = 1 := by
    obtain ⟨p, c, h1, _⟩ := h.form
    cases h1; exact hl
  subst hln
  have e0 : (t.k == 0) = false := by rw [hk]; rfl
  have e1 : (t.k == 1) = false := by rw [hk]; rfl
  have e2 : (t.k == 2) = false := by rw [hk]; rfl
  have e3 : (t.k == 3) = false := by rw [hk]; rfl
  have e4 : (t.k == 4) = false := by rw [hk]; rfl
  have e6 : (t.k == 6) = true := by rw [hk]; rfl
  have HC : Hid (∀ W', Ext W W' → Calls Tryz.prog 16 #[.slice pp 1 cl, .func (.func 6) #[] #[]] W' fun e w' => e = .returned (.bool true) ∧ Ext W' w') := fun W' e => all_true P t.l pp 1 cl W' (by omega) hx (h.ext e)
  generalize t.k = tk at *
  clear hk hl hx h
  go_enter Tryz.func6, Tryz.ntmps6
  go_wp2_with fail
  refine (HC.out _ ((Ext.refl _).alloc _)).mono ?_
  rintro e w1 ⟨rfl, E1⟩
  have HE : Hid (Ext W w1) := ((Ext.refl _).alloc _).trans E1
  clear E1
  go_wp2_with fail
  go_ret
  exact ⟨rfl, HE.out⟩
theorem wt_bin (P : Nat → Prop) (t : T) (hk : t.k = 7) (hl : t.l.length = 2) (hb : bnd t.s ≠ 0) (hx : ∀ x ∈ t.l, WTr P x) : WTr P t := by
  intro W pp ln cl h
  have hln : ln = 2 := by
    obtain ⟨p, c, h1, _⟩ := h.form
    cases h1; exact hl
  subst hln
  have e0 : (t.k == 0) = false := by rw [hk]; rfl
  have e1 : (t.k == 1) = false := by rw [hk]; rfl
  have e2 : (t.k == 2) = false := by rw [hk]; rfl
  have e3 : (t.k == 3) = false := by rw [hk]; rfl
  have e4 : (t.k == 4) = false := by rw [hk]; rfl
  have e6 : (t.k == 6) = false := by rw [hk]; rfl
  have e7 : (t.k == 7) = true := by rw [hk]; rfl
  have cB := fun W => binds_any (bs t.s) W
  have es : (bs t.s).data.toList = t.s := rfl
  rw [es] at cB
  obtain ⟨bb, hbb⟩ : ∃ bb, bnd t.s = bb := ⟨_, rfl⟩
  rw [hbb] at cB hb
  have hbn : ((bb : Int) != 0) = true := by simp; omega
  have hbe : ((bb : Int) == 0) = false := by simp; omega
  have HC : Hid (∀ W', Ext W W' → Calls Tryz.prog 16 #[.slice pp 2 cl, .func (.func 6) #[] #[]] W' fun e w' => e = .returned (.bool true) ∧ Ext W' w') := fun W' e => all_true P t.l pp 2 cl W' (by omega) hx (h.ext e)
  generalize t.k = tk at *
  generalize bs t.s = q at *
  clear hk hl hx h es hbb hb
  go_enter Tryz.func6, Tryz.ntmps6
  go_wp2_with fail
  refine (cB _).mono ?_
  rintro e w1 ⟨rfl, rfl⟩
  go_wp2_with fail
  refine (HC.out _ ((Ext.refl _).alloc _)).mono ?_
  rintro e w1 ⟨rfl, E1⟩
  have HE : Hid (Ext W w1) := ((Ext.refl _).alloc _).trans E1
  clear E1
  go_wp2_with fail
  go_ret
  exact ⟨rfl, HE.out⟩
def liveT : T := tBin [42] (tNeg (tRef (1, 1, false, false))) (tNum 20000)
theorem live_par : parR [45, 65, 49, 42, 50] = (liveT, 0, 0) := by kernel_rfl
theorem live_well (P : Nat → Prop) : WTr P liveT := by
  refine wt_bin P liveT rfl rfl (by decide) ?_
  intro x hx
  rcases List.mem_cons.1 hx with rfl | hx
  · refine wt_neg P _ rfl rfl ?_
    intro y hy
    rcases List.mem_cons.1 hy with rfl | hy
    · exact wt_ref P _ rfl (by decide)
    · cases hy
  · rcases List.mem_cons.1 hx with rfl | hx
    · exact wt_num P _ rfl (by decide)
    · cases hx
set_option maxRecDepth 100000 in
theorem plives_any (w : World) (hT7 : Tab7 w) (hT : Tab w) : Calls Tryz.prog 5 #[] w fun e w' => e = .returned (.bool true) ∧ Ext w w' := by
  have c1 := pformula_any ⟨#[45, 65, 49, 42, 50]⟩ w (by decide) hT7 hT
  have es : (⟨#[45, 65, 49, 42, 50]⟩ : ByteArray).data.toList = [45, 65, 49, 42, 50] := rfl
  unfold FormQ at c1
  rw [es, live_par] at c1
  have C1 : Calls Tryz.prog 14 #[.string ⟨#[45, 65, 49, 42, 50]⟩] w fun e w' => ∃ lv, e = .returned (.tuple #[aggX liveT lv, .int .i64 0, .int .i64 0]) ∧ IsL w' (w.heap.size ≤ ·) lv liveT.l ∧ Ext w w' := c1
  clear c1 es hT7 hT
  go_enter Tryz.func5, Tryz.ntmps5
  go_wp2_with fail
  refine C1.mono ?_
  rintro e w1 ⟨lv, rfl, hL, E1⟩
  obtain ⟨pp, cl, hlv, hA0⟩ := hL.form
  clear hA0
  have hlv2 : lv = .slice pp 2 cl := hlv
  subst hlv2
  obtain ⟨gb, off, x, lx, hpp, hx1, hA1, hgb, hA2, hA3, hce⟩ := hL.at (i := 0) (by decide)
  clear hA1 hA2 hA3
  subst hpp
  have hx2 : x = tNeg (tRef (1, 1, false, false)) := by cases hx1; rfl
  subst hx2
  have q0 : w1.cell? ⟨gb, off, none⟩ = some (.int .i64 6) := hce 0 _ rfl
  obtain ⟨gb2, off2, y, ly, hpp2, hy1, hA1, hA4, hA2, hA3, hcf⟩ := hL.at (i := 1) (by decide)
  clear hA1 hA2 hA3 hA4
  cases hpp2
  have hy2 : y = tNum 20000 := by cases hy1; rfl
  subst hy2
  have q1 : w1.cell? ⟨gb, off + 13 + 1, none⟩ = some (.int .i64 20000) := hcf 1 _ rfl
  have q1' : w1.cell? ⟨gb, off + 14, none⟩ = some (.int .i64 20000) := q1
  have HE : Hid (Ext w w1) := E1
  have HW : Hid (∀ W, Ext w1 W → Calls Tryz.prog 6 #[.agg #[.int .i64 7, .int .i64 0, .string ⟨#[42]⟩, .int .i64 0, .int .i64 0, .int .i64 0, .bool false, .bool false, .int .i64 0, .int .i64 0, .bool false, .bool false, .slice (some ⟨gb, off, none⟩) 2 cl]] W fun e w' => e = .returned (.bool true) ∧ Ext W w') := fun W e => live_well _ W (some ⟨gb, off, none⟩) 2 cl (hL.ext e)
  have ea : aggX liveT (.slice (some ⟨gb, off, none⟩) 2 cl) = .agg #[.int .i64 7, .int .i64 0, .string ⟨#[42]⟩, .int .i64 0, .int .i64 0, .int .i64 0, .bool false, .bool false, .int .i64 0, .int .i64 0, .bool false, .bool false, .slice (some ⟨gb, off, none⟩) 2 cl] := rfl
  rw [ea]
  clear C1 hL hlv E1 hx1 hy1 hce hcf ea
  go_wp2_with fail
  refine (HW.out _ ((Ext.refl _).alloc _)).mono ?_
  rintro e w2 ⟨rfl, E2⟩
  have HE2 : Hid (Ext w w2) := (HE.out.alloc _).trans E2
  clear E2
  go_wp2_with fail
  go_ret
  exact ⟨rfl, HE2.out⟩
end Go.Proofs.YtmapfpeaaipdoaaGreatDoor

namespace Go.Proofs.YtmapfpeaaipdoaaGreatDoor
open Go.RowKit
set_option maxHeartbeats 6000000

theorem allx_take {l : List T} {g : T → Bool} {j : Nat} {x : T} (h : l[j]? = some x) : (l.take (j + 1)).all g = ((l.take j).all g && g x) := by
  rw [List.take_add_one, h, List.all_append]; simp
set_option maxRecDepth 100000 in
theorem all_any (K : FuncId) (P : Nat → Prop) (g : T → Bool) (l : List T) (pp : Option Addr) (ln cl : Nat) (w : World) (hl : l.length ≤ 100000) (hent : ∀ args W, (callFunc K args).run Tryz.prog W = .ok (.enter K args) W) (hx : ∀ x ∈ l, ATr K P g x) (h : IsL w P (.slice pp ln cl) l) :
    Calls Tryz.prog 16 #[.slice pp ln cl, .func (.func K) #[] #[]] w fun e w' => e = .returned (.bool (l.all g)) ∧ Ext w w' := by
  have hln : ln = l.length := by
    obtain ⟨p, c, h1, _⟩ := h.form
    cases h1; rfl
  have HX : Hid (∀ x ∈ l, ATr K P g x) := hx
  have HI : Hid (IsL w P (.slice pp ln cl) l) := h
  have HLN : Hid (ln = l.length) := hln
  have hl2 : ln ≤ 100000 := by omega
  clear hx h hln hl
  go_enter Tryz.func16, Tryz.ntmps16
  go_wp2_with fail
  go_loopw [6, 9] (fun _ i wr => ∃ j : Nat, j ≤ ln ∧ i = .int .i64 (j : Int) ∧ (l.take j).all g = true ∧ Ext w wr) (fun _ i _ => ln - (intOf i).toNat)
  case atStart => exact ⟨0, Nat.zero_le _, rfl, rfl, Ext.refl _⟩
  case round =>
    obtain ⟨j, hj, rfl, hg, hE⟩ := hrel
    have HE : Hid (Ext w wr ∧ (l.take j).all g = true) := ⟨hE, hg⟩
    clear hE hg
    by_cases hlt : j < ln
    · have hltI : (j : Int) < (ln : Int) := by omega
      have hI := HI.out.ext HE.out.1
      obtain ⟨gb, off, x, lv, hpp, hx1, hA1, hgb, hA2, hLx, hce⟩ := hI.at (i := j) (by rw [← HLN.out]; exact hlt)
      clear hA1 hA2
      subst hpp
      obtain ⟨pp, cl', hlv, hcl⟩ := hLx.form
      obtain ⟨ln', hln'⟩ : ∃ ln', x.l.length = ln' := ⟨_, rfl⟩
      rw [hln'] at hlv
      subst hlv
      have HX1 : Hid (l[j]? = some x) := hx1
      have HC : Hid (Calls Tryz.prog K #[.agg #[.int .i64 x.k, .int .i64 x.n, .string (bs x.s), .int .i64 x.e, .int .i64 x.r.1, .int .i64 x.r.2.1, .bool x.r.2.2.1, .bool x.r.2.2.2, .int .i64 x.q.1, .int .i64 x.q.2.1, .bool x.q.2.2.1, .bool x.q.2.2.2, .slice pp ln' cl']] (wr.alloc (.cells #[.int .i64 x.k, .int .i64 x.n, .string (bs x.s), .int .i64 x.e, .int .i64 x.r.1, .int .i64 x.r.2.1, .bool x.r.2.2.1, .bool x.r.2.2.2, .int .i64 x.q.1, .int .i64 x.q.2.1, .bool x.q.2.2.1, .bool x.q.2.2.2, .slice pp ln' cl'] 26)) fun e w' => e = .returned (.bool (g x)) ∧ Ext (wr.alloc (.cells #[.int .i64 x.k, .int .i64 x.n, .string (bs x.s), .int .i64 x.e, .int .i64 x.r.1, .int .i64 x.r.2.1, .bool x.r.2.2.1, .bool x.r.2.2.2, .int .i64 x.q.1, .int .i64 x.q.2.1, .bool x.q.2.2.1, .bool x.q.2.2.2, .slice pp ln' cl'] 26)) w') := HX.out x (List.mem_of_getElem? hx1) _ pp ln' cl' (hLx.ext ((Ext.refl _).alloc _))
      have e0 : wr.cell? ⟨gb, off + j * 13, none⟩ = some (.int .i64 x.k) := hce 0 _ rfl
      have e1 : wr.cell? ⟨gb, off + j * 13 + 1, none⟩ = some (.int .i64 x.n) := hce 1 _ rfl
      have e2 : wr.cell? ⟨gb, off + j * 13 + 2, none⟩ = some (.string (bs x.s)) := hce 2 _ rfl
      have e3 : wr.cell? ⟨gb, off + j * 13 + 3, none⟩ = some (.int .i64 x.e) := hce 3 _ rfl
      have e4 : wr.cell? ⟨gb, off + j * 13 + 4, none⟩ = some (.int .i64 x.r.1) := hce 4 _ rfl
      have e5 : wr.cell? ⟨gb, off + j * 13 + 5, none⟩ = some (.int .i64 x.r.2.1) := hce 5 _ rfl
      have e6 : wr.cell? ⟨gb, off + j * 13 + 6, none⟩ = some (.bool x.r.2.2.1) := hce 6 _ rfl
      have e7 : wr.cell? ⟨gb, off + j * 13 + 7, none⟩ = some (.bool x.r.2.2.2) := hce 7 _ rfl
      have e8 : wr.cell? ⟨gb, off + j * 13 + 8, none⟩ = some (.int .i64 x.q.1) := hce 8 _ rfl
      have e9 : wr.cell? ⟨gb, off + j * 13 + 9, none⟩ = some (.int .i64 x.q.2.1) := hce 9 _ rfl
      have e10 : wr.cell? ⟨gb, off + j * 13 + 10, none⟩ = some (.bool x.q.2.2.1) := hce 10 _ rfl
      have e11 : wr.cell? ⟨gb, off + j * 13 + 11, none⟩ = some (.bool x.q.2.2.2) := hce 11 _ rfl
      have e12 : wr.cell? ⟨gb, off + j * 13 + 12, none⟩ = some (.slice pp ln' cl') := hce 12 _ rfl
      clear hI hx1 hLx hce hcl hln'
      go_wp2_with fail
      refine HC.out.mono ?_
      rintro e w1 ⟨rfl, E1⟩
      have HE1 : Hid (Ext w w1) := (HE.out.1.alloc _).trans E1
      clear E1 e0 e1 e2 e3 e4 e5 e6 e7 e8 e9 e10 e11 e12
      cases hgx : g x
      · have HR : Hid (l.all g = false) := by
          show _ = _
          rw [List.all_eq_false]
          exact ⟨x, List.mem_of_getElem? HX1.out, by rw [hgx]; simp⟩
        clear hgx
        go_wp2_with fail
        go_ret
        exact ⟨ret_bool HR.out.symm, HE1.out⟩
      · have HR : Hid ((l.take (j + 1)).all g = true) := by show _ = _; rw [allx_take HX1.out, HE.out.2, hgx]; rfl
        clear hgx
        go_wp2_with fail
        go_roundw
        case rel => exact ⟨j + 1, by omega, by go_num, HR.out, HE1.out⟩
        case measure => show ln - ((j : Int) + 1).toNat < ln - ((j : Int)).toNat; omega
    · have hltI : ¬ (j : Int) < (ln : Int) := by omega
      have HR : Hid (l.all g = true) := by
        show _ = _
        have := HE.out.2
        rw [List.take_of_length_le (by have := HLN.out; omega)] at this
        exact this
      go_wp2_with fail
      go_ret
      exact ⟨ret_bool HR.out.symm, HE.out.1⟩
/-! ### Well -/
set_option maxRecDepth 100000 in
theorem isArg_any (P : Nat → Prop) (n : Nat) (t : T) (hw : ATr 6 P (wellT n) t) : ATr 19 P (argT n) t := by
  intro W pp ln cl h
  by_cases k5 : t.k = 5
  · have e5 : (t.k == 5) = true := by rw [k5]; rfl
    have HX : Hid (argT n t = (inB t.r.1 t.r.2.1 && inB t.q.1 t.q.2.1)) := by show _ = _; unfold argT; rw [if_pos k5]
    have c1 := fun W => isIn_any t.r.1 t.r.2.1 t.r.2.2.1 t.r.2.2.2 W
    have c2 := fun W => isIn_any t.q.1 t.q.2.1 t.q.2.2.1 t.q.2.2.2 W
    clear k5 hw h
    cases h1 : inB t.r.1 t.r.2.1
    · rw [h1] at c1 HX
      clear h1
      go_enter Tryz.func19, Tryz.ntmps19
      go_wp2_with fail
      refine (c1 _).mono ?_
      rintro e w1 ⟨rfl, E1⟩
      have HE : Hid (Ext W w1) := ((Ext.refl _).alloc _).trans E1
      clear E1
      go_wp2_with fail
      go_ret
      exact ⟨ret_bool (by rw [HX.out]; rfl), HE.out⟩
    · rw [h1] at c1 HX
      clear h1
      go_enter Tryz.func19, Tryz.ntmps19
      go_wp2_with fail
      refine (c1 _).mono ?_
      rintro e w1 ⟨rfl, E1⟩
      have HE : Hid (Ext W w1) := ((Ext.refl _).alloc _).trans E1
      have hB := blk13_top rfl E1
      obtain ⟨q0, ⟨l0, l1, l2, l3, l4, l5, l6, l7, l8, l9, l10, l11, l12⟩, gg⟩ := hB
      clear E1 gg
      go_wp2_with fail
      refine (c2 _).mono ?_
      rintro e w2 ⟨rfl, E2⟩
      have HE2 : Hid (Ext W w2) := HE.out.trans E2
      clear E2
      go_wp2_with fail
      go_ret
      exact ⟨ret_bool (by rw [HX.out]; rfl), HE2.out⟩
  · have e5 : (t.k == 5) = false := by simpa using k5
    have HX : Hid (argT n t = wellT n t) := by show _ = _; unfold argT; rw [if_neg k5]
    have HW : Hid (∀ W', Ext W W' → Calls Tryz.prog 6 #[.agg #[.int .i64 t.k, .int .i64 t.n, .string (bs t.s), .int .i64 t.e, .int .i64 t.r.1, .int .i64 t.r.2.1, .bool t.r.2.2.1, .bool t.r.2.2.2, .int .i64 t.q.1, .int .i64 t.q.2.1, .bool t.q.2.2.1, .bool t.q.2.2.2, .slice pp ln cl]] W' fun e w' => e = .returned (.bool (wellT n t)) ∧ Ext W' w') := fun W' e => hw W' pp ln cl (h.ext e)
    clear k5 hw h
    go_enter Tryz.func19, Tryz.ntmps19
    go_wp2_with fail
    refine (HW.out _ ((Ext.refl _).alloc _)).mono ?_
    rintro e w1 ⟨rfl, E1⟩
    have HE : Hid (Ext W w1) := ((Ext.refl _).alloc _).trans E1
    clear E1
    go_wp2_with fail
    go_ret
    exact ⟨ret_bool HX.out.symm, HE.out⟩
end Go.Proofs.YtmapfpeaaipdoaaGreatDoor

namespace Go.Proofs.YtmapfpeaaipdoaaGreatDoor
open Go.RowKit
set_option maxHeartbeats 6000000

set_option maxRecDepth 100000 in
theorem well_leaf (P : Nat → Prop) (n : Nat) (t : T) (hk6 : t.k ≠ 6) (hk7 : t.k ≠ 7) (hk8 : t.k ≠ 8) : ATr 6 P (wellT (n + 1)) t := by
  intro W pp ln cl _
  by_cases hk : t.k = 0
  · have e0 : (t.k == 0) = true := by rw [hk]; rfl
    have HX : Hid (wellT (n + 1) t = decide (0 ≤ t.n)) := by show _ = _; unfold wellT; simp [hk]
    clear hk hk6 hk7 hk8
    go_enter Tryz.func6, Tryz.ntmps6
    go_wp2_with fail
    go_ret
    exact ⟨ret_bool HX.out.symm, (Ext.refl _).alloc _⟩
  have k0 := hk
  clear hk
  by_cases hk : t.k = 1
  · have e0 : (t.k == 0) = false := by rw [hk]; rfl
    have e1 : (t.k == 1) = true := by rw [hk]; rfl
    have HX : Hid (wellT (n + 1) t = decide (t.s.length ≤ 300)) := by show _ = _; unfold wellT; simp [hk]
    have HB : Hid ((bs t.s).size = t.s.length) := bs_size _
    generalize bs t.s = q at *
    clear hk hk6 hk7 hk8 k0
    go_enter Tryz.func6, Tryz.ntmps6
    go_wp2_with fail
    go_ret
    refine ⟨ret_bool ?_, (Ext.refl _).alloc _⟩
    rw [HX.out, ← HB.out]
    simp
    omega
  have k1 := hk
  clear hk
  by_cases hk : t.k = 2
  · have e0 : (t.k == 0) = false := by rw [hk]; rfl
    have e1 : (t.k == 1) = false := by rw [hk]; rfl
    have e2 : (t.k == 2) = true := by rw [hk]; rfl
    have HX : Hid (wellT (n + 1) t = (t.n == 0 || t.n == 1)) := by show _ = _; unfold wellT; simp [hk]
    clear hk hk6 hk7 hk8 k0 k1
    cases hn : (t.n == 0)
    · rw [hn] at HX
      go_enter Tryz.func6, Tryz.ntmps6
      go_wp2_with fail
      go_ret
      exact ⟨ret_bool HX.out.symm, (Ext.refl _).alloc _⟩
    · rw [hn] at HX
      go_enter Tryz.func6, Tryz.ntmps6
      go_wp2_with fail
      go_ret
      exact ⟨ret_bool HX.out.symm, (Ext.refl _).alloc _⟩
  have k2 := hk
  clear hk
  by_cases hk : t.k = 3
  · have e0 : (t.k == 0) = false := by rw [hk]; rfl
    have e1 : (t.k == 1) = false := by rw [hk]; rfl
    have e2 : (t.k == 2) = false := by rw [hk]; rfl
    have e3 : (t.k == 3) = true := by rw [hk]; rfl
    have HX : Hid (wellT (n + 1) t = (decide (1 ≤ t.e) && decide (t.e ≤ 5))) := by show _ = _; unfold wellT; simp [hk]
    clear hk hk6 hk7 hk8 k0 k1 k2
    by_cases h1 : 1 ≤ t.e
    · have d1 : decide (1 ≤ t.e) = true := by simpa using h1
      rw [d1] at HX
      go_enter Tryz.func6, Tryz.ntmps6
      go_wp2_with fail
      go_ret
      exact ⟨ret_bool HX.out.symm, (Ext.refl _).alloc _⟩
    · have d1 : decide (1 ≤ t.e) = false := by simpa using h1
      rw [d1] at HX
      go_enter Tryz.func6, Tryz.ntmps6
      go_wp2_with fail
      go_ret
      exact ⟨ret_bool HX.out.symm, (Ext.refl _).alloc _⟩
  have k3 := hk
  clear hk
  by_cases hk : t.k = 4
  · have e0 : (t.k == 0) = false := by rw [hk]; rfl
    have e1 : (t.k == 1) = false := by rw [hk]; rfl
    have e2 : (t.k == 2) = false := by rw [hk]; rfl
    have e3 : (t.k == 3) = false := by rw [hk]; rfl
    have e4 : (t.k == 4) = true := by rw [hk]; rfl
    have HX : Hid (wellT (n + 1) t = inB t.r.1 t.r.2.1) := by show _ = _; unfold wellT; simp [hk]
    have c1 := fun W => isIn_any t.r.1 t.r.2.1 t.r.2.2.1 t.r.2.2.2 W
    clear hk hk6 hk7 hk8 k0 k1 k2 k3
    go_enter Tryz.func6, Tryz.ntmps6
    go_wp2_with fail
    refine (c1 _).mono ?_
    rintro e w1 ⟨rfl, E1⟩
    have HE : Hid (Ext W w1) := ((Ext.refl _).alloc _).trans E1
    clear E1
    go_wp2_with fail
    go_ret
    exact ⟨ret_bool HX.out.symm, HE.out⟩
  have k4 := hk
  clear hk
  have HX : Hid (wellT (n + 1) t = false) := by show _ = _; unfold wellT; simp [k0, k1, k2, k3, k4, hk6, hk7, hk8]
  have e0 : (t.k == 0) = false := by simpa using k0
  have e1 : (t.k == 1) = false := by simpa using k1
  have e2 : (t.k == 2) = false := by simpa using k2
  have e3 : (t.k == 3) = false := by simpa using k3
  have e4 : (t.k == 4) = false := by simpa using k4
  have e6 : (t.k == 6) = false := by simpa using hk6
  have e7 : (t.k == 7) = false := by simpa using hk7
  have e8 : (t.k == 8) = false := by simpa using hk8
  clear hk6 hk7 hk8 k0 k1 k2 k3 k4
  go_enter Tryz.func6, Tryz.ntmps6
  go_wp2_with fail
  go_ret
  exact ⟨ret_bool HX.out.symm, (Ext.refl _).alloc _⟩
set_option maxRecDepth 100000 in
theorem well_neg (P : Nat → Prop) (n : Nat) (t : T) (hk : t.k = 6) (hl : t.l.length ≤ 100000) (hx : ∀ x ∈ t.l, ATr 6 P (wellT n) x) : ATr 6 P (wellT (n + 1)) t := by
  intro W pp ln cl h
  have hln : t.l.length = ln := by
    obtain ⟨p, c, h1, _⟩ := h.form
    cases h1; rfl
  have e0 : (t.k == 0) = false := by rw [hk]; rfl
  have e1 : (t.k == 1) = false := by rw [hk]; rfl
  have e2 : (t.k == 2) = false := by rw [hk]; rfl
  have e3 : (t.k == 3) = false := by rw [hk]; rfl
  have e4 : (t.k == 4) = false := by rw [hk]; rfl
  have e6 : (t.k == 6) = true := by rw [hk]; rfl
  have HX : Hid (wellT (n + 1) t = (ln == 1 && t.l.all (wellT n))) := by show _ = _; unfold wellT; simp [hk, hln]
  have HC : Hid (∀ W', Ext W W' → Calls Tryz.prog 16 #[.slice pp ln cl, .func (.func 6) #[] #[]] W' fun e w' => e = .returned (.bool (t.l.all (wellT n))) ∧ Ext W' w') := fun W' e => all_any 6 P (wellT n) t.l pp ln cl W' hl (enters_of Tryz.func6 (by kernel_rfl) rfl) hx (h.ext e)
  clear hk hl hx h hln
  by_cases h1 : ln = 1
  · have d1 : ((ln : Int) == 1) = true := by rw [h1]; rfl
    have HY : Hid ((ln == 1) = true) := by show _ = _; rw [h1]; rfl
    clear h1
    go_enter Tryz.func6, Tryz.ntmps6
    go_wp2_with fail
    refine (HC.out _ ((Ext.refl _).alloc _)).mono ?_
    rintro e w1 ⟨rfl, E1⟩
    have HE : Hid (Ext W w1) := ((Ext.refl _).alloc _).trans E1
    clear E1
    go_wp2_with fail
    go_ret
    exact ⟨ret_bool (by rw [HX.out, HY.out]; rfl), HE.out⟩
  · have d1 : ((ln : Int) == 1) = false := by simp; omega
    have HY : Hid ((ln == 1) = false) := by show _ = _; simpa using h1
    clear h1
    go_enter Tryz.func6, Tryz.ntmps6
    go_wp2_with fail
    go_ret
    exact ⟨ret_bool (by rw [HX.out, HY.out]; rfl), (Ext.refl _).alloc _⟩
set_option maxRecDepth 100000 in
theorem well_bin (P : Nat → Prop) (n : Nat) (t : T) (hk : t.k = 7) (hl : t.l.length ≤ 100000) (hx : ∀ x ∈ t.l, ATr 6 P (wellT n) x) : ATr 6 P (wellT (n + 1)) t := by
  intro W pp ln cl h
  have hln : t.l.length = ln := by
    obtain ⟨p, c, h1, _⟩ := h.form
    cases h1; rfl
  have e0 : (t.k == 0) = false := by rw [hk]; rfl
  have e1 : (t.k == 1) = false := by rw [hk]; rfl
  have e2 : (t.k == 2) = false := by rw [hk]; rfl
  have e3 : (t.k == 3) = false := by rw [hk]; rfl
  have e4 : (t.k == 4) = false := by rw [hk]; rfl
  have e6 : (t.k == 6) = false := by rw [hk]; rfl
  have e7 : (t.k == 7) = true := by rw [hk]; rfl
  have HX : Hid (wellT (n + 1) t = (bnd t.s != 0 && ln == 2 && t.l.all (wellT n))) := by show _ = _; unfold wellT; simp [hk, hln]
  have HC : Hid (∀ W', Ext W W' → Calls Tryz.prog 16 #[.slice pp ln cl, .func (.func 6) #[] #[]] W' fun e w' => e = .returned (.bool (t.l.all (wellT n))) ∧ Ext W' w') := fun W' e => all_any 6 P (wellT n) t.l pp ln cl W' hl (enters_of Tryz.func6 (by kernel_rfl) rfl) hx (h.ext e)
  have cB := fun W => binds_any (bs t.s) W
  have es : (bs t.s).data.toList = t.s := rfl
  rw [es] at cB
  obtain ⟨bb, hbb⟩ : ∃ bb, bnd t.s = bb := ⟨_, rfl⟩
  rw [hbb] at cB HX
  generalize bs t.s = q at *
  clear hk hl hx h hln es hbb
  by_cases h0 : bb = 0
  · have b1 : ((bb : Int) != 0) = false := by rw [h0]; rfl
    have HY : Hid ((bb != 0) = false) := by show _ = _; rw [h0]; rfl
    clear h0
    go_enter Tryz.func6, Tryz.ntmps6
    go_wp2_with fail
    refine (cB _).mono ?_
    rintro e w1 ⟨rfl, rfl⟩
    go_wp2_with fail
    go_ret
    exact ⟨ret_bool (by rw [HX.out, HY.out]; rfl), (Ext.refl _).alloc _⟩
  have b1 : ((bb : Int) != 0) = true := by simp; omega
  have HY0 : Hid ((bb != 0) = true) := by show _ = _; simpa using h0
  clear h0
  by_cases h1 : ln = 2
  · have d1 : ((ln : Int) == 2) = true := by rw [h1]; rfl
    have HY : Hid ((ln == 2) = true) := by show _ = _; rw [h1]; rfl
    clear h1
    go_enter Tryz.func6, Tryz.ntmps6
    go_wp2_with fail
    refine (cB _).mono ?_
    rintro e w1 ⟨rfl, rfl⟩
    go_wp2_with fail
    refine (HC.out _ ((Ext.refl _).alloc _)).mono ?_
    rintro e w1 ⟨rfl, E1⟩
    have HE : Hid (Ext W w1) := ((Ext.refl _).alloc _).trans E1
    clear E1
    go_wp2_with fail
    go_ret
    exact ⟨ret_bool (by rw [HX.out, HY.out, HY0.out]; rfl), HE.out⟩
  · have d1 : ((ln : Int) == 2) = false := by simp; omega
    have HY : Hid ((ln == 2) = false) := by show _ = _; simpa using h1
    clear h1
    go_enter Tryz.func6, Tryz.ntmps6
    go_wp2_with fail
    refine (cB _).mono ?_
    rintro e w1 ⟨rfl, rfl⟩
    go_wp2_with fail
    go_ret
    exact ⟨ret_bool (by rw [HX.out, HY.out, HY0.out]; rfl), (Ext.refl _).alloc _⟩
set_option maxRecDepth 100000 in
theorem well_call (P : Nat → Prop) (n : Nat) (t : T) (hk : t.k = 8) (hl : t.l.length ≤ 100000) (hx : ∀ x ∈ t.l, ATr 19 P (argT n) x) : ATr 6 P (wellT (n + 1)) t := by
  intro W pp ln cl h
  have hln : t.l.length = ln := by
    obtain ⟨p, c, h1, _⟩ := h.form
    cases h1; rfl
  have e0 : (t.k == 0) = false := by rw [hk]; rfl
  have e1 : (t.k == 1) = false := by rw [hk]; rfl
  have e2 : (t.k == 2) = false := by rw [hk]; rfl
  have e3 : (t.k == 3) = false := by rw [hk]; rfl
  have e4 : (t.k == 4) = false := by rw [hk]; rfl
  have e6 : (t.k == 6) = false := by rw [hk]; rfl
  have e7 : (t.k == 7) = false := by rw [hk]; rfl
  have e8 : (t.k == 8) = true := by rw [hk]; rfl
  have HX : Hid (wellT (n + 1) t = ((kno t.s).isSome && decide (knA t.s ≤ ln) && decide ((ln : Int) ≤ knB t.s) && t.l.all (argT n))) := by show _ = _; unfold wellT; simp only [hk, hln]; rfl
  have HC : Hid (∀ W', Ext W W' → Calls Tryz.prog 16 #[.slice pp ln cl, .func (.func 19) #[] #[]] W' fun e w' => e = .returned (.bool (t.l.all (argT n))) ∧ Ext W' w') := fun W' e => all_any 19 P (argT n) t.l pp ln cl W' hl (enters_of Tryz.func19 (by kernel_rfl) rfl) hx (h.ext e)
  have cK := fun W => known_any (bs t.s) W
  have es : (bs t.s).data.toList = t.s := rfl
  rw [es] at cK
  obtain ⟨ka, hka⟩ : ∃ ka, knA t.s = ka := ⟨_, rfl⟩
  obtain ⟨kb, hkb⟩ : ∃ kb, knB t.s = kb := ⟨_, rfl⟩
  rw [hka, hkb] at cK HX
  generalize bs t.s = q at *
  clear hk hl hx h hln es hka hkb
  cases hs : (kno t.s).isSome
  · rw [hs] at cK HX
    clear hs
    go_enter Tryz.func6, Tryz.ntmps6
    go_wp2_with fail
    refine (cK _).mono ?_
    rintro e w1 ⟨rfl, rfl⟩
    go_wp2_with fail
    go_ret
    exact ⟨ret_bool (by rw [HX.out]; rfl), (Ext.refl _).alloc _⟩
  rw [hs] at cK HX
  clear hs
  by_cases h1 : ka ≤ (ln : Int)
  · have d1 : decide (ka ≤ (ln : Int)) = true := by simpa using h1
    rw [d1] at HX
    by_cases h2 : (ln : Int) ≤ kb
    · have d2 : decide ((ln : Int) ≤ kb) = true := by simpa using h2
      rw [d2] at HX
      go_enter Tryz.func6, Tryz.ntmps6
      go_wp2_with fail
      refine (cK _).mono ?_
      rintro e w1 ⟨rfl, rfl⟩
      go_wp2_with fail
      refine (HC.out _ ((Ext.refl _).alloc _)).mono ?_
      rintro e w1 ⟨rfl, E1⟩
      have HE : Hid (Ext W w1) := ((Ext.refl _).alloc _).trans E1
      clear E1
      go_wp2_with fail
      go_ret
      exact ⟨ret_bool (by rw [HX.out]; rfl), HE.out⟩
    · have d2 : decide ((ln : Int) ≤ kb) = false := by simpa using h2
      rw [d2] at HX
      go_enter Tryz.func6, Tryz.ntmps6
      go_wp2_with fail
      refine (cK _).mono ?_
      rintro e w1 ⟨rfl, rfl⟩
      go_wp2_with fail
      go_ret
      exact ⟨ret_bool (by rw [HX.out]; rfl), (Ext.refl _).alloc _⟩
  · have d1 : decide (ka ≤ (ln : Int)) = false := by simpa using h1
    rw [d1] at HX
    go_enter Tryz.func6, Tryz.ntmps6
    go_wp2_with fail
    refine (cK _).mono ?_
    rintro e w1 ⟨rfl, rfl⟩
    go_wp2_with fail
    go_ret
    exact ⟨ret_bool (by rw [HX.out]; rfl), (Ext.refl _).alloc _⟩
/-- Well of any tree that is not deeper than n. -/
theorem well_any (P : Nat → Prop) (n : Nat) : ∀ t, Hr n t → ATr 6 P (wellT n) t := by
  induction n with
  | zero => intro t h; exact h.elim
  | succ n ih =>
    intro t h
    by_cases h6 : t.k = 6
    · exact well_neg P n t h6 h.1 (fun x hx => ih x (h.2 x hx))
    by_cases h7 : t.k = 7
    · exact well_bin P n t h7 h.1 (fun x hx => ih x (h.2 x hx))
    by_cases h8 : t.k = 8
    · exact well_call P n t h8 h.1 (fun x hx => isArg_any P n x (ih x (h.2 x hx)))
    exact well_leaf P n t h6 h7 h8
end Go.Proofs.YtmapfpeaaipdoaaGreatDoor

namespace Go.Proofs.YtmapfpeaaipdoaaGreatDoor
open Go.ChangeShapes Go.WideShapes Go.ChangeAt Go.RowKit

theorem ownK : ownKnob Tryz.prog.godebug = none := by kernel_rfl
/-- A datum's cells. -/
def flat : Nat → DataW Unit → List Value
  | _ + 1, .lit (.int k z) => [.int k z]
  | _ + 1, .lit (.string l) => [.string ⟨l.toArray⟩]
  | n + 1, .agg ds => ds.flatMap (flat n)
  | _, _ => []
def layIn (cs : List Value) : Obj → Obj
  | .cells _ t frozen => .cells cs.toArray t frozen
  | o => o
theorem cellsStr : Tryz.prog.cellsOf 9 = 1 := by kernel_rfl
/-- A listed array of strings: its cells. -/
theorem strs_of {W : World} {rest : List (String × DataW Unit)} {name : String} {g : Nat} {T : TypeId} {n : Nat} (ls : List (List UInt8)) (gN : Tryz.prog.globalNamed name = some g) (gT : (Tryz.prog.globals[g]?).map (·.type) = some T)
    (uT : Tryz.prog.underlying T = some (.array n 9)) (cT : Tryz.prog.cellsOf T = n)
    (h : laidMet Tryz.prog ((name, .agg (ls.map fun l => .lit (.string l))) :: rest) W) : g < W.heap.size ∧ ∀ i l, i < n → ls[i]? = some l → W.cell? ⟨g, i, none⟩ = some (.string (bs l)) := by
  obtain ⟨ps, ⟨g', t', cs, fuel, p, q, hg', ht', hvar, hd, _, _⟩, _⟩ := h
  obtain rfl := Option.some.inj (gN.symm.trans hg')
  obtain rfl := Option.some.inj (gT.symm.trans ht')
  have hcell := World.var?_cell gN hvar
  have hsz : g < W.heap.size := by
    have h0 := hvar
    simp only [World.var?, gN, Option.bind_some] at h0
    cases hb : W.heap[g]? with
    | none => rw [hb] at h0; cases h0
    | some o => exact (Array.getElem?_eq_some_iff.1 hb).1
  refine ⟨hsz, ?_⟩
  cases fuel with
  | zero => simp [DataW.trod] at hd
  | succ fuel =>
    simp only [DataW.trod, uT, cellsStr, cT, Nat.mul_one] at hd
    split at hd
    · obtain ⟨xs, hm, hx⟩ := Option.map_eq_some_iff.1 hd
      have hxs : xs.map (·.1) = (ls.map fun l => (.lit (.string l) : DataW Unit)) := by
        have := congrArg Prod.fst hx
        simpa using this
      intro i l hi hl
      obtain ⟨b, hb, hf⟩ := Lib.mapM_at hm i i (by simp [hi])
      obtain ⟨s, hc, rfl, _⟩ := DataW.trod_string Tryz.underlying9 hf
      have h1 : cs.toList[i]? = some (.string s) := by
        have := congrArg (·[0]?) hc
        simpa [List.getElem?_take, List.getElem?_drop] using this
      have h2 : (xs.map (·.1))[i]? = some (DataW.lit (.string s.data.toList) : DataW Unit) := by simp [hb]
      rw [hxs, List.getElem?_map, hl] at h2
      simp only [Option.map_some, Option.some.injEq, DataW.lit.injEq, Lit.string.injEq] at h2
      rw [hcell i, h2, bs_of]
      simpa using h1
    · cases hd
def nmL8 : List (List UInt8) := [[], [35, 82, 69, 70, 33], [35, 86, 65, 76, 85, 69, 33], [35, 68, 73, 86, 47, 48, 33], [35, 78, 85, 77, 33], [35, 67, 89, 67, 76, 69, 33]]
/-- The tables that the program reads. -/
def Tab8 (w : World) : Prop := Tab w ∧ Tab7 w
theorem Tab8.ext {w w' : World} (h : Tab8 w) (e : Ext w w') : Tab8 w' := ⟨h.1.ext e, h.2.ext e⟩
def laidList : List (String × DataW Unit) := Rows.parseTreesRow.laid
def layAll (h : Array Obj) : Array Obj := [(4, flat 4 Rows.laid_math_bits_deBruijn32tab), (5, flat 4 Rows.laid_math_bits_deBruijn64tab), (3, flat 4 Rows.laid_internal_strconv_uint64pow10), (1, flat 4 Rows.laid_cadastre_value_names), (0, flat 4 Rows.laid_cadastre_lex_signs)].foldl (fun h x => h.modify x.1 (layIn x.2)) h
noncomputable def laidWorld (os : Os) : World :=
  { World.holding Tryz.prog os ⟨#[], #[], []⟩ with heap := layAll (World.holding Tryz.prog os ⟨#[], #[], []⟩).heap }
theorem gPow : Tryz.prog.globalNamed "internal/strconv.uint64pow10" = some 3 := by kernel_rfl
theorem gPowType : (Tryz.prog.globals[3]?).map (·.type) = some 134 := by kernel_rfl
theorem cellsPow : Tryz.prog.cellsOf 134 = 20 := by kernel_rfl
theorem cellsU64 : Tryz.prog.cellsOf 103 = 1 := by kernel_rfl
theorem tab_of {W : World} (h : laidMetH Tryz.prog laidList W) : Tab8 W := by
  rw [MakeChecks.laidMetH_plain _ _ _ (by kernel_rfl)] at h
  have h0 : laidMet Tryz.prog [("math/bits.deBruijn32tab", Rows.laid_math_bits_deBruijn32tab), ("math/bits.deBruijn64tab", Rows.laid_math_bits_deBruijn64tab), ("internal/strconv.uint64pow10", Rows.laid_internal_strconv_uint64pow10), ("cadastre/value.names", .agg (nmL8.map fun l => .lit (.string l))), ("cadastre/lex.signs", .agg (sgsL.map fun l => .lit (.string l)))] W := h
  have h3 : laidMet Tryz.prog [("internal/strconv.uint64pow10", Rows.laid_internal_strconv_uint64pow10), ("cadastre/value.names", .agg (nmL8.map fun l => .lit (.string l))), ("cadastre/lex.signs", .agg (sgsL.map fun l => .lit (.string l)))] W := laidMet.tail (laidMet.tail (h0))
  have h1 : laidMet Tryz.prog [("cadastre/value.names", .agg (nmL8.map fun l => .lit (.string l))), ("cadastre/lex.signs", .agg (sgsL.map fun l => .lit (.string l)))] W := laidMet.tail (laidMet.tail (laidMet.tail (h0)))
  have h2 : laidMet Tryz.prog [("cadastre/lex.signs", .agg (sgsL.map fun l => .lit (.string l)))] W := laidMet.tail (laidMet.tail (laidMet.tail (laidMet.tail (h0))))
  obtain ⟨z, k⟩ := strs_of nmL8 (g := 1) (T := 92) (n := 6) (by kernel_rfl) (by kernel_rfl) Tryz.underlying92 (by kernel_rfl) h1
  obtain ⟨z', k'⟩ := strs_of sgsL (g := 0) (T := 82) (n := 15) (by kernel_rfl) (by kernel_rfl) Tryz.underlying82 (by kernel_rfl) h2
  refine ⟨Lib.tabIs_of_head gPow gPowType Tryz.underlying134 Tryz.underlying103 cellsU64 cellsPow h3, ⟨z, k 0 _ (by decide) rfl, k 1 _ (by decide) rfl, k 2 _ (by decide) rfl, k 3 _ (by decide) rfl, k 4 _ (by decide) rfl, k 5 _ (by decide) rfl⟩, z', fun i p hp => k' i p ?_ hp⟩
  exact (List.getElem?_eq_some_iff.mp hp).1
end Go.Proofs.YtmapfpeaaipdoaaGreatDoor

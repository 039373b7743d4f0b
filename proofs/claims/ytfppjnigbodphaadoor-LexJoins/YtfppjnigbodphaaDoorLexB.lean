/-
  The contracts of package lex's word, sign and failure: a word, or a panic that tells the place and why.
-/
import Derived.Test.YtfppjnigbodphaaDoorLexA
import Derived.Test.YtfppjnigbodphaaDoorBlk5
import Derived.Test.YtfppjnigbodphaaDoorShelf
import Derived.Defers
namespace Go.Proofs.YtfppjnigbodphaaDoor
open Go.RowKit
set_option maxHeartbeats 1000000

/-- A word in memory. -/
def aggT (t : Tk) : Value := .agg #[.int .i64 t.1, .int .i64 t.2.1, .string (bs t.2.2.1), .int .i64 t.2.2.2.1, .int .i64 t.2.2.2.2]
/-- The panic that tells a place, and why. -/
def flt (k : Nat) (c : Int) : Ending := .panicked [{ v := .iface 34 (.agg #[.int .i64 (k : Int), .int .i64 c]), recovered := false }]
/-- How a word is answered that begins at a place. -/
def NxR (r : Except Int Wd) (k : Nat) (e : Ending) : Prop :=
  match r with
  | .ok x => e = .returned (.tuple #[.agg #[.int .i64 x.1, .int .i64 0, .string (bs x.2.1), .int .i64 x.2.2.1, .int .i64 x.2.2.2.1], .int .i64 ((k + x.2.2.2.2 : Nat) : Int)])
  | .error c => e = flt k c
theorem nx_fin (x : Wd) (k : Nat) (i : Int) (hi : i = ((k + x.2.2.2.2 : Nat) : Int)) :
    NxR (.ok x) k (.returned (.tuple #[.agg #[.int .i64 x.1, .int .i64 0, .string (bs x.2.1), .int .i64 x.2.2.1, .int .i64 x.2.2.2.1], .int .i64 i])) := by subst hi; rfl
theorem byte_ne {c : UInt8} (n : Nat) (hn : n < 256) : ((c.toNat : Int) == (n : Int)) = (c == UInt8.ofNat n) := by
  rw [Bool.eq_iff_iff]; simp; constructor
  · intro h; refine UInt8.toNat_inj.mp ?_; rw [UInt8.toNat_ofNat']; omega
  · rintro rfl; rw [UInt8.toNat_ofNat']; omega
theorem sub_list (s : ByteArray) (i j : Nat) : (s.extract i j).data.toList = (s.data.toList.drop i).take (j - i) := by
  rw [Lib.extract_data]
theorem sub_bs (s : ByteArray) (i n : Nat) : s.extract i (i + n) = bs ((s.data.toList.drop i).take n) := by
  have h := sub_list s i (i + n)
  rw [Nat.add_sub_cancel_left] at h
  rw [← h]; rfl
theorem rest_bs (s : ByteArray) (i : Nat) : s.extract i s.size = bs (s.data.toList.drop i) := by
  have h := sub_list s i s.size
  rw [List.take_of_length_le (by simp)] at h
  rw [← h]; rfl

theorem lword_any (s : ByteArray) (k : Nat) (w : World) (hk : k ≤ s.size) (hs : s.size ≤ 300) :
    Calls Tryd.prog 26 #[.string s, .int .i64 (k : Int)] w fun e w' => NxR (wdR (s.data.toList.drop k)) k e ∧ Ext w w' := by
  have c1 := fun W => past_word s k W hk hs
  have hr : run inW (s.data.toList.drop k) ≤ s.size - k := by have := runL_le inW (s.data.toList.drop k); simp at this; omega
  have HN : Hid (wdR (s.data.toList.drop k) = .ok (2, (s.data.toList.drop k).take (run inW (s.data.toList.drop k)), 0, 0, run inW (s.data.toList.drop k))) := rfl
  have HX : Hid (s.extract k (k + run inW (s.data.toList.drop k)) = bs ((s.data.toList.drop k).take (run inW (s.data.toList.drop k)))) := sub_bs _ _ _
  obtain ⟨m, hm⟩ : ∃ m, k + run inW (s.data.toList.drop k) = m := ⟨_, rfl⟩
  have HM : Hid (k + run inW (s.data.toList.drop k) = m) := hm
  rw [hm] at c1 HX
  have m1 : k ≤ m := by omega
  have m2 : m ≤ s.size := by omega
  clear hm hr
  go_enter Tryd.func26, Tryd.ntmps26
  go_wp2_with fail
  refine (c1 _).mono ?_
  rintro e w1 ⟨rfl, rfl⟩
  go_wp2_with fail
  refine fin5 _ (blk5_top rfl (Ext.refl _)) rfl ((Ext.refl _).alloc _) (fun g0 g1 g2 g3 g4 => by simp [results, Tryd.results26, go_sem, g0, g1, g2, g3, g4]; rfl) (fun h => ⟨?_, h⟩)
  rw [HN.out, HX.out, ← HM.out]
  exact rfl

/-! ### What is sought in a table -/
theorem find_here {α : Type} {l : List α} {q : α → Bool} {j : Nat} {x : α} (h : (l.take j).find? q = none) (hx : l[j]? = some x) (hq : q x = true) : l.find? q = some x := by
  have hj : j < l.length := (List.getElem?_eq_some_iff.mp hx).1
  have e : l = l.take j ++ x :: l.drop (j + 1) := by
    rw [List.getElem?_eq_getElem hj] at hx
    cases hx
    rw [← List.drop_eq_getElem_cons hj, List.take_append_drop]
  rw [e, List.find?_append, h]; simp [hq]
theorem find_on {α : Type} {l : List α} {q : α → Bool} {j : Nat} {x : α} (h : (l.take j).find? q = none) (hx : l[j]? = some x) (hq : q x = false) : (l.take (j + 1)).find? q = none := by
  rw [List.take_add_one, hx, List.find?_append, h]; simp [hq]
theorem find_end {α : Type} {l : List α} {q : α → Bool} {j : Nat} (h : (l.take j).find? q = none) (hj : l.length ≤ j) : l.find? q = none := by
  rwa [List.take_of_length_le hj] at h

/-- The errors' names, and the signs, lie where the program's text lays them. -/
def Nm (w : World) : Prop := 1 < w.heap.size ∧
  w.cell? ⟨1, 0, none⟩ = some (.string ⟨#[]⟩) ∧ w.cell? ⟨1, 1, none⟩ = some (.string ⟨#[35, 82, 69, 70, 33]⟩) ∧ w.cell? ⟨1, 2, none⟩ = some (.string ⟨#[35, 86, 65, 76, 85, 69, 33]⟩) ∧
  w.cell? ⟨1, 3, none⟩ = some (.string ⟨#[35, 68, 73, 86, 47, 48, 33]⟩) ∧ w.cell? ⟨1, 4, none⟩ = some (.string ⟨#[35, 78, 85, 77, 33]⟩) ∧ w.cell? ⟨1, 5, none⟩ = some (.string ⟨#[35, 67, 89, 67, 76, 69, 33]⟩)
theorem Nm.ext {w w' : World} (h : Nm w) (e : Ext w w') : Nm w' := by
  obtain ⟨hs, h0, h1, h2, h3, h4, h5⟩ := h
  have k := fun o => e.cell.1 1 o hs
  exact ⟨Nat.lt_of_lt_of_le hs e.sz, (k 0).trans h0, (k 1).trans h1, (k 2).trans h2, (k 3).trans h3, (k 4).trans h4, (k 5).trans h5⟩
def Sg (w : World) : Prop := 0 < w.heap.size ∧ ∀ i p, sgsL[i]? = some p → w.cell? ⟨0, i, none⟩ = some (.string (bs p))
theorem Sg.ext {w w' : World} (h : Sg w) (e : Ext w w') : Sg w' :=
  ⟨Nat.lt_of_lt_of_le h.1 e.sz, fun i p hp => (e.cell.1 0 i h.1).trans (h.2 i p hp)⟩
def Tab7 (w : World) : Prop := Nm w ∧ Sg w
theorem Tab7.ext {w w' : World} (h : Tab7 w) (e : Ext w w') : Tab7 w' := ⟨h.1.ext e, h.2.ext e⟩

theorem errname_at (i : Nat) (x : Int × List UInt8) (hx : errsL[i]? = some x) (w : World) (hN : Nm w) : x.1 = (i : Int) + 1 ∧ Calls Tryd.prog 35 #[.int .i64 ((i + 1 : Nat) : Int)] w fun r w' => r = .returned (.string (bs x.2)) ∧ w' = w := by
  obtain ⟨hs, h0, h1, h2, h3, h4, h5⟩ := hN
  have hi : i < 5 := (List.getElem?_eq_some_iff.mp hx).1
  have hh : i = 0 ∨ i = 1 ∨ i = 2 ∨ i = 3 ∨ i = 4 := by omega
  rcases hh with rfl | rfl | rfl | rfl | rfl
  all_goals
    simp [errsL] at hx
    subst hx
    refine ⟨rfl, ?_⟩
    clear hi
    go_enter Tryd.func35, Tryd.ntmps35
    go_wp2_with fail
    go_ret
    exact ⟨rfl, rfl⟩

theorem failure_any (s : ByteArray) (k : Nat) (w : World) (hk : k ≤ s.size) (hs : s.size ≤ 300) (hN : Nm w) :
    Calls Tryd.prog 27 #[.string s, .int .i64 (k : Int)] w fun e w' => NxR (errR (s.data.toList.drop k)) k e ∧ Ext w w' := by
  have HN : Hid (Nm w) := hN
  have HX : Hid (s.extract k s.size = bs (s.data.toList.drop k)) := rest_bs s k
  obtain ⟨q, hq⟩ : ∃ q, s.extract k s.size = q := ⟨_, rfl⟩
  have hqs : q.size ≤ 300 := by rw [← hq, ByteArray.size_extract]; omega
  have HQ : Hid (q.data.toList = s.data.toList.drop k) := by show _ = _; rw [← hq, HX.out]; rfl
  have hz : (s.size : Int) = (s.size : Int) := rfl
  clear hN HX hz
  go_enter Tryd.func27, Tryd.ntmps27
  go_wp2_with fail
  go_loopw [6] (fun i wr => ∃ j : Nat, j ≤ 5 ∧ i = .int .i64 ((j + 1 : Nat) : Int) ∧ (errsL.take j).find? (fun x => x.2.isPrefixOf (s.data.toList.drop k)) = none ∧ wr = w.alloc (.cells #[.int .i64 0, .int .i64 0, .string ⟨#[]⟩, .int .i64 0, .int .i64 0] 30)) (fun i _ => 6 - (intOf i).toNat)
  case atStart => exact ⟨0, by omega, rfl, rfl, rfl⟩
  case round =>
    obtain ⟨j, hj, rfl, hf, rfl⟩ := hrel
    have HF : Hid ((errsL.take j).find? (fun x => x.2.isPrefixOf (s.data.toList.drop k)) = none) := hf
    clear hf
    by_cases hlt : j < 5
    · obtain ⟨x, hx⟩ : ∃ x, errsL[j]? = some x := ⟨_, List.getElem?_eq_getElem (by simp [errsL]; omega)⟩
      have c1 := fun W h => (errname_at j x hx W h).2
      have HY : Hid (x.1 = (j : Int) + 1) := (errname_at j x hx w HN.out).1
      have HE : Hid (errsL[j]? = some x) := hx
      have hxs : (bs x.2).size ≤ 10 := by
        have hh : j = 0 ∨ j = 1 ∨ j = 2 ∨ j = 3 ∨ j = 4 := by omega
        rcases hh with rfl | rfl | rfl | rfl | rfl <;> (simp [errsL] at hx; subst hx; decide)
      have HZ : Hid ((bs x.2).size = x.2.length) := bs_size _
      have HP : Hid (x.2.isPrefixOf (s.data.toList.drop k) = Lib.hasPrefix q.data.toList (bs x.2).data.toList) := by show _ = _; rw [HQ.out]; rfl
      have c2 := fun W => Tryd.strings_HasPrefix q (bs x.2) W
      rw [← HP.out] at c2
      obtain ⟨t, ht⟩ : ∃ t, x.2.isPrefixOf (s.data.toList.drop k) = t := ⟨_, rfl⟩
      rw [ht] at c2
      have HT : Hid (x.2.isPrefixOf (s.data.toList.drop k) = t) := ht
      clear hx ht HP
      generalize hb : bs x.2 = b at c1 c2 hxs HZ
      have HB : Hid (bs x.2 = b) := hb
      clear hb
      have wk : wrap64 (((j + 1 : Nat) : Int) + 1) = ((j + 1 + 1 : Nat) : Int) := by unfold wrap64; omega
      have hl1 : ((j + 1 : Nat) : Int) ≤ 5 := by omega
      cases t
      · go_wp2_with fail
        refine (c1 _ (HN.out.ext ((Ext.refl _).alloc _))).mono ?_
        rintro e w1 ⟨rfl, rfl⟩
        go_wp2_with fail
        refine (c2 _).mono ?_
        rintro e w1 ⟨rfl, rfl⟩
        go_wp2_with fail
        go_roundw
        case rel => exact ⟨j + 1, by omega, by go_num, find_on HF.out HE.out HT.out, trivial⟩
        case measure => simp [intOf]; omega
      · go_wp2_with fail
        refine (c1 _ (HN.out.ext ((Ext.refl _).alloc _))).mono ?_
        rintro e w1 ⟨rfl, rfl⟩
        go_wp2_with fail
        refine (c2 _).mono ?_
        rintro e w1 ⟨rfl, rfl⟩
        go_wp2_with fail
        refine fin5 _ (blk5_top rfl (Ext.refl _)) rfl ((Ext.refl _).alloc _) (fun g0 g1 g2 g3 g4 => by simp [results, Tryd.results27, go_sem, g0, g1, g2, g3, g4]; rfl) (fun h => ⟨?_, h⟩)
        have hr : errR (s.data.toList.drop k) = .ok (4, [], 0, x.1, x.2.length) := by unfold errR errT; rw [find_here HF.out HE.out HT.out]
        rw [hr, HY.out, ← HZ.out]
        exact nx_fin (4, [], 0, (j : Int) + 1, b.size) k _ (by simp)
    · have hl1 : ¬ ((j + 1 : Nat) : Int) ≤ 5 := by omega
      go_wp2_with fail
      have hr : errR (s.data.toList.drop k) = .error 4 := by unfold errR errT; rw [find_end HF.out (by simp [errsL]; omega)]
      exact ⟨rfl, by rw [hr]; rfl, (Ext.refl _).alloc _⟩
def sgA : Value := .agg #[.string (bs [60, 62]), .string (bs [60, 61]), .string (bs [62, 61]), .string (bs [60]), .string (bs [62]), .string (bs [61]), .string (bs [43]), .string (bs [45]), .string (bs [42]), .string (bs [47]), .string (bs [38]), .string (bs [40]), .string (bs [41]), .string (bs [44]), .string (bs [58])]
theorem sg_idx0 (W : World) : (Instr.index 57 sgA (.int .i64 0)).run Tryd.prog W = .ok (.string (bs [60, 62])) W := by kernel_rfl
theorem sg_idx1 (W : World) : (Instr.index 57 sgA (.int .i64 1)).run Tryd.prog W = .ok (.string (bs [60, 61])) W := by kernel_rfl
theorem sg_idx2 (W : World) : (Instr.index 57 sgA (.int .i64 2)).run Tryd.prog W = .ok (.string (bs [62, 61])) W := by kernel_rfl
theorem sg_idx3 (W : World) : (Instr.index 57 sgA (.int .i64 3)).run Tryd.prog W = .ok (.string (bs [60])) W := by kernel_rfl
theorem sg_idx4 (W : World) : (Instr.index 57 sgA (.int .i64 4)).run Tryd.prog W = .ok (.string (bs [62])) W := by kernel_rfl
theorem sg_idx5 (W : World) : (Instr.index 57 sgA (.int .i64 5)).run Tryd.prog W = .ok (.string (bs [61])) W := by kernel_rfl
theorem sg_idx6 (W : World) : (Instr.index 57 sgA (.int .i64 6)).run Tryd.prog W = .ok (.string (bs [43])) W := by kernel_rfl
theorem sg_idx7 (W : World) : (Instr.index 57 sgA (.int .i64 7)).run Tryd.prog W = .ok (.string (bs [45])) W := by kernel_rfl
theorem sg_idx8 (W : World) : (Instr.index 57 sgA (.int .i64 8)).run Tryd.prog W = .ok (.string (bs [42])) W := by kernel_rfl
theorem sg_idx9 (W : World) : (Instr.index 57 sgA (.int .i64 9)).run Tryd.prog W = .ok (.string (bs [47])) W := by kernel_rfl
theorem sg_idx10 (W : World) : (Instr.index 57 sgA (.int .i64 10)).run Tryd.prog W = .ok (.string (bs [38])) W := by kernel_rfl
theorem sg_idx11 (W : World) : (Instr.index 57 sgA (.int .i64 11)).run Tryd.prog W = .ok (.string (bs [40])) W := by kernel_rfl
theorem sg_idx12 (W : World) : (Instr.index 57 sgA (.int .i64 12)).run Tryd.prog W = .ok (.string (bs [41])) W := by kernel_rfl
theorem sg_idx13 (W : World) : (Instr.index 57 sgA (.int .i64 13)).run Tryd.prog W = .ok (.string (bs [44])) W := by kernel_rfl
theorem sg_idx14 (W : World) : (Instr.index 57 sgA (.int .i64 14)).run Tryd.prog W = .ok (.string (bs [58])) W := by kernel_rfl
theorem sg_idx (j : Nat) (p : List UInt8) (h : sgsL[j]? = some p) (W : World) : (Instr.index 57 sgA (.int .i64 (j : Int))).run Tryd.prog W = .ok (.string (bs p)) W := by
  have hj : j < 15 := (List.getElem?_eq_some_iff.mp h).1
  have hh : j = 0 ∨ j = 1 ∨ j = 2 ∨ j = 3 ∨ j = 4 ∨ j = 5 ∨ j = 6 ∨ j = 7 ∨ j = 8 ∨ j = 9 ∨ j = 10 ∨ j = 11 ∨ j = 12 ∨ j = 13 ∨ j = 14 := by omega
  rcases hh with rfl | rfl | rfl | rfl | rfl | rfl | rfl | rfl | rfl | rfl | rfl | rfl | rfl | rfl | rfl
  · simp [sgsL] at h; subst h; exact sg_idx0 W
  · simp [sgsL] at h; subst h; exact sg_idx1 W
  · simp [sgsL] at h; subst h; exact sg_idx2 W
  · simp [sgsL] at h; subst h; exact sg_idx3 W
  · simp [sgsL] at h; subst h; exact sg_idx4 W
  · simp [sgsL] at h; subst h; exact sg_idx5 W
  · simp [sgsL] at h; subst h; exact sg_idx6 W
  · simp [sgsL] at h; subst h; exact sg_idx7 W
  · simp [sgsL] at h; subst h; exact sg_idx8 W
  · simp [sgsL] at h; subst h; exact sg_idx9 W
  · simp [sgsL] at h; subst h; exact sg_idx10 W
  · simp [sgsL] at h; subst h; exact sg_idx11 W
  · simp [sgsL] at h; subst h; exact sg_idx12 W
  · simp [sgsL] at h; subst h; exact sg_idx13 W
  · simp [sgsL] at h; subst h; exact sg_idx14 W
theorem sign_any (s : ByteArray) (k : Nat) (w : World) (hk : k ≤ s.size) (hs : s.size ≤ 300) (hS : Sg w) :
    Calls Tryd.prog 28 #[.string s, .int .i64 (k : Int)] w fun e w' => NxR (sgR (s.data.toList.drop k)) k e ∧ Ext w w' := by
  have HX : Hid (s.extract k s.size = bs (s.data.toList.drop k)) := rest_bs s k
  obtain ⟨q, hq⟩ : ∃ q, s.extract k s.size = q := ⟨_, rfl⟩
  have hqs : q.size ≤ 300 := by rw [← hq, ByteArray.size_extract]; omega
  have HQ : Hid (q.data.toList = s.data.toList.drop k) := by show _ = _; rw [← hq, HX.out]; rfl
  have hz : 0 < w.heap.size := hS.1
  have d0 : w.cell? ⟨0, 0, none⟩ = some (.string (bs [60, 62])) := hS.2 0 _ rfl
  have d1 : w.cell? ⟨0, 1, none⟩ = some (.string (bs [60, 61])) := hS.2 1 _ rfl
  have d2 : w.cell? ⟨0, 2, none⟩ = some (.string (bs [62, 61])) := hS.2 2 _ rfl
  have d3 : w.cell? ⟨0, 3, none⟩ = some (.string (bs [60])) := hS.2 3 _ rfl
  have d4 : w.cell? ⟨0, 4, none⟩ = some (.string (bs [62])) := hS.2 4 _ rfl
  have d5 : w.cell? ⟨0, 5, none⟩ = some (.string (bs [61])) := hS.2 5 _ rfl
  have d6 : w.cell? ⟨0, 6, none⟩ = some (.string (bs [43])) := hS.2 6 _ rfl
  have d7 : w.cell? ⟨0, 7, none⟩ = some (.string (bs [45])) := hS.2 7 _ rfl
  have d8 : w.cell? ⟨0, 8, none⟩ = some (.string (bs [42])) := hS.2 8 _ rfl
  have d9 : w.cell? ⟨0, 9, none⟩ = some (.string (bs [47])) := hS.2 9 _ rfl
  have d10 : w.cell? ⟨0, 10, none⟩ = some (.string (bs [38])) := hS.2 10 _ rfl
  have d11 : w.cell? ⟨0, 11, none⟩ = some (.string (bs [40])) := hS.2 11 _ rfl
  have d12 : w.cell? ⟨0, 12, none⟩ = some (.string (bs [41])) := hS.2 12 _ rfl
  have d13 : w.cell? ⟨0, 13, none⟩ = some (.string (bs [44])) := hS.2 13 _ rfl
  have d14 : w.cell? ⟨0, 14, none⟩ = some (.string (bs [58])) := hS.2 14 _ rfl
  clear HX hS
  go_enter Tryd.func28, Tryd.ntmps28
  go_wp2_with fail
  clear d0 d1 d2 d3 d4 d5 d6 d7 d8 d9 d10 d11 d12 d13 d14
  go_loopw [9] (fun i wr => ∃ j : Nat, j ≤ 15 ∧ i = .int .i64 (j : Int) ∧ (sgsL.take j).find? (fun p => p.isPrefixOf (s.data.toList.drop k)) = none ∧ wr = w.alloc (.cells #[.int .i64 0, .int .i64 0, .string ⟨#[]⟩, .int .i64 0, .int .i64 0] 30)) (fun i _ => 15 - (intOf i).toNat)
  case atStart => exact ⟨0, by omega, rfl, rfl, rfl⟩
  case round =>
    obtain ⟨j, hj, rfl, hf, rfl⟩ := hrel
    have HF : Hid ((sgsL.take j).find? (fun p => p.isPrefixOf (s.data.toList.drop k)) = none) := hf
    clear hf
    by_cases hlt : j < 15
    · obtain ⟨x, hx⟩ : ∃ x, sgsL[j]? = some x := ⟨_, List.getElem?_eq_getElem (by simp [sgsL]; omega)⟩
      have hi := fun W => sg_idx j x hx W
      unfold sgA at hi
      have HE : Hid (sgsL[j]? = some x) := hx
      have hxs : (bs x).size ≤ 10 := by
        have hm := List.mem_of_getElem? hx
        simp [sgsL] at hm
        rcases hm with rfl | rfl | rfl | rfl | rfl | rfl | rfl | rfl | rfl | rfl | rfl | rfl | rfl | rfl | rfl <;> decide
      have HZ : Hid ((bs x).size = x.length) := bs_size _
      have HP : Hid (x.isPrefixOf (s.data.toList.drop k) = Lib.hasPrefix q.data.toList (bs x).data.toList) := by show _ = _; rw [HQ.out]; rfl
      have c2 := fun W => Tryd.strings_HasPrefix q (bs x) W
      rw [← HP.out] at c2
      obtain ⟨t, ht⟩ : ∃ t, x.isPrefixOf (s.data.toList.drop k) = t := ⟨_, rfl⟩
      rw [ht] at c2
      have HT : Hid (x.isPrefixOf (s.data.toList.drop k) = t) := ht
      clear hx ht HP
      generalize hb : bs x = b at hi c2 hxs HZ
      have HB : Hid (bs x = b) := hb
      clear hb
      have wk : wrap64 ((j : Int) + 1) = ((j + 1 : Nat) : Int) := by unfold wrap64; omega
      have hl1 : (j : Int) < 15 := by omega
      cases t
      · go_wp2_with fail
        refine (c2 _).mono ?_
        rintro e w1 ⟨rfl, rfl⟩
        go_wp2_with fail
        go_roundw
        case rel => exact ⟨j + 1, by omega, by go_num, find_on HF.out HE.out HT.out, trivial⟩
        case measure => simp [intOf]; omega
      · go_wp2_with fail
        refine (c2 _).mono ?_
        rintro e w1 ⟨rfl, rfl⟩
        go_wp2_with fail
        refine fin5 _ (blk5_top rfl (Ext.refl _)) rfl ((Ext.refl _).alloc _) (fun g0 g1 g2 g3 g4 => by simp [results, Tryd.results28, go_sem, g0, g1, g2, g3, g4]; rfl) (fun h => ⟨?_, h⟩)
        have hr : sgR (s.data.toList.drop k) = .ok (3, x, 0, 0, x.length) := by unfold sgR sgT; rw [find_here HF.out HE.out HT.out]
        rw [hr, ← HZ.out, ← HB.out]
        exact nx_fin (3, x, 0, 0, (bs x).size) k _ (by simp)
    · have hl1 : ¬ (j : Int) < 15 := by omega
      go_wp2_with fail
      have hr : sgR (s.data.toList.drop k) = .error 4 := by unfold sgR sgT; rw [find_end HF.out (by simp [sgsL]; omega)]
      exact ⟨rfl, by rw [hr]; rfl, (Ext.refl _).alloc _⟩
end Go.Proofs.YtfppjnigbodphaaDoor

/-
  Package print's Formula, of any tree not too deep; Tidy.
  Package print's Tidy; lives.
  The document's Small: a tree with not too many parts, and not too deep.
  The document's Own: a tree in memory of its own.
-/
import Derived.Test.YtdjniiginnlmhaaGreatDoorQ23
import Derived.Test.YtdjniiginnlmhaaGreatDoorQ30
import Derived.Test.YtdjniiginnlmhaaGreatDoorQ12
import Derived.Test.YtdjniiginnlmhaaGreatDoorQ21
namespace Go.Proofs.YtdjniiginnlmhaaGreatDoor
open Go.RowKit
set_option maxHeartbeats 6000000

set_option maxRecDepth 100000 in
theorem pform_any (n : Nat) (t : T) (hH : Hr n t) (hW : Wf t) (hz : szT n t ≤ 100000) (P : Nat → Prop) (pp : Option Addr) (ln cl : Nat) (w : World) (hT : Tab9 w) (hL : IsL w P (.slice pp ln cl) t.l) :
    Calls Tryz.prog 10 #[.agg #[.int .i64 t.k, .int .i64 t.n, .string (bs t.s), .int .i64 t.e, .int .i64 t.r.1, .int .i64 t.r.2.1, .bool t.r.2.2.1, .bool t.r.2.2.2, .int .i64 t.q.1, .int .i64 t.q.2.1, .bool t.q.2.2.1, .bool t.q.2.2.2, .slice pp ln cl]] w fun e w' => e = .returned (.tuple #[.string (bs (if wellT n t then shT n t else [])), .int .i64 (if wellT n t then 0 else 1)]) ∧ Ext w w' := by
  have HT : Hid (Tab9 w) := hT
  have HI : Hid (IsL w P (.slice pp ln cl) t.l) := hL
  have HZ : Hid (701 * szT n t ≤ 90000000) := by show _ ≤ _; omega
  have c1 := fun W h => well_any P n t hH W pp ln cl h
  cases hw : wellT n t
  · rw [hw] at c1
    clear hw hT hL hz hH hW
    go_enter Tryz.func10, Tryz.ntmps10
    go_wp2_with fail
    refine (c1 _ (HI.out.ext ((Ext.refl _).alloc _))).mono ?_
    rintro e w1 ⟨rfl, E1⟩
    have HE : Hid (Ext w w1) := ((Ext.refl _).alloc _).trans E1
    clear E1
    go_wp2_with fail
    go_ret2
    exact ⟨rfl, HE.out⟩
  · have HP : Hid (PTr n t) := tree_any n t hH hW (.inl hw)
    have HS0 : Hid (shT n t ≠ []) := sh_ne n t hw
    rw [hw] at c1
    clear hw hT hL hz hH hW
    go_enter Tryz.func10, Tryz.ntmps10
    go_wp2_with fail
    refine (c1 _ (HI.out.ext ((Ext.refl _).alloc _))).mono ?_
    rintro e w1 ⟨rfl, E1⟩
    have HE : Hid (Ext w w1) := ((Ext.refl _).alloc _).trans E1
    obtain ⟨qz, ⟨k0, k1, k2, k3, k4, k5, k6, k7, k8, k9, k10, k11, k12⟩, gz⟩ := blk13_top (b := w.heap.size) rfl E1
    have HL1 : Hid (IsL w1 (fun _ => True) (.slice pp ln cl) t.l) := (HI.out.ext HE.out).mono (fun _ _ _ => trivial)
    have HB : Hid (Bu w1 w1.heap.size [] (w1.alloc (.cells #[.pointer none, .slice none 0 0] 59))) := ⟨(Ext.refl _).alloc _, Lib.fresh_isBuilder 59 5 w1⟩
    clear E1 gz c1
    go_wp2_with fail
    refine (HP.out w1 _ w1.heap.size [] pp ln cl (HT.out.ext HE.out) HB.out HL1.out (by have := HZ.out; simp; omega)).mono ?_
    rintro e w2 ⟨rfl, B2, K2⟩
    have HB2 : Hid (Bu w1 w1.heap.size (shT n t) w2) := by show Bu _ _ _ _; simpa using B2
    clear B2 K2 k0 k1 k2 k3 k4 k5 k6 k7 k8 k9 k10 k11 k12
    go_wp2_with fail
    refine (pstring_any w1 w1.heap.size _ _ HB2.out HS0.out).mono ?_
    rintro e w3 ⟨rfl, E3⟩
    have HE3 : Hid (Ext w w3) := HE.out.trans E3
    clear E3
    go_wp2_with fail
    go_ret2
    exact ⟨rfl, HE3.out⟩
end Go.Proofs.YtdjniiginnlmhaaGreatDoor

namespace Go.Proofs.YtdjniiginnlmhaaGreatDoor
open Go.RowKit
set_option maxHeartbeats 6000000

def TabP (w : World) : Prop := Tab w ∧ Tab7 w ∧ Mx w
theorem TabP.ext {w w' : World} (h : TabP w) (e : Ext w w') : TabP w' := ⟨h.1.ext e, h.2.1.ext e, h.2.2.ext e⟩
theorem TabP.to9 {w : World} (h : TabP w) : Tab9 w := ⟨h.1, h.2.1.1, h.2.2⟩
theorem ret_sii {a b : ByteArray} {i j k l : Int} (h1 : a = b) (h2 : i = j) (h3 : k = l) : Ending.returned (.tuple #[.string a, .int .i64 i, .int .i64 k]) = .returned (.tuple #[.string b, .int .i64 j, .int .i64 l]) := by rw [h1, h2, h3]
theorem parR_at {l : List UInt8} (h : (parR l).2.2 = 0) : (parR l).2.1 = 0 := by
  unfold parR at h ⊢
  split at h
  · rename_i h1
    rw [if_pos h1]
    unfold prs at h ⊢
    split at h
    · exact absurd h (cd_ne _)
    · split at h
      · rename_i h2; rw [if_pos h2]
      · exact absurd h (show ¬ (4 : Int) = 0 by decide)
  · rename_i h1; exact absurd h h1
set_option maxRecDepth 100000 in
theorem ptidy_any (n : Nat) (s : ByteArray) (l : List UInt8) (hl : s.data.toList = l) (w : World) (hs : s.size ≤ maxLen) (hT : TabP w) (hH : (parR l).2.2 = 0 → Hr n (parR l).1 ∧ Wf (parR l).1 ∧ szT n (parR l).1 ≤ 100000 ∧ wellT n (parR l).1 = true) :
    Calls Tryz.prog 17 #[.string s] w fun e w' => e = .returned (.tuple #[.string (bs (if (parR l).2.2 = 0 then shT n (parR l).1 else [])), .int .i64 (parR l).2.1, .int .i64 (parR l).2.2]) ∧ Ext w w' := by
  have HT : Hid (TabP w) := hT
  have c1 := pformula_any s w hs hT.2.1 hT.1
  rw [hl] at c1
  have HA : Hid ((parR l).2.2 = 0 → (parR l).2.1 = 0) := parR_at
  have HH : Hid ((parR l).2.2 = 0 → Hr n (parR l).1 ∧ Wf (parR l).1 ∧ szT n (parR l).1 ≤ 100000 ∧ wellT n (parR l).1 = true) := hH
  unfold FormQ at c1
  obtain ⟨t, ht⟩ : ∃ t, (parR l).1 = t := ⟨_, rfl⟩
  obtain ⟨pa, hpa⟩ : ∃ pa, (parR l).2.1 = pa := ⟨_, rfl⟩
  obtain ⟨pe, hpe⟩ : ∃ pe, (parR l).2.2 = pe := ⟨_, rfl⟩
  rw [ht, hpa, hpe] at c1 ⊢
  rw [ht, hpe] at HH
  rw [hpa, hpe] at HA
  obtain ⟨X, hX⟩ : ∃ X, bs (if pe = 0 then shT n t else []) = X := ⟨_, rfl⟩
  rw [hX]
  clear hT hH hl ht hpa hpe
  by_cases h0 : pe = 0
  · have p0 : (pe != 0) = false := by rw [h0]; rfl
    have HP := HH.out h0
    have HPA : Hid (pa = 0 ∧ pe = 0) := ⟨HA.out h0, h0⟩
    have C2 : Hid (∀ W pp ln cl, TabP W → IsL W (fun _ => True) (.slice pp ln cl) t.l → Calls Tryz.prog 10 #[.agg #[.int .i64 t.k, .int .i64 t.n, .string (bs t.s), .int .i64 t.e, .int .i64 t.r.1, .int .i64 t.r.2.1, .bool t.r.2.2.1, .bool t.r.2.2.2, .int .i64 t.q.1, .int .i64 t.q.2.1, .bool t.q.2.2.1, .bool t.q.2.2.2, .slice pp ln cl]] W fun e w' => e = .returned (.tuple #[.string (bs (shT n t)), .int .i64 0]) ∧ Ext W w') := by
      intro W pp ln cl hW hL
      have h := pform_any n t HP.1 HP.2.1 HP.2.2.1 (fun _ => True) pp ln cl W hW.to9 hL
      rw [HP.2.2.2] at h
      exact h
    have HR : Hid (bs (shT n t) = X) := by show _ = _; rw [← hX, if_pos h0]
    clear h0 HP HH HA hX
    go_enter Tryz.func17, Tryz.ntmps17
    go_wp2_with fail
    refine c1.mono ?_
    rintro e w1 ⟨lv, rfl, hL, E1⟩
    obtain ⟨pp, cl, hlv, hcl⟩ := hL.form
    obtain ⟨ln, hln⟩ : ∃ ln, t.l.length = ln := ⟨_, rfl⟩
    rw [hln] at hlv
    subst hlv
    have HL1 : Hid (IsL w1 (fun _ => True) (.slice pp ln cl) t.l ∧ Ext w w1) := ⟨hL.mono (fun _ _ _ => trivial), E1⟩
    clear hL hcl hln E1 c1
    unfold aggX
    go_wp2_with fail
    refine (C2.out _ pp ln cl (HT.out.ext (HL1.out.2.alloc _)) (HL1.out.1.ext ((Ext.refl _).alloc _))).mono ?_
    rintro e w2 ⟨rfl, E2⟩
    have HE2 : Hid (Ext w w2) := (HL1.out.2.alloc _).trans E2
    clear E2
    go_wp2_with fail
    go_ret3
    exact ⟨ret_sii HR.out (by first | exact HPA.out.1.symm | rfl) (by first | rfl | exact HPA.out.2.symm), HE2.out⟩
  · have p0 : (pe != 0) = true := by simpa using h0
    have HR : Hid ((⟨#[]⟩ : ByteArray) = X) := by show _ = _; rw [← hX, if_neg h0]; rfl
    clear h0 HH HA hX
    go_enter Tryz.func17, Tryz.ntmps17
    go_wp2_with fail
    refine c1.mono ?_
    rintro e w1 ⟨lv, rfl, hL, E1⟩
    obtain ⟨pp, cl, hlv, hcl⟩ := hL.form
    obtain ⟨ln, hln⟩ : ∃ ln, t.l.length = ln := ⟨_, rfl⟩
    rw [hln] at hlv
    subst hlv
    have HE1 : Hid (Ext w w1) := E1
    clear hL hcl hln E1 c1
    unfold aggX
    go_wp2_with fail
    go_ret3
    exact ⟨ret_sii HR.out rfl rfl, HE1.out.alloc _⟩
def live9 : T := tBin [45] (tBin [43] (tRef (1, 1, false, false)) (tBin [42] (tNum 20000) (tNum 30000))) (tBin [45] (tNum 40000) (tNum 50000))
theorem live9_par : parR [40, 65, 49, 43, 40, 50, 42, 51, 41, 41, 45, 32, 40, 52, 45, 53, 41] = (live9, 0, 0) := by kernel_rfl
theorem i64_s (a : Int) (h : -1000000 ≤ a ∧ a ≤ 1000000) : I64 a := ⟨by omega, by omega⟩
theorem wf0 (t : T) (h : t.l = []) (h1 : I64 t.k) (h2 : I64 t.n) (h3 : t.s.length ≤ maxLen) (h4 : I64 t.e) (h5 : I64 t.r.1) (h6 : I64 t.r.2.1) (h7 : I64 t.q.1) (h8 : I64 t.q.2.1) : Wf t := .mk t h1 h2 h3 h4 h5 h6 h7 h8 (by rw [h]; intro x hx; cases hx)
theorem wf_num (n : Int) (h : I64 n) : Wf (tNum n) := wf0 _ rfl (i64_s 0 (by decide)) h (Nat.zero_le _) (i64_s 0 (by decide)) (i64_s 0 (by decide)) (i64_s 0 (by decide)) (i64_s 0 (by decide)) (i64_s 0 (by decide))
theorem wf_bin (s : List UInt8) (x y : T) (hs : s.length ≤ maxLen) (hx : Wf x) (hy : Wf y) : Wf (tBin s x y) := .mk _ (i64_s 7 (by decide)) (i64_s 0 (by decide)) hs (i64_s 0 (by decide)) (i64_s 0 (by decide)) (i64_s 0 (by decide)) (i64_s 0 (by decide)) (i64_s 0 (by decide)) (by
  intro z hz
  rcases List.mem_cons.1 hz with rfl | hz
  · exact hx
  · rcases List.mem_cons.1 hz with rfl | hz
    · exact hy
    · cases hz)
theorem wf_neg (x : T) (hx : Wf x) : Wf (tNeg x) := .mk _ (i64_s 6 (by decide)) (i64_s 0 (by decide)) (Nat.zero_le _) (i64_s 0 (by decide)) (i64_s 0 (by decide)) (i64_s 0 (by decide)) (i64_s 0 (by decide)) (i64_s 0 (by decide)) (by
  intro z hz
  rcases List.mem_cons.1 hz with rfl | hz
  · exact hx
  · cases hz)
theorem wf_ref (r : Rf) (h1 : I64 r.1) (h2 : I64 r.2.1) : Wf (tRef r) := wf0 _ rfl (i64_s 4 (by decide)) (i64_s 0 (by decide)) (Nat.zero_le _) (i64_s 0 (by decide)) h1 h2 (i64_s 0 (by decide)) (i64_s 0 (by decide))
theorem hr_leaf (n : Nat) (t : T) (h : t.l = []) : Hr (n + 1) t := ⟨by rw [h]; decide, by rw [h]; intro x hx; cases hx⟩
theorem hr_neg (n : Nat) (x : T) (hx : Hr n x) : Hr (n + 1) (tNeg x) := ⟨by show 1 ≤ 100000; decide, by
  intro z hz
  rcases List.mem_cons.1 hz with rfl | hz
  · exact hx
  · cases hz⟩
theorem hr_bin (n : Nat) (s : List UInt8) (x y : T) (hx : Hr n x) (hy : Hr n y) : Hr (n + 1) (tBin s x y) := ⟨by show 2 ≤ 100000; decide, by
  intro z hz
  rcases List.mem_cons.1 hz with rfl | hz
  · exact hx
  · rcases List.mem_cons.1 hz with rfl | hz
    · exact hy
    · cases hz⟩
theorem live9_ok : Hr 4 live9 ∧ Wf live9 ∧ szT 4 live9 ≤ 100000 ∧ wellT 4 live9 = true := by
  refine ⟨?_, ?_, by have h : szT 4 live9 = 9 := (by kernel_rfl); rw [h]; decide, by kernel_rfl⟩
  · refine hr_bin _ _ _ _ (hr_bin _ _ _ _ (hr_leaf _ _ rfl) (hr_bin _ _ _ _ (hr_leaf _ _ rfl) (hr_leaf _ _ rfl))) (hr_bin _ _ _ _ (hr_leaf _ _ rfl) (hr_leaf _ _ rfl))
  · exact wf_bin _ _ _ (by decide) (wf_bin _ _ _ (by decide) (wf_ref _ (i64_s 1 (by decide)) (i64_s 1 (by decide))) (wf_bin _ _ _ (by decide) (wf_num _ (i64_s _ (by decide))) (wf_num _ (i64_s _ (by decide))))) (wf_bin _ _ _ (by decide) (wf_num _ (i64_s _ (by decide))) (wf_num _ (i64_s _ (by decide))))
theorem live9_sh : shT 4 live9 = [65, 49, 43, 50, 42, 51, 45, 40, 52, 45, 53, 41] := by kernel_rfl
set_option maxRecDepth 100000 in
theorem lives9_any (w : World) (hT : TabP w) : Calls Tryz.prog 9 #[] w fun e w' => e = .returned (.bool true) ∧ Ext w w' := by
  have c1 := ptidy_any 4 ⟨#[40, 65, 49, 43, 40, 50, 42, 51, 41, 41, 45, 32, 40, 52, 45, 53, 41]⟩ [40, 65, 49, 43, 40, 50, 42, 51, 41, 41, 45, 32, 40, 52, 45, 53, 41] rfl w (by decide) hT (by rw [live9_par]; exact fun _ => live9_ok)
  rw [live9_par] at c1
  have c2 : Calls Tryz.prog 17 #[.string ⟨#[40, 65, 49, 43, 40, 50, 42, 51, 41, 41, 45, 32, 40, 52, 45, 53, 41]⟩] w fun e w' => e = .returned (.tuple #[.string ⟨#[65, 49, 43, 50, 42, 51, 45, 40, 52, 45, 53, 41]⟩, .int .i64 0, .int .i64 0]) ∧ Ext w w' := by
    refine c1.mono ?_
    rintro e w' ⟨rfl, E⟩
    refine ⟨?_, E⟩
    rw [if_pos rfl, live9_sh]; rfl
  clear c1 hT
  go_enter Tryz.func9, Tryz.ntmps9
  go_wp2_with fail
  refine c2.mono ?_
  rintro e w1 ⟨rfl, E1⟩
  have HE : Hid (Ext w w1) := E1
  clear E1
  go_wp2_with fail
  go_ret
  exact ⟨rfl, HE.out⟩
end Go.Proofs.YtdjniiginnlmhaaGreatDoor

namespace Go.Proofs.YtdjniiginnlmhaaGreatDoor
open Go.RowKit
set_option maxHeartbeats 6000000

def SmQ (n : Nat) (t : T) (most : Int) (W : World) (e : Ending) (w' : World) : Prop :=
  ∃ (m : Int) (ok : Bool), e = .returned (.tuple #[.int .i64 m, .bool ok]) ∧ Ext W w' ∧ 1 ≤ m ∧ m ≤ 1000 + n ∧ m ≤ max most 1 + n ∧ (ok = true → m = szT n t ∧ Hr n t ∧ m ≤ max most 1)
def Sml (n : Nat) (t : T) : Prop := ∀ (W : World) (P : Nat → Prop) (pp : Option Addr) (ln cl : Nat) (most : Int), (n : Int) - 402 ≤ most → most ≤ 1000 → IsL W P (.slice pp ln cl) t.l →
  Calls Tryz.prog 24 #[.agg #[.int .i64 t.k, .int .i64 t.n, .string (bs t.s), .int .i64 t.e, .int .i64 t.r.1, .int .i64 t.r.2.1, .bool t.r.2.2.1, .bool t.r.2.2.2, .int .i64 t.q.1, .int .i64 t.q.2.1, .bool t.q.2.2.1, .bool t.q.2.2.2, .slice pp ln cl], .int .i64 most, .int .i64 (401 - (n : Int))] W (SmQ n t most W)
theorem sum_take {l : List T} {n j : Nat} {x : T} (h : l[j]? = some x) : ((l.take (j + 1)).map (szT n)).sum = ((l.take j).map (szT n)).sum + szT n x := by
  rw [List.take_add_one, h]; simp
set_option maxRecDepth 100000 in
theorem small_deep (t : T) : Sml 0 t := by
  intro W P pp ln cl most _ _ _
  have hd : (401 : Int) - ((0 : Nat) : Int) = 401 := rfl
  rw [hd]
  clear hd
  go_enter Tryz.func24, Tryz.ntmps24
  go_wp2_with fail
  go_ret2
  exact ⟨1, false, rfl, (Ext.refl _).alloc _, by omega, by omega, by omega, fun h => by cases h⟩
set_option maxRecDepth 100000 in
theorem small_step (n : Nat) (hn : n ≤ 400) (ih : ∀ x, Sml n x) (t : T) : Sml (n + 1) t := by
  intro W P pp ln cl most hm1 hm2 hL
  have hln : ln = t.l.length := by
    obtain ⟨p, c, h1, _⟩ := hL.form
    cases h1; rfl
  obtain ⟨d, hd⟩ : ∃ d : Int, 401 - ((n + 1 : Nat) : Int) = d := ⟨_, rfl⟩
  have HD : Hid (401 - (n : Int) = d + 1) := by show _ = _; omega
  have hd0 : 0 ≤ d := by omega
  have hd1 : d ≤ 400 := by omega
  rw [hd]
  have HI : Hid (IsL W P (.slice pp ln cl) t.l) := hL
  have HLN : Hid (ln = t.l.length) := hln
  have HN : Hid (n ≤ 400 ∧ ((n + 1 : Nat) : Int) - 402 ≤ most ∧ most ≤ 1000) := ⟨hn, hm1, hm2⟩
  have HIH : Hid (∀ x, Sml n x) := ih
  have hmA : -1000 ≤ most := by omega
  clear hL hln hd ih hn hm1
  go_enter Tryz.func24, Tryz.ntmps24
  go_wp2_with fail
  go_loopw [8, 9] (fun nv iv wr => ∃ (j : Nat) (a : Int), j ≤ ln ∧ nv = .int .i64 a ∧ iv = .int .i64 (j : Int) ∧ (j : Int) + 1 ≤ a ∧ a ≤ max most 1 ∧ a = 1 + (((t.l.take j).map (szT n)).sum : Nat) ∧ (∀ x ∈ t.l.take j, Hr n x) ∧ BlkX wr W.heap.size t (.slice pp ln cl) ∧ Ext W wr) (fun _ iv _ => ln - (intOf iv).toNat)
  case atStart => exact ⟨0, 1, Nat.zero_le _, rfl, rfl, by omega, by omega, by simp, fun x hx => by simp at hx, blk13_top rfl (Ext.refl _), (Ext.refl _).alloc _⟩
  case round =>
    obtain ⟨j, a, hj, rfl, rfl, ha1, ha2, ha3, hg, hB, hE⟩ := hrel
    have HE : Hid (Ext W wr ∧ (∀ x ∈ t.l.take j, Hr n x) ∧ a = 1 + (((t.l.take j).map (szT n)).sum : Nat)) := ⟨hE, hg, ha3⟩
    have HBX : Hid (BlkX wr W.heap.size t (.slice pp ln cl)) := hB
    have HA2 : Hid (a ≤ max most 1) := ha2
    have ha4 : a ≤ 1000 := by omega
    obtain ⟨qz, ⟨k0, k1, k2, k3, k4, k5, k6, k7, k8, k9, k10, k11, k12⟩, gz⟩ := hB
    clear hE hg ha3 ha2 gz
    by_cases hlt : j < ln
    · have hltI : (j : Int) < (ln : Int) := by omega
      have hI := HI.out.ext HE.out.1
      obtain ⟨gb, off, x, lv, hpp, hx1, hA1, hgb, hA2, hLx, hce⟩ := hI.at (i := j) (by rw [← HLN.out]; exact hlt)
      clear hA1 hA2
      subst hpp
      obtain ⟨pp, cl', hlv, hcl⟩ := hLx.form
      obtain ⟨ln', hln'⟩ : ∃ ln', x.l.length = ln' := ⟨_, rfl⟩
      rw [hln'] at hlv
      subst hlv
      have HX1 : Hid (t.l[j]? = some x) := hx1
      have HC : Hid (Calls Tryz.prog 24 #[.agg #[.int .i64 x.k, .int .i64 x.n, .string (bs x.s), .int .i64 x.e, .int .i64 x.r.1, .int .i64 x.r.2.1, .bool x.r.2.2.1, .bool x.r.2.2.2, .int .i64 x.q.1, .int .i64 x.q.2.1, .bool x.q.2.2.1, .bool x.q.2.2.2, .slice pp ln' cl'], .int .i64 (most - a), .int .i64 (d + 1)] wr (SmQ n x (most - a) wr)) := by
        have := HIH.out x wr P pp ln' cl' (most - a) (by have := HN.out; have := HA2.out; omega) (by omega) hLx
        rw [HD.out] at this
        exact this
      have e0 : wr.cell? ⟨gb, off + j * 13, none⟩ = some (.int .i64 x.k) := hce 0 _ rfl
      have e1 : wr.cell? ⟨gb, off + j * 13 + 1, none⟩ = some (.int .i64 x.n) := hce 1 _ rfl
      have e2 : wr.cell? ⟨gb, off + j * 13 + 2, none⟩ = some (.string (bs x.s)) := hce 2 _ rfl
      have e3 : wr.cell? ⟨gb, off + j * 13 + 3, none⟩ = some (.int .i64 x.e) := hce 3 _ rfl
      have e4 : wr.cell? ⟨gb, off + j * 13 + 4, none⟩ = some (.int .i64 x.r.1) := hce 4 _ rfl
      have e5 : wr.cell? ⟨gb, off + j * 13 + 5, none⟩ = some (.int .i64 x.r.2.1) := hce 5 _ rfl
      have e6 : wr.cell? ⟨gb, off + j * 13 + 6, none⟩ = some (.bool x.r.2.2.1) := hce 6 _ rfl
      have e7 : wr.cell? ⟨gb, off + j * 13 + 7, none⟩ = some (.bool x.r.2.2.2) := hce 7 _ rfl
      have e8 : wr.cell? ⟨gb, off + j * 13 + 8, none⟩ = some (.int .i64 x.q.1) := hce 8 _ rfl
      have e9 : wr.cell? ⟨gb, off + j * 13 + 9, none⟩ = some (.int .i64 x.q.2.1) := hce 9 _ rfl
      have e10 : wr.cell? ⟨gb, off + j * 13 + 10, none⟩ = some (.bool x.q.2.2.1) := hce 10 _ rfl
      have e11 : wr.cell? ⟨gb, off + j * 13 + 11, none⟩ = some (.bool x.q.2.2.2) := hce 11 _ rfl
      have e12 : wr.cell? ⟨gb, off + j * 13 + 12, none⟩ = some (.slice pp ln' cl') := hce 12 _ rfl
      clear hI hx1 hLx hce hcl hln'
      go_wp2_with fail
      refine HC.out.mono ?_
      rintro e w1 ⟨m, ok, rfl, E1, hm1, hm2', hm3, hok⟩
      have HR : Hid (Ext W w1 ∧ m ≤ max (most - a) 1 + n ∧ (ok = true → m = szT n x ∧ Hr n x ∧ m ≤ max (most - a) 1)) := ⟨HE.out.1.trans E1, hm3, hok⟩
      have HBX1 : Hid (BlkX w1 W.heap.size t (.slice (some ⟨gb, off, none⟩) ln cl)) := HBX.out.ext E1
      have hmm : m ≤ 2000 := by have := HN.out; omega
      clear hm3 hok hm2' E1 k0 k1 k2 k3 k4 k5 k6 k7 k8 k9 k10 k11 k12 e0 e1 e2 e3 e4 e5 e6 e7 e8 e9 e10 e11 e12
      cases ok
      · go_wp2_with fail
        go_ret2
        have q1 := HR.out.2.1
        have q2 := HA2.out
        have q3 := HN.out
        exact ⟨a + m, false, rfl, HR.out.1, by omega, by omega, by omega, fun h => by cases h⟩
      · by_cases hgt : most < a + m
        · go_wp2_with fail
          go_ret2
          have q1 := HR.out.2.1
          have q2 := HA2.out
          have q3 := HN.out
          exact ⟨a + m, false, rfl, HR.out.1, by omega, by omega, by omega, fun h => by cases h⟩
        · go_wp2_with fail
          go_roundw
          case rel =>
            obtain ⟨y1, y2, y3⟩ := HR.out.2.2 trivial
            refine ⟨j + 1, a + m, by omega, rfl, by go_num, by omega, by omega, ?_, ?_, HBX1.out, HR.out.1⟩
            · rw [sum_take HX1.out, y1, HE.out.2.2]; omega
            · intro z hz
              rw [List.take_add_one, HX1.out] at hz
              rcases List.mem_append.1 hz with hz | hz
              · exact HE.out.2.1 z hz
              · simp at hz; subst hz; exact y2
          case measure => show ln - ((j : Int) + 1).toNat < ln - ((j : Int)).toNat; omega
    · have hltI : ¬ (j : Int) < (ln : Int) := by omega
      have hjl : j = ln := by omega
      have HT : Hid (t.l.take j = t.l) := by show _ = _; rw [hjl, HLN.out]; exact List.take_length
      clear hlt hjl
      go_wp2_with fail
      go_ret2
      have q1 := HE.out.2.2
      have q2 := HE.out.2.1
      rw [HT.out] at q1 q2
      have q3 := HA2.out
      refine ⟨a, true, rfl, HE.out.1, by omega, by omega, by omega, fun _ => ⟨?_, ⟨?_, q2⟩, q3⟩⟩
      · rw [q1, szT]; omega
      · have h1 : ∀ l : List T, l.length ≤ (l.map (szT n)).sum := by
          intro l
          induction l with
          | nil => simp
          | cons y r ih => simp only [List.map_cons, List.sum_cons, List.length_cons]; have := szT_pos n y; omega
        have := h1 t.l
        omega
theorem small_any (n : Nat) (hn : n ≤ 401) (t : T) : Sml n t := by
  induction n generalizing t with
  | zero => exact small_deep t
  | succ n ih => exact small_step n (by omega) (fun x => ih (by omega) x) t
end Go.Proofs.YtdjniiginnlmhaaGreatDoor

namespace Go.Proofs.YtdjniiginnlmhaaGreatDoor
open Go.RowKit
set_option maxHeartbeats 6000000

def OwnQ (w : World) (t : T) (e : Ending) (w' : World) : Prop := ∃ lv, e = .returned (aggX t lv) ∧ IsL w' (w.heap.size ≤ ·) lv t.l ∧ Ext w w'
def OwnC (t : T) : Prop := ∀ (W : World) (P : Nat → Prop) (pp : Option Addr) (ln cl : Nat), IsL W P (.slice pp ln cl) t.l → Calls Tryz.prog 11 #[.agg #[.int .i64 t.k, .int .i64 t.n, .string (bs t.s), .int .i64 t.e, .int .i64 t.r.1, .int .i64 t.r.2.1, .bool t.r.2.2.1, .bool t.r.2.2.2, .int .i64 t.q.1, .int .i64 t.q.2.1, .bool t.q.2.2.1, .bool t.q.2.2.2, .slice pp ln cl]] W (OwnQ W t)
theorem endO {fn : Func} {a : Act} {w W : World} {g : Nat} {t : T} {lv : Value} {P : Nat → Prop} (B : BlkX W g t lv) (hd : a.defers = []) (hL : IsL W P lv t.l) (hP : ∀ k, P k → w.heap.size ≤ k) (hE : Ext w W)
    (hr : W.cell? ⟨g, 0, none⟩ = some (.int .i64 t.k) → W.cell? ⟨g, 1, none⟩ = some (.int .i64 t.n) → W.cell? ⟨g, 2, none⟩ = some (.string (bs t.s)) → W.cell? ⟨g, 3, none⟩ = some (.int .i64 t.e) → W.cell? ⟨g, 4, none⟩ = some (.int .i64 t.r.1) → W.cell? ⟨g, 5, none⟩ = some (.int .i64 t.r.2.1) → W.cell? ⟨g, 6, none⟩ = some (.bool t.r.2.2.1) → W.cell? ⟨g, 7, none⟩ = some (.bool t.r.2.2.2) → W.cell? ⟨g, 8, none⟩ = some (.int .i64 t.q.1) → W.cell? ⟨g, 9, none⟩ = some (.int .i64 t.q.2.1) → W.cell? ⟨g, 10, none⟩ = some (.bool t.q.2.2.1) → W.cell? ⟨g, 11, none⟩ = some (.bool t.q.2.2.2) → W.cell? ⟨g, 12, none⟩ = some lv → (results fn a.tmps).run Tryz.prog W = .ok (aggX t lv) W) :
    bodyPost Tryz.prog fn (OwnQ w t) .ret a W := by
  obtain ⟨z, ⟨k0, k1, k2, k3, k4, k5, k6, k7, k8, k9, k10, k11, k12⟩, f⟩ := B
  exact bodyPost_ret (hr k0 k1 k2 k3 k4 k5 k6 k7 k8 k9 k10 k11 k12) hd ⟨lv, rfl, hL.mono (fun k hk _ => hP k hk), hE⟩
/-- An empty list in a new block. -/
theorem OwX.zero {W W' : World} {base g : Nat} (hW : W' = W.alloc (.cells #[] 26)) (hg : g = W.heap.size) (hb : base ≤ g) : OwX W' base (.slice (some ⟨g, 0, none⟩) 0 0) [] := by
  subst hW hg
  refine ⟨⟨rfl, .inr ⟨W.heap.size, 0, #[], rfl, hb, ?_, Nat.le_refl _, Nat.zero_le _, rfl, rfl⟩⟩, fun p hp => by cases hp⟩
  show (W.heap.push _)[W.heap.size]? = _; simp
theorem OwX.ext {w w' : World} {base : Nat} {v : Value} {ps : List (T × Value)} (h : OwX w base v ps) (e : Ext w w') : OwX w' base v ps := by
  refine ⟨⟨h.1.1, ?_⟩, fun p hp => (h.2 p hp).ext e⟩
  rcases h.1.2 with h2 | ⟨g, cap, cur, h1, h2, h3, h4⟩
  · exact .inl h2
  · exact .inr ⟨g, cap, cur, h1, h2, (e.block g (heap_lt h3)).trans h3, h4⟩
theorem ext_grown {w W W' : World} {base : Nat} {v : Value} {ps : List (T × Value)} (h : W.grownBy W' v.ownBlock) (hB : OwX W base v ps) (hE : Ext w W) (hb : w.heap.size ≤ base) : Ext w W' :=
  ⟨h.os.trans hE.os, h.tape.trans hE.tape, h.output.trans hE.output, Nat.le_trans hE.size h.size, fun k hk =>
    (h.block k (Nat.lt_of_lt_of_le hk hE.size) (fun e => hB.far (Nat.lt_of_lt_of_le hk hb) e.symm)).trans (hE.block k hk)⟩
theorem BlkX.grown {W W' : World} {base g : Nat} {v lv : Value} {t : T} {ps : List (T × Value)} (B : BlkX W g t lv) (h : W.grownBy W' v.ownBlock) (hB : OwX W base v ps) (hg : g < base) : BlkX W' g t lv := by
  have hz := B.1
  have hb := h.block g hz (fun e => hB.far hg e.symm)
  obtain ⟨z, ⟨k0, k1, k2, k3, k4, k5, k6, k7, k8, k9, k10, k11, k12⟩, f0, f1, f2, f3, f4, f5, f6, f7, f8, f9, f10, f11, f12⟩ := B
  have k := fun o => World.cell?_of_block (a := ⟨g, o, none⟩) hb
  have f := fun o => World.frozen?_of_block (a := ⟨g, o, none⟩) hb
  exact ⟨Nat.lt_of_lt_of_le z h.size, ⟨(k 0).trans k0, (k 1).trans k1, (k 2).trans k2, (k 3).trans k3, (k 4).trans k4, (k 5).trans k5, (k 6).trans k6, (k 7).trans k7, (k 8).trans k8, (k 9).trans k9, (k 10).trans k10, (k 11).trans k11, (k 12).trans k12⟩, (f 0).trans f0, (f 1).trans f1, (f 2).trans f2, (f 3).trans f3, (f 4).trans f4, (f 5).trans f5, (f 6).trans f6, (f 7).trans f7, (f 8).trans f8, (f 9).trans f9, (f 10).trans f10, (f 11).trans f11, (f 12).trans f12⟩
set_option maxRecDepth 100000 in
theorem own_step (t : T) (hl : t.l.length ≤ 100000) (ih : ∀ x ∈ t.l, OwnC x) : OwnC t := by
  intro W P pp ln cl hL
  have hln : ln = t.l.length := by
    obtain ⟨p, c, h1, _⟩ := hL.form
    cases h1; rfl
  have HI : Hid (IsL W P (.slice pp ln cl) t.l) := hL
  have HLN : Hid (ln = t.l.length) := hln
  have HIH : Hid (∀ x ∈ t.l, OwnC x) := ih
  have hl2 : ln ≤ 100000 := by omega
  clear hL hln ih hl
  go_enter Tryz.func11, Tryz.ntmps11
  go_wp2_with fail
  go_loopw [3, 4] (fun xv iv wr => ∃ (j g cap : Nat) (ps : List (T × Value)), j ≤ ln ∧ xv = .slice (some ⟨g, 0, none⟩) j cap ∧ iv = .int .i64 (j : Int) ∧ ps.length = j ∧ OwX wr (W.heap.size + 1 + 1) (.slice (some ⟨g, 0, none⟩) ps.length cap) ps ∧ ps.map Prod.fst = t.l.take j ∧ BlkX wr W.heap.size t (.slice pp ln cl) ∧ BlkX wr (W.heap.size + 1) tz (.slice none 0 0) ∧ Ext W wr) (fun _ iv _ => ln - (intOf iv).toNat)
  case atStart => exact ⟨0, W.heap.size + 1 + 1, 0, [], Nat.zero_le _, rfl, rfl, rfl, OwX.zero rfl (by simp) (Nat.le_refl _), by simp, blk13_top rfl (((Ext.refl _).alloc _).alloc _), BlkX.top (by simp) ((Ext.refl _).alloc _), (((Ext.refl _).alloc _).alloc _).alloc _⟩
  case round =>
    obtain ⟨j, g, cap, ps, hj, rfl, rfl, hpl, hO, hps, hB, hB2, hE⟩ := hrel
    have HO : Hid (OwX wr (W.heap.size + 1 + 1) (.slice (some ⟨g, 0, none⟩) ps.length cap) ps ∧ ps.map Prod.fst = t.l.take j ∧ Ext W wr ∧ ps.length = j) := ⟨hO, hps, hE, hpl⟩
    have HB : Hid (BlkX wr W.heap.size t (.slice pp ln cl) ∧ BlkX wr (W.heap.size + 1) tz (.slice none 0 0)) := ⟨hB, hB2⟩
    obtain ⟨qz, ⟨k0, k1, k2, k3, k4, k5, k6, k7, k8, k9, k10, k11, k12⟩, f0, f1, f2, f3, f4, f5, f6, f7, f8, f9, f10, f11, f12⟩ := hB
    have hwr : W.heap.size + 1 < wr.heap.size := hB2.1
    clear hE hps hO hpl hB2 f0 f1 f2 f3 f4 f5 f6 f7 f8 f9 f10 f11
    by_cases hlt : j < ln
    · have hltI : (j : Int) < (ln : Int) := by omega
      have hI := HI.out.ext HO.out.2.2.1
      obtain ⟨gb, off, x, lv, hpp, hx1, hA1, hgb, hA2, hLx, hce⟩ := hI.at (i := j) (by rw [← HLN.out]; exact hlt)
      clear hA1 hA2
      subst hpp
      obtain ⟨pp, cl', hlv, hcl⟩ := hLx.form
      obtain ⟨ln', hln'⟩ : ∃ ln', x.l.length = ln' := ⟨_, rfl⟩
      rw [hln'] at hlv
      subst hlv
      have HX1 : Hid (t.l[j]? = some x) := hx1
      have HC : Hid (Calls Tryz.prog 11 #[.agg #[.int .i64 x.k, .int .i64 x.n, .string (bs x.s), .int .i64 x.e, .int .i64 x.r.1, .int .i64 x.r.2.1, .bool x.r.2.2.1, .bool x.r.2.2.2, .int .i64 x.q.1, .int .i64 x.q.2.1, .bool x.q.2.2.1, .bool x.q.2.2.2, .slice pp ln' cl']] wr (OwnQ wr x)) := HIH.out x (List.mem_of_getElem? hx1) wr P pp ln' cl' hLx
      have e0 : wr.cell? ⟨gb, off + j * 13, none⟩ = some (.int .i64 x.k) := hce 0 _ rfl
      have e1 : wr.cell? ⟨gb, off + j * 13 + 1, none⟩ = some (.int .i64 x.n) := hce 1 _ rfl
      have e2 : wr.cell? ⟨gb, off + j * 13 + 2, none⟩ = some (.string (bs x.s)) := hce 2 _ rfl
      have e3 : wr.cell? ⟨gb, off + j * 13 + 3, none⟩ = some (.int .i64 x.e) := hce 3 _ rfl
      have e4 : wr.cell? ⟨gb, off + j * 13 + 4, none⟩ = some (.int .i64 x.r.1) := hce 4 _ rfl
      have e5 : wr.cell? ⟨gb, off + j * 13 + 5, none⟩ = some (.int .i64 x.r.2.1) := hce 5 _ rfl
      have e6 : wr.cell? ⟨gb, off + j * 13 + 6, none⟩ = some (.bool x.r.2.2.1) := hce 6 _ rfl
      have e7 : wr.cell? ⟨gb, off + j * 13 + 7, none⟩ = some (.bool x.r.2.2.2) := hce 7 _ rfl
      have e8 : wr.cell? ⟨gb, off + j * 13 + 8, none⟩ = some (.int .i64 x.q.1) := hce 8 _ rfl
      have e9 : wr.cell? ⟨gb, off + j * 13 + 9, none⟩ = some (.int .i64 x.q.2.1) := hce 9 _ rfl
      have e10 : wr.cell? ⟨gb, off + j * 13 + 10, none⟩ = some (.bool x.q.2.2.1) := hce 10 _ rfl
      have e11 : wr.cell? ⟨gb, off + j * 13 + 11, none⟩ = some (.bool x.q.2.2.2) := hce 11 _ rfl
      have e12 : wr.cell? ⟨gb, off + j * 13 + 12, none⟩ = some (.slice pp ln' cl') := hce 12 _ rfl
      clear hI hx1 hLx hce hcl hln'
      go_wp2_with fail
      refine HC.out.mono ?_
      rintro e w3 ⟨lv, rfl, hL, E3⟩
      obtain ⟨qq, cm, hlv, hcm⟩ := hL.form
      obtain ⟨lm, hlm⟩ : ∃ lm, x.l.length = lm := ⟨_, rfl⟩
      rw [hlm] at hlv
      subst hlv
      have hgw : g < wr.heap.size := by
        rcases HO.out.1.1.2 with ⟨q1, _⟩ | ⟨g', cap', cur, q1, _, q3, _⟩
        · cases q1
        · cases q1; exact heap_lt q3
      have HL3 : Hid (IsL w3 (fun k => W.heap.size + 1 + 1 ≤ k ∧ (Value.slice (some ⟨g, 0, none⟩) ps.length cap).ownBlock ≠ some k) (.slice qq lm cm) x.l) := hL.mono (fun k hk hs => ⟨by omega, by simp [Value.ownBlock]; omega⟩)
      have HO3 : Hid (OwX w3 (W.heap.size + 1 + 1) (.slice (some ⟨g, 0, none⟩) ps.length cap) ps ∧ Ext W w3 ∧ BlkX w3 W.heap.size t (.slice (some ⟨gb, off, none⟩) ln cl) ∧ BlkX w3 (W.heap.size + 1) tz (.slice none 0 0)) := ⟨HO.out.1.ext E3, HO.out.2.2.1.trans E3, HB.out.1.ext E3, HB.out.2.ext E3⟩
      have hw3 : W.heap.size + 1 < w3.heap.size := HO3.out.2.2.2.1
      clear hL hcm hlm E3 hgw f12 k0 k1 k2 k3 k4 k5 k6 k7 k8 k9 k10 k11 k12 e0 e1 e2 e3 e4 e5 e6 e7 e8 e9 e10 e11 e12
      unfold aggX
      go_wp2_with (at_builtin; refine x_append _ (W.heap.size + 1 + 1) _ _ _ w3.heap.size ps x qq lm cm rfl rfl (by rfl) (by rfl) (by rw [← HO.out.2.2.2]; exact HO3.out.1.ext ((Ext.refl _).alloc _)) (by rw [← HO.out.2.2.2]; exact HL3.out.ext ((Ext.refl _).alloc _)) ?cR (by rw [HO.out.2.2.2]; omega) (by simp; omega) ?_)
      case cR =>
        intro j u hu
        rw [Addr.add_lit, cell_of_row _ _ _ _ _ (0, 0) (new_top w3 _), Nat.zero_add]
        rw [← hu, ← Array.getElem?_toList]; rfl
      intro v' w4 k1 k2 g4 cap4 hv4
      subst hv4
      have HB4 : Hid (OwX (w3.alloc (.cells #[.int .i64 x.k, .int .i64 x.n, .string (bs x.s), .int .i64 x.e, .int .i64 x.r.1, .int .i64 x.r.2.1, .bool x.r.2.2.1, .bool x.r.2.2.2, .int .i64 x.q.1, .int .i64 x.q.2.1, .bool x.q.2.2.1, .bool x.q.2.2.2, .slice qq lm cm] 26)) (W.heap.size + 1 + 1) (.slice (some ⟨g, 0, none⟩) ps.length cap) ps) := HO3.out.1.ext ((Ext.refl _).alloc _)
      rw [← HO.out.2.2.2] at k2
      have HG : Hid (OwX w4 (W.heap.size + 1 + 1) (.slice (some ⟨g4, 0, none⟩) (ps.length + 1) cap4) (ps ++ [(x, .slice qq lm cm)]) ∧ Ext W w4 ∧ BlkX w4 W.heap.size t (.slice (some ⟨gb, off, none⟩) ln cl) ∧ BlkX w4 (W.heap.size + 1) tz (.slice none 0 0)) :=
        ⟨k1, ext_grown k2 HB4.out (HO3.out.2.1.alloc _) (by omega), (HO3.out.2.2.1.ext ((Ext.refl _).alloc _)).grown k2 HB4.out (by omega), (HO3.out.2.2.2.ext ((Ext.refl _).alloc _)).grown k2 HB4.out (by omega)⟩
      clear k1 k2 HB4
      go_wp2_with fail
      go_roundw
      case rel =>
        refine ⟨j + 1, g4, cap4, ps ++ [(x, .slice qq lm cm)], by omega, by rw [HO.out.2.2.2], by go_num, by rw [List.length_append, HO.out.2.2.2]; rfl, ?_, ?_, HG.out.2.2.1, HG.out.2.2.2, HG.out.2.1⟩
        · rw [List.length_append]; exact HG.out.1
        · rw [List.map_append, HO.out.2.1, List.take_add_one, HX1.out]; rfl
      case measure => show ln - ((j : Int) + 1).toNat < ln - ((j : Int)).toNat; omega
    · have hltI : ¬ (j : Int) < (ln : Int) := by omega
      have hjl : j = ln := by omega
      have HT : Hid (t.l.take j = t.l) := by show _ = _; rw [hjl, HLN.out]; exact List.take_length
      clear hlt hjl
      obtain ⟨qy, ⟨y0, y1, y2, y3, y4, y5, y6, y7, y8, y9, y10, y11, y12⟩, g0, g1, g2, g3, g4, g5, g6, g7, g8, g9, g10, g11, g12⟩ := HB.out.2
      go_wp2_with fail
      have hLL := HO.out.1.isL
      rw [HO.out.2.1, HT.out, HO.out.2.2.2] at hLL
      have HLL : Hid (IsL wr (W.heap.size + 1 + 1 ≤ ·) (.slice (some ⟨g, 0, none⟩) j cap) t.l) := hLL
      clear hLL
      show bodyPost Tryz.prog _ _ _ _ (putX (wr.setCell ⟨W.heap.size, 12, none⟩ (.slice (some ⟨g, 0, none⟩) j cap)) (W.heap.size + 1) t (.slice (some ⟨g, 0, none⟩) j cap))
      have hB6 : BlkX (wr.setCell ⟨W.heap.size, 12, none⟩ (.slice (some ⟨g, 0, none⟩) j cap)) (W.heap.size + 1) tz (.slice none 0 0) := Blk13.far1 HB.out.2 (by omega) 12 _
      have hL6 : IsL (wr.setCell ⟨W.heap.size, 12, none⟩ (.slice (some ⟨g, 0, none⟩) j cap)) (W.heap.size + 1 + 1 ≤ ·) (.slice (some ⟨g, 0, none⟩) j cap) t.l := HLL.out.keep (by simp [World.setCell]) (fun k hk _ => Below.heap_setCell _ _ _ _ (by simp; omega)) (fun _ h _ => h)
      have hE6 : Ext W (wr.setCell ⟨W.heap.size, 12, none⟩ (.slice (some ⟨g, 0, none⟩) j cap)) := HO.out.2.2.1.setCell (Nat.le_refl _) _
      generalize wr.setCell ⟨W.heap.size, 12, none⟩ (.slice (some ⟨g, 0, none⟩) j cap) = W6 at hB6 hL6 hE6 ⊢
      exact endO (hB6.put t _) rfl (putX_L hL6 (fun k hk => by omega)) (fun k hk => by omega) (putX_E hE6 (by omega) _ _) (fun h0 h1 h2 h3 h4 h5 h6 h7 h8 h9 h10 h11 h12 => by simp [results, Tryz.results11, go_sem, h0, h1, h2, h3, h4, h5, h6, h7, h8, h9, h10, h11, h12, aggX])
theorem own_any (n : Nat) (t : T) (h : Hr n t) : OwnC t := by
  induction n generalizing t with
  | zero => cases h
  | succ n ih => exact own_step t h.1 (fun x hx => ih x (h.2 x hx))
end Go.Proofs.YtdjniiginnlmhaaGreatDoor

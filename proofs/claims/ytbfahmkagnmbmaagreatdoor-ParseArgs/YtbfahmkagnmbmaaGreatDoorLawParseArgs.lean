/-
  ParseArgs is proved: for every two texts the call returns true and the arguments read as they did. Its condition: the listed tables lie as the program text lays them (the card ties them).
-/
import Derived.Test.YtbfahmkagnmbmaaGreatDoorQ22
import Derived.Test.YtbfahmkagnmbmaaGreatDoorQ23
import Derived.Test.YtbfahmkagnmbmaaGreatDoorCards
import Derived.Test.YtbfahmkagnmbmaaGreatDoorTie
import Derived.ChangeMaps5
import Derived.SizedLaws
import Derived.Lib.SmallJoins
namespace Go.Proofs.YtbfahmkagnmbmaaGreatDoor.parseArgs
open Go.ChangeShapes Go.WideShapes Go.ChangeAt Go.RowKit
open Go.ChangeMaps (open_string shut_string)
open Go.Joins
set_option maxHeartbeats 6000000
set_option maxRecDepth 100000

theorem walk (a0 a1 : ByteArray) (_h0 : a0.size ≤ maxLen) (_h1 : a1.size ≤ maxLen) (w : World) (hT : Tab8 w) (g0 : a0.size ≤ 140737488351232) (g1 : a1.size ≤ 140737488351232) :
    Calls Tryz.prog 7 #[.string a0, .string a1] w fun e w' => e = .returned (.bool true) ∧ Ext w w' := by
  have HT : Hid (Tab8 w) := hT
  obtain ⟨l, hll⟩ : ∃ l, a0.data.toList = l := ⟨_, rfl⟩
  obtain ⟨m, hmm⟩ : ∃ m, a1.data.toList = m := ⟨_, rfl⟩
  have c1 := pformula_any a0 w (by unfold maxLen; omega) hT.2 hT.1
  rw [hll] at c1
  have HC2 : Hid (∀ W, Tab8 W → Calls Tryz.prog 8 #[.string a1] W (FormQ W m)) := fun W h => by have := pformula_any a1 W (by unfold maxLen; omega) h.2 h.1; rw [hmm] at this; exact this
  have hq : ((⟨#[77, 79, 68, 40]⟩ : ByteArray) ++ a0 ++ (⟨#[44]⟩ : ByteArray) ++ a1 ++ (⟨#[41]⟩ : ByteArray)).data.toList = 77 :: 79 :: 68 :: 40 :: (l ++ 44 :: (m ++ [41])) := by rw [app_list, app_list, app_list, app_list, hll, hmm]; simp
  have e1 : (⟨#[77, 79, 68, 40]⟩ : ByteArray).size = 4 := rfl
  have e2 : (⟨#[44]⟩ : ByteArray).size = 1 := rfl
  have e3 : (⟨#[41]⟩ : ByteArray).size = 1 := rfl
  have s1 : ((⟨#[77, 79, 68, 40]⟩ : ByteArray) ++ a0).size = a0.size + 4 := by rw [ByteArray.size_append, e1]; omega
  have s2 : ((⟨#[77, 79, 68, 40]⟩ : ByteArray) ++ a0 ++ (⟨#[44]⟩ : ByteArray)).size = a0.size + 5 := by rw [ByteArray.size_append, s1, e2]
  have s3 : ((⟨#[77, 79, 68, 40]⟩ : ByteArray) ++ a0 ++ (⟨#[44]⟩ : ByteArray) ++ a1).size = a0.size + a1.size + 5 := by rw [ByteArray.size_append, s2]; omega
  have hqs : ((⟨#[77, 79, 68, 40]⟩ : ByteArray) ++ a0 ++ (⟨#[44]⟩ : ByteArray) ++ a1 ++ (⟨#[41]⟩ : ByteArray)).size ≤ maxLen := by unfold maxLen; rw [ByteArray.size_append, s3, e3]; omega
  have HC3 : Hid (∀ W, Tab8 W → Calls Tryz.prog 8 #[.string ((⟨#[77, 79, 68, 40]⟩ : ByteArray) ++ a0 ++ (⟨#[44]⟩ : ByteArray) ++ a1 ++ (⟨#[41]⟩ : ByteArray))] W (FormQ W (77 :: 79 :: 68 :: 40 :: (l ++ 44 :: (m ++ [41]))))) := fun W h => by have := pformula_any _ W hqs h.2 h.1; rw [hq] at this; exact this
  obtain ⟨t, ht⟩ : ∃ t, (parR l).1 = t := ⟨_, rfl⟩
  obtain ⟨pa, hpa⟩ : ∃ pa, (parR l).2.1 = pa := ⟨_, rfl⟩
  obtain ⟨pe, hpe⟩ : ∃ pe, (parR l).2.2 = pe := ⟨_, rfl⟩
  have H1 : Hid ((parR l).1 = t ∧ (parR l).2.1 = pa ∧ (parR l).2.2 = pe) := ⟨ht, hpa, hpe⟩
  clear ht hpa hpe
  obtain ⟨u, ht⟩ : ∃ u, (parR m).1 = u := ⟨_, rfl⟩
  obtain ⟨qa, hpa⟩ : ∃ qa, (parR m).2.1 = qa := ⟨_, rfl⟩
  obtain ⟨qe, hpe⟩ : ∃ qe, (parR m).2.2 = qe := ⟨_, rfl⟩
  have H2 : Hid ((parR m).1 = u ∧ (parR m).2.1 = qa ∧ (parR m).2.2 = qe) := ⟨ht, hpa, hpe⟩
  clear ht hpa hpe
  obtain ⟨x, ht⟩ : ∃ x, (parR (77 :: 79 :: 68 :: 40 :: (l ++ 44 :: (m ++ [41])))).1 = x := ⟨_, rfl⟩
  obtain ⟨ra, hpa⟩ : ∃ ra, (parR (77 :: 79 :: 68 :: 40 :: (l ++ 44 :: (m ++ [41])))).2.1 = ra := ⟨_, rfl⟩
  obtain ⟨re, hpe⟩ : ∃ re, (parR (77 :: 79 :: 68 :: 40 :: (l ++ 44 :: (m ++ [41])))).2.2 = re := ⟨_, rfl⟩
  have H3 : Hid ((parR (77 :: 79 :: 68 :: 40 :: (l ++ 44 :: (m ++ [41])))).1 = x ∧ (parR (77 :: 79 :: 68 :: 40 :: (l ++ 44 :: (m ++ [41])))).2.1 = ra ∧ (parR (77 :: 79 :: 68 :: 40 :: (l ++ 44 :: (m ++ [41])))).2.2 = re) := ⟨ht, hpa, hpe⟩
  clear ht hpa hpe
  have HX : Hid (pe = 0 → qe = 0 → re = 2 ∨ re = 0 ∧ x = tCall wMod [t, u]) := by
    intro h0 k0
    rw [← H1.out.2.2] at h0
    rw [← H2.out.2.2] at k0
    rcases parR_args h0 k0 with h | h
    · left; rw [← H3.out.2.2]; exact h
    · right; rw [← H3.out.2.2, ← H3.out.1, ← H1.out.1, ← H2.out.1, h]; exact ⟨rfl, rfl⟩
  have HBD : Hid (STr (fun _ => True) t ∧ STr (fun _ => True) u) := ⟨by rw [← H1.out.1]; exact same_all _ (parR_bd l), by rw [← H2.out.1]; exact same_all _ (parR_bd m)⟩
  clear hT hll hmm hq hqs e1 e2
  go_enter Tryz.func7, Tryz.ntmps7
  go_wp2_with fail
  refine (c1).mono ?_
  rintro e w1 ⟨lv, rfl, hL, E1⟩
  obtain ⟨pp, cl, hlv, hcl⟩ := hL.form
  rw [H1.out.1] at hL hlv hcl
  rw [H1.out.1, H1.out.2.1, H1.out.2.2]
  obtain ⟨ln, hln⟩ : ∃ ln, t.l.length = ln := ⟨_, rfl⟩
  rw [hln] at hlv
  subst hlv
  have HL1 : Hid (IsL w1 (fun _ => True) (.slice pp ln cl) t.l ∧ Ext w w1) := ⟨hL.mono (fun _ _ _ => trivial), E1⟩
  clear hL hcl hln E1
  unfold aggX
  clear c1
  go_wp2_with fail
  refine (HC2.out _ (HT.out.ext (HL1.out.2.alloc _))).mono ?_
  rintro e w2 ⟨lv, rfl, hL, E2⟩
  obtain ⟨qq, cm, hlv, hcl⟩ := hL.form
  rw [H2.out.1] at hL hlv hcl
  rw [H2.out.1, H2.out.2.1, H2.out.2.2]
  obtain ⟨lm, hln⟩ : ∃ lm, u.l.length = lm := ⟨_, rfl⟩
  rw [hln] at hlv
  subst hlv
  have HL2 : Hid (IsL w2 (fun _ => True) (.slice qq lm cm) u.l ∧ Ext _ w2) := ⟨hL.mono (fun _ _ _ => trivial), E2⟩
  clear hL hcl hln E2
  unfold aggX
  go_wp2_with fail
  refine (HC3.out _ (HT.out.ext (((HL1.out.2.alloc _).trans HL2.out.2).alloc _))).mono ?_
  rintro e w3 ⟨lv, rfl, hL, E3⟩
  obtain ⟨xx, cx, hlv, hcl⟩ := hL.form
  rw [H3.out.1] at hL hlv hcl
  rw [H3.out.1, H3.out.2.1, H3.out.2.2]
  obtain ⟨lx, hln⟩ : ∃ lx, x.l.length = lx := ⟨_, rfl⟩
  rw [hln] at hlv
  subst hlv
  have HL3 : Hid (IsL w3 (fun _ => True) (.slice xx lx cx) x.l ∧ Ext _ w3) := ⟨hL.mono (fun _ _ _ => trivial), E3⟩
  clear hL hcl hln E3
  unfold aggX
  have HA : Hid (BlkX w3 w1.heap.size t (.slice pp ln cl) ∧ IsL w3 (fun _ => True) (.slice pp ln cl) t.l ∧ BlkX w3 w2.heap.size u (.slice qq lm cm) ∧ IsL w3 (fun _ => True) (.slice qq lm cm) u.l ∧ Ext w w3) := ⟨blk13_top rfl ((HL2.out.2.alloc _).trans HL3.out.2), HL1.out.1.ext (((Ext.refl _).alloc _).trans ((HL2.out.2.alloc _).trans HL3.out.2)), blk13_top rfl HL3.out.2, HL2.out.1.ext (((Ext.refl _).alloc _).trans HL3.out.2), (((HL1.out.2.alloc _).trans HL2.out.2).alloc _).trans HL3.out.2⟩
  by_cases h0 : pe = 0
  · have p0 : (pe != 0) = false := by rw [h0]; rfl
    by_cases k0 : qe = 0
    · have q0 : (qe != 0) = false := by rw [k0]; rfl
      rcases HX.out h0 k0 with h2 | ⟨h2, h3⟩
      · have q2 : (re == 2) = true := by rw [h2]; rfl
        clear h0 k0 h2
        go_wp2_with fail
        refine (plives_any _ (HT.out.2.ext (HA.out.2.2.2.2.alloc _)) (HT.out.1.ext (HA.out.2.2.2.2.alloc _))).mono ?_
        rintro e w9 ⟨rfl, E9⟩
        have HE9 : Hid (Ext w w9) := Ext.trans (HA.out.2.2.2.2.alloc _) E9
        clear E9
        go_wp2_with fail
        go_ret
        exact ⟨rfl, HE9.out⟩
      · have q2 : (re == 2) = false := by rw [h2]; rfl
        have r0 : (re == 0) = true := by rw [h2]; rfl
        subst h3
        obtain ⟨y1a, y1b, y1, y1c⟩ := HL3.out.1.form
        clear y1c
        have hlx : lx = 2 := by cases y1; rfl
        subst hlx
        obtain ⟨gx, ox, x0, lv0, hxx, hx0, z1, z2, z3, hL0, hc0⟩ := HL3.out.1.at (i := 0) (by show 0 < 2; decide)
        clear z1 z2 z3
        subst hxx
        obtain ⟨gy, oy, x1, lv1, hxy, hx1, z1, z2, z3, hL1', hc1⟩ := HL3.out.1.at (i := 1) (by show 1 < 2; decide)
        clear z1 z2 z3
        cases hxy
        have ex0 : x0 = t := by cases hx0; rfl
        have ex1 : x1 = u := by cases hx1; rfl
        subst ex0
        subst ex1
        obtain ⟨px, kx, hv0, z1⟩ := hL0.form
        obtain ⟨qx, ky, hv1, z2⟩ := hL1'.form
        obtain ⟨y2a, y2b, y2, z3⟩ := HL1.out.1.form
        obtain ⟨y3a, y3b, y3, z4⟩ := HL2.out.1.form
        clear z1 z2 z3 z4
        have hn0 : x0.l.length = ln := by cases y2; rfl
        have hn1 : x1.l.length = lm := by cases y3; rfl
        rw [hn0] at hv0
        rw [hn1] at hv1
        subst hv0
        subst hv1
        have ea : Value.agg #[.int .i64 (tCall wMod [x0, x1]).k, .int .i64 (tCall wMod [x0, x1]).n, .string (bs (tCall wMod [x0, x1]).s), .int .i64 (tCall wMod [x0, x1]).e, .int .i64 (tCall wMod [x0, x1]).r.1, .int .i64 (tCall wMod [x0, x1]).r.2.1, .bool (tCall wMod [x0, x1]).r.2.2.1, .bool (tCall wMod [x0, x1]).r.2.2.2, .int .i64 (tCall wMod [x0, x1]).q.1, .int .i64 (tCall wMod [x0, x1]).q.2.1, .bool (tCall wMod [x0, x1]).q.2.2.1, .bool (tCall wMod [x0, x1]).q.2.2.2, .slice (some ⟨gx, ox, none⟩) 2 cx] = .agg #[.int .i64 8, .int .i64 0, .string ⟨#[77, 79, 68]⟩, .int .i64 0, .int .i64 0, .int .i64 0, .bool false, .bool false, .int .i64 0, .int .i64 0, .bool false, .bool false, .slice (some ⟨gx, ox, none⟩) 2 cx] := rfl
        rw [ea]
        have HF : Hid (Blk13 (w3.alloc (.cells #[.int .i64 8, .int .i64 0, .string ⟨#[77, 79, 68]⟩, .int .i64 0, .int .i64 0, .int .i64 0, .bool false, .bool false, .int .i64 0, .int .i64 0, .bool false, .bool false, .slice (some ⟨gx, ox, none⟩) 2 cx] 26)) w3.heap.size (.int .i64 8) (.int .i64 0) (.string ⟨#[77, 79, 68]⟩) (.int .i64 0) (.int .i64 0) (.int .i64 0) (.bool false) (.bool false) (.int .i64 0) (.int .i64 0) (.bool false) (.bool false) (.slice (some ⟨gx, ox, none⟩) 2 cx) ∧ Ext w3 (w3.alloc (.cells #[.int .i64 8, .int .i64 0, .string ⟨#[77, 79, 68]⟩, .int .i64 0, .int .i64 0, .int .i64 0, .bool false, .bool false, .int .i64 0, .int .i64 0, .bool false, .bool false, .slice (some ⟨gx, ox, none⟩) 2 cx] 26))) := ⟨blk13_top rfl (Ext.refl _), (Ext.refl _).alloc _⟩
        have HCC : Hid (∀ V, Ext w3 V → (∀ j v, (cellsT x0 (.slice px ln kx))[j]? = some v → V.cell? ⟨gx, ox + 0 * 13 + j, none⟩ = some v) ∧ (∀ j v, (cellsT x1 (.slice qx lm ky))[j]? = some v → V.cell? ⟨gx, ox + 1 * 13 + j, none⟩ = some v)) := by
          intro V e
          obtain ⟨_, _, _, _, z1, _, _, z4, _⟩ := HL3.out.1.at (i := 0) (by show 0 < 2; decide)
          cases z1
          exact ⟨fun j v h => (e.cell.1 gx _ z4).trans (hc0 j v h), fun j v h => (e.cell.1 gx _ z4).trans (hc1 j v h)⟩
        have HSm : Hid (∀ V, Ext w3 V → Calls Tryz.prog 16 #[.agg #[.int .i64 x0.k, .int .i64 x0.n, .string (bs x0.s), .int .i64 x0.e, .int .i64 x0.r.1, .int .i64 x0.r.2.1, .bool x0.r.2.2.1, .bool x0.r.2.2.2, .int .i64 x0.q.1, .int .i64 x0.q.2.1, .bool x0.q.2.2.1, .bool x0.q.2.2.2, .slice px ln kx], .agg #[.int .i64 x0.k, .int .i64 x0.n, .string (bs x0.s), .int .i64 x0.e, .int .i64 x0.r.1, .int .i64 x0.r.2.1, .bool x0.r.2.2.1, .bool x0.r.2.2.2, .int .i64 x0.q.1, .int .i64 x0.q.2.1, .bool x0.q.2.2.1, .bool x0.q.2.2.2, .slice pp ln cl]] V fun e w' => e = .returned (.bool true) ∧ Ext V w') := fun V e => HBD.out.1 V px pp ln kx cl (hL0.ext e) (HA.out.2.1.ext e)
        have HSn : Hid (∀ V, Ext w3 V → Calls Tryz.prog 16 #[.agg #[.int .i64 x1.k, .int .i64 x1.n, .string (bs x1.s), .int .i64 x1.e, .int .i64 x1.r.1, .int .i64 x1.r.2.1, .bool x1.r.2.2.1, .bool x1.r.2.2.2, .int .i64 x1.q.1, .int .i64 x1.q.2.1, .bool x1.q.2.2.1, .bool x1.q.2.2.2, .slice qx lm ky], .agg #[.int .i64 x1.k, .int .i64 x1.n, .string (bs x1.s), .int .i64 x1.e, .int .i64 x1.r.1, .int .i64 x1.r.2.1, .bool x1.r.2.2.1, .bool x1.r.2.2.2, .int .i64 x1.q.1, .int .i64 x1.q.2.1, .bool x1.q.2.2.1, .bool x1.q.2.2.2, .slice qq lm cm]] V fun e w' => e = .returned (.bool true) ∧ Ext V w') := fun V e => HBD.out.2 V qx qq lm ky cm (hL1'.ext e) (HA.out.2.2.2.1.ext e)
        clear hc0 hc1 hL0 hL1' hx0 hx1 hn0 hn1 ea y1 y2 y3 h0 k0 h2
        go_wp2_with fail
        generalize w3.alloc (.cells #[.int .i64 8, .int .i64 0, .string ⟨#[77, 79, 68]⟩, .int .i64 0, .int .i64 0, .int .i64 0, .bool false, .bool false, .int .i64 0, .int .i64 0, .bool false, .bool false, .slice (some ⟨gx, ox, none⟩) 2 cx] 26) = W4 at HF ⊢
        have mkS : Hid (∀ V, Ext W4 V → (V.cell? ⟨w3.heap.size, 0, none⟩ = some (.int .i64 8) ∧ V.cell? ⟨w3.heap.size, 2, none⟩ = some (.string ⟨#[77, 79, 68]⟩) ∧ V.cell? ⟨w3.heap.size, 12, none⟩ = some (.slice (some ⟨gx, ox, none⟩) 2 cx) ∧ V.cell? ⟨gx, ox, none⟩ = some (.int .i64 x0.k) ∧ V.cell? ⟨gx, ox + 1, none⟩ = some (.int .i64 x0.n) ∧ V.cell? ⟨gx, ox + 2, none⟩ = some (.string (bs x0.s)) ∧ V.cell? ⟨gx, ox + 3, none⟩ = some (.int .i64 x0.e) ∧ V.cell? ⟨gx, ox + 4, none⟩ = some (.int .i64 x0.r.1) ∧ V.cell? ⟨gx, ox + 5, none⟩ = some (.int .i64 x0.r.2.1) ∧ V.cell? ⟨gx, ox + 6, none⟩ = some (.bool x0.r.2.2.1) ∧ V.cell? ⟨gx, ox + 7, none⟩ = some (.bool x0.r.2.2.2) ∧ V.cell? ⟨gx, ox + 8, none⟩ = some (.int .i64 x0.q.1) ∧ V.cell? ⟨gx, ox + 9, none⟩ = some (.int .i64 x0.q.2.1) ∧ V.cell? ⟨gx, ox + 10, none⟩ = some (.bool x0.q.2.2.1) ∧ V.cell? ⟨gx, ox + 11, none⟩ = some (.bool x0.q.2.2.2) ∧ V.cell? ⟨gx, ox + 12, none⟩ = some (.slice px ln kx) ∧ V.cell? ⟨gx, ox + 13, none⟩ = some (.int .i64 x1.k) ∧ V.cell? ⟨gx, ox + 13 + 1, none⟩ = some (.int .i64 x1.n) ∧ V.cell? ⟨gx, ox + 13 + 2, none⟩ = some (.string (bs x1.s)) ∧ V.cell? ⟨gx, ox + 13 + 3, none⟩ = some (.int .i64 x1.e) ∧ V.cell? ⟨gx, ox + 13 + 4, none⟩ = some (.int .i64 x1.r.1) ∧ V.cell? ⟨gx, ox + 13 + 5, none⟩ = some (.int .i64 x1.r.2.1) ∧ V.cell? ⟨gx, ox + 13 + 6, none⟩ = some (.bool x1.r.2.2.1) ∧ V.cell? ⟨gx, ox + 13 + 7, none⟩ = some (.bool x1.r.2.2.2) ∧ V.cell? ⟨gx, ox + 13 + 8, none⟩ = some (.int .i64 x1.q.1) ∧ V.cell? ⟨gx, ox + 13 + 9, none⟩ = some (.int .i64 x1.q.2.1) ∧ V.cell? ⟨gx, ox + 13 + 10, none⟩ = some (.bool x1.q.2.2.1) ∧ V.cell? ⟨gx, ox + 13 + 11, none⟩ = some (.bool x1.q.2.2.2) ∧ V.cell? ⟨gx, ox + 13 + 12, none⟩ = some (.slice qx lm ky) ∧ V.cell? ⟨w1.heap.size, 0, none⟩ = some (.int .i64 x0.k) ∧ V.cell? ⟨w1.heap.size, 1, none⟩ = some (.int .i64 x0.n) ∧ V.cell? ⟨w1.heap.size, 2, none⟩ = some (.string (bs x0.s)) ∧ V.cell? ⟨w1.heap.size, 3, none⟩ = some (.int .i64 x0.e) ∧ V.cell? ⟨w1.heap.size, 4, none⟩ = some (.int .i64 x0.r.1) ∧ V.cell? ⟨w1.heap.size, 5, none⟩ = some (.int .i64 x0.r.2.1) ∧ V.cell? ⟨w1.heap.size, 6, none⟩ = some (.bool x0.r.2.2.1) ∧ V.cell? ⟨w1.heap.size, 7, none⟩ = some (.bool x0.r.2.2.2) ∧ V.cell? ⟨w1.heap.size, 8, none⟩ = some (.int .i64 x0.q.1) ∧ V.cell? ⟨w1.heap.size, 9, none⟩ = some (.int .i64 x0.q.2.1) ∧ V.cell? ⟨w1.heap.size, 10, none⟩ = some (.bool x0.q.2.2.1) ∧ V.cell? ⟨w1.heap.size, 11, none⟩ = some (.bool x0.q.2.2.2) ∧ V.cell? ⟨w1.heap.size, 12, none⟩ = some (.slice pp ln cl) ∧ V.cell? ⟨w2.heap.size, 0, none⟩ = some (.int .i64 x1.k) ∧ V.cell? ⟨w2.heap.size, 1, none⟩ = some (.int .i64 x1.n) ∧ V.cell? ⟨w2.heap.size, 2, none⟩ = some (.string (bs x1.s)) ∧ V.cell? ⟨w2.heap.size, 3, none⟩ = some (.int .i64 x1.e) ∧ V.cell? ⟨w2.heap.size, 4, none⟩ = some (.int .i64 x1.r.1) ∧ V.cell? ⟨w2.heap.size, 5, none⟩ = some (.int .i64 x1.r.2.1) ∧ V.cell? ⟨w2.heap.size, 6, none⟩ = some (.bool x1.r.2.2.1) ∧ V.cell? ⟨w2.heap.size, 7, none⟩ = some (.bool x1.r.2.2.2) ∧ V.cell? ⟨w2.heap.size, 8, none⟩ = some (.int .i64 x1.q.1) ∧ V.cell? ⟨w2.heap.size, 9, none⟩ = some (.int .i64 x1.q.2.1) ∧ V.cell? ⟨w2.heap.size, 10, none⟩ = some (.bool x1.q.2.2.1) ∧ V.cell? ⟨w2.heap.size, 11, none⟩ = some (.bool x1.q.2.2.2) ∧ V.cell? ⟨w2.heap.size, 12, none⟩ = some (.slice qq lm cm)) ∧ Ext W4 V) := by
          intro V e
          have y := (HF.out.1.ext e).2.1
          have e3 := HF.out.2.trans e
          have ya := (HA.out.1.ext e3).2.1
          have yb := (HA.out.2.2.1.ext e3).2.1
          obtain ⟨d0, d1⟩ := HCC.out V e3
          exact ⟨⟨y.1, y.2.2.1, y.2.2.2.2.2.2.2.2.2.2.2.2, d0 0 _ rfl, d0 1 _ rfl, d0 2 _ rfl, d0 3 _ rfl, d0 4 _ rfl, d0 5 _ rfl, d0 6 _ rfl, d0 7 _ rfl, d0 8 _ rfl, d0 9 _ rfl, d0 10 _ rfl, d0 11 _ rfl, d0 12 _ rfl, d1 0 _ rfl, d1 1 _ rfl, d1 2 _ rfl, d1 3 _ rfl, d1 4 _ rfl, d1 5 _ rfl, d1 6 _ rfl, d1 7 _ rfl, d1 8 _ rfl, d1 9 _ rfl, d1 10 _ rfl, d1 11 _ rfl, d1 12 _ rfl, ya.1, ya.2.1, ya.2.2.1, ya.2.2.2.1, ya.2.2.2.2.1, ya.2.2.2.2.2.1, ya.2.2.2.2.2.2.1, ya.2.2.2.2.2.2.2.1, ya.2.2.2.2.2.2.2.2.1, ya.2.2.2.2.2.2.2.2.2.1, ya.2.2.2.2.2.2.2.2.2.2.1, ya.2.2.2.2.2.2.2.2.2.2.2.1, ya.2.2.2.2.2.2.2.2.2.2.2.2, yb.1, yb.2.1, yb.2.2.1, yb.2.2.2.1, yb.2.2.2.2.1, yb.2.2.2.2.2.1, yb.2.2.2.2.2.2.1, yb.2.2.2.2.2.2.2.1, yb.2.2.2.2.2.2.2.2.1, yb.2.2.2.2.2.2.2.2.2.1, yb.2.2.2.2.2.2.2.2.2.2.1, yb.2.2.2.2.2.2.2.2.2.2.2.1, yb.2.2.2.2.2.2.2.2.2.2.2.2⟩, e⟩
        go_region_held3 (fun V => (V.cell? ⟨w3.heap.size, 0, none⟩ = some (.int .i64 8) ∧ V.cell? ⟨w3.heap.size, 2, none⟩ = some (.string ⟨#[77, 79, 68]⟩) ∧ V.cell? ⟨w3.heap.size, 12, none⟩ = some (.slice (some ⟨gx, ox, none⟩) 2 cx) ∧ V.cell? ⟨gx, ox, none⟩ = some (.int .i64 x0.k) ∧ V.cell? ⟨gx, ox + 1, none⟩ = some (.int .i64 x0.n) ∧ V.cell? ⟨gx, ox + 2, none⟩ = some (.string (bs x0.s)) ∧ V.cell? ⟨gx, ox + 3, none⟩ = some (.int .i64 x0.e) ∧ V.cell? ⟨gx, ox + 4, none⟩ = some (.int .i64 x0.r.1) ∧ V.cell? ⟨gx, ox + 5, none⟩ = some (.int .i64 x0.r.2.1) ∧ V.cell? ⟨gx, ox + 6, none⟩ = some (.bool x0.r.2.2.1) ∧ V.cell? ⟨gx, ox + 7, none⟩ = some (.bool x0.r.2.2.2) ∧ V.cell? ⟨gx, ox + 8, none⟩ = some (.int .i64 x0.q.1) ∧ V.cell? ⟨gx, ox + 9, none⟩ = some (.int .i64 x0.q.2.1) ∧ V.cell? ⟨gx, ox + 10, none⟩ = some (.bool x0.q.2.2.1) ∧ V.cell? ⟨gx, ox + 11, none⟩ = some (.bool x0.q.2.2.2) ∧ V.cell? ⟨gx, ox + 12, none⟩ = some (.slice px ln kx) ∧ V.cell? ⟨gx, ox + 13, none⟩ = some (.int .i64 x1.k) ∧ V.cell? ⟨gx, ox + 13 + 1, none⟩ = some (.int .i64 x1.n) ∧ V.cell? ⟨gx, ox + 13 + 2, none⟩ = some (.string (bs x1.s)) ∧ V.cell? ⟨gx, ox + 13 + 3, none⟩ = some (.int .i64 x1.e) ∧ V.cell? ⟨gx, ox + 13 + 4, none⟩ = some (.int .i64 x1.r.1) ∧ V.cell? ⟨gx, ox + 13 + 5, none⟩ = some (.int .i64 x1.r.2.1) ∧ V.cell? ⟨gx, ox + 13 + 6, none⟩ = some (.bool x1.r.2.2.1) ∧ V.cell? ⟨gx, ox + 13 + 7, none⟩ = some (.bool x1.r.2.2.2) ∧ V.cell? ⟨gx, ox + 13 + 8, none⟩ = some (.int .i64 x1.q.1) ∧ V.cell? ⟨gx, ox + 13 + 9, none⟩ = some (.int .i64 x1.q.2.1) ∧ V.cell? ⟨gx, ox + 13 + 10, none⟩ = some (.bool x1.q.2.2.1) ∧ V.cell? ⟨gx, ox + 13 + 11, none⟩ = some (.bool x1.q.2.2.2) ∧ V.cell? ⟨gx, ox + 13 + 12, none⟩ = some (.slice qx lm ky) ∧ V.cell? ⟨w1.heap.size, 0, none⟩ = some (.int .i64 x0.k) ∧ V.cell? ⟨w1.heap.size, 1, none⟩ = some (.int .i64 x0.n) ∧ V.cell? ⟨w1.heap.size, 2, none⟩ = some (.string (bs x0.s)) ∧ V.cell? ⟨w1.heap.size, 3, none⟩ = some (.int .i64 x0.e) ∧ V.cell? ⟨w1.heap.size, 4, none⟩ = some (.int .i64 x0.r.1) ∧ V.cell? ⟨w1.heap.size, 5, none⟩ = some (.int .i64 x0.r.2.1) ∧ V.cell? ⟨w1.heap.size, 6, none⟩ = some (.bool x0.r.2.2.1) ∧ V.cell? ⟨w1.heap.size, 7, none⟩ = some (.bool x0.r.2.2.2) ∧ V.cell? ⟨w1.heap.size, 8, none⟩ = some (.int .i64 x0.q.1) ∧ V.cell? ⟨w1.heap.size, 9, none⟩ = some (.int .i64 x0.q.2.1) ∧ V.cell? ⟨w1.heap.size, 10, none⟩ = some (.bool x0.q.2.2.1) ∧ V.cell? ⟨w1.heap.size, 11, none⟩ = some (.bool x0.q.2.2.2) ∧ V.cell? ⟨w1.heap.size, 12, none⟩ = some (.slice pp ln cl) ∧ V.cell? ⟨w2.heap.size, 0, none⟩ = some (.int .i64 x1.k) ∧ V.cell? ⟨w2.heap.size, 1, none⟩ = some (.int .i64 x1.n) ∧ V.cell? ⟨w2.heap.size, 2, none⟩ = some (.string (bs x1.s)) ∧ V.cell? ⟨w2.heap.size, 3, none⟩ = some (.int .i64 x1.e) ∧ V.cell? ⟨w2.heap.size, 4, none⟩ = some (.int .i64 x1.r.1) ∧ V.cell? ⟨w2.heap.size, 5, none⟩ = some (.int .i64 x1.r.2.1) ∧ V.cell? ⟨w2.heap.size, 6, none⟩ = some (.bool x1.r.2.2.1) ∧ V.cell? ⟨w2.heap.size, 7, none⟩ = some (.bool x1.r.2.2.2) ∧ V.cell? ⟨w2.heap.size, 8, none⟩ = some (.int .i64 x1.q.1) ∧ V.cell? ⟨w2.heap.size, 9, none⟩ = some (.int .i64 x1.q.2.1) ∧ V.cell? ⟨w2.heap.size, 10, none⟩ = some (.bool x1.q.2.2.1) ∧ V.cell? ⟨w2.heap.size, 11, none⟩ = some (.bool x1.q.2.2.2) ∧ V.cell? ⟨w2.heap.size, 12, none⟩ = some (.slice qq lm cm)) ∧ Ext W4 V)
          ((refine mkS.out _ ?_; with_reducible (repeat (first | assumption | exact Ext.refl _ | apply Ext.drew | apply Ext.drewN)); done))
          (first | (go_at_call_of 16 (Value.slice pp ln cl); refine (HSm.out _ (HF.out.2.trans (by first | assumption | exact (Ext.refl _).drew | exact (Ext.refl _).drewN _))).mono ?_; rintro e y1 ⟨rfl, E1⟩; have X1 : Ext W4 y1 := (by first | exact Ext.trans (by assumption) E1 | exact ((Ext.refl W4).drew).trans E1 | exact ((Ext.refl W4).drewN _).trans E1)) | (go_at_call_of 16 (Value.slice qq lm cm); refine (HSn.out _ (HF.out.2.trans (by first | assumption | exact (Ext.refl _).drew | exact (Ext.refl _).drewN _))).mono ?_; rintro e y1 ⟨rfl, E1⟩; have X1 : Ext W4 y1 := (by first | exact Ext.trans (by assumption) E1 | exact ((Ext.refl W4).drew).trans E1 | exact ((Ext.refl W4).drewN _).trans E1)) | (go_at_call 12; refine (plives_any _ (HT.out.2.ext (HA.out.2.2.2.2.trans (HF.out.2.trans (by first | assumption | exact (Ext.refl _).drew)))) (HT.out.1.ext (HA.out.2.2.2.2.trans (HF.out.2.trans (by first | assumption | exact (Ext.refl _).drew))))).mono ?_; rintro e y1 ⟨rfl, E1⟩; have X1 : Ext W4 y1 := (by first | exact Ext.trans (by assumption) E1 | exact ((Ext.refl W4).drew).trans E1); have HZ : Hid (Ext W4 y1) := X1))
        all_goals
          go_wp2_with fail
          go_ret
          exact ⟨rfl, HA.out.2.2.2.2.trans (HF.out.2.trans HZ.out)⟩
    · have q0 : (qe != 0) = true := by simpa using k0
      clear h0 k0
      go_wp2_with fail
      refine (plives_any _ (HT.out.2.ext (HA.out.2.2.2.2.alloc _)) (HT.out.1.ext (HA.out.2.2.2.2.alloc _))).mono ?_
      rintro e w9 ⟨rfl, E9⟩
      have HE9 : Hid (Ext w w9) := Ext.trans (HA.out.2.2.2.2.alloc _) E9
      clear E9
      go_wp2_with fail
      go_ret
      exact ⟨rfl, HE9.out⟩
  · have p0 : (pe != 0) = true := by simpa using h0
    clear h0
    go_wp2_with fail
    refine (plives_any _ (HT.out.2.ext (HA.out.2.2.2.2.alloc _)) (HT.out.1.ext (HA.out.2.2.2.2.alloc _))).mono ?_
    rintro e w9 ⟨rfl, E9⟩
    have HE9 : Hid (Ext w w9) := Ext.trans (HA.out.2.2.2.2.alloc _) E9
    clear E9
    go_wp2_with fail
    go_ret
    exact ⟨rfl, HE9.out⟩

theorem contract (H : Type) (enc : TypeId × Value → H) (W : World) (base : Nat) (args : Array Value) (ds gs : List (DataW H)) (before : List MemPlace)
    (hval0 : ∀ (j : Nat) t v, Tryz.f7.params[j]? = some t → args[j]? = some v → Value.okWide Tryz.prog W .any base t v)
    (hW : DataW.Whole enc Tryz.prog Tryz.f7.params.toList Rows.parseArgsSpec.vars false W args.toList ds gs before) (hsz0 : (DataW.weightsEach Tryz.prog (Tryz.f7.params.toList ++ (OpenSpec.ofChange Rows.parseArgsSpec).bare.plain.varTypes Tryz.prog) (ds ++ gs)).all (· ≤ reachBytes) = true) (hL : laidMetH Tryz.prog Rows.parseArgsRow.laid W) :
    Calls Tryz.prog 7 args W fun e W' => ∃ v, e = .returned v ∧ Rows.parseArgsSpec.post enc Tryz.prog Tryz.f7 false true false false W args v W' := by
  have hval : ∀ (j : Nat) t v, Tryz.f7.params[j]? = some t → args[j]? = some v → Value.okWide Tryz.prog W .any base t v := hval0
  have hW' := hW
  obtain ⟨p, q, hA0, hV, rfl, hfz, hnd⟩ := hW
  have hA : DataW.TrodAll enc Tryz.prog W 0 (fun _ => true) true Tryz.f7.params.toList args.toList ds p := hA0
  rw [Tryz.params7] at hA hval
  obtain ⟨v0, vs0, d0, ds0, p0, q0, hargs, rfl, rfl, h0, r0⟩ := trodAll_cons hA
  obtain ⟨v1, vs1, d1, ds1, p1, q1, rfl, rfl, rfl, h1, r1⟩ := trodAll_cons r0
  obtain ⟨rfl, rfl, rfl⟩ := trodAll_nil r1
  obtain rfl : args = #[v0, v1] := by cases args; simp_all
  obtain ⟨rfl, rfl⟩ := trodVars_none hV
  obtain ⟨a0, rfl, rfl, rfl, w0⟩ := open_string Tryz.underlying9 (hval 0 9 v0 rfl rfl) h0
  obtain ⟨a1, rfl, rfl, rfl, w1⟩ := open_string Tryz.underlying9 (hval 1 9 v1 rfl rfl) h1
  have g0 : a0.size ≤ 140737488351232 := by
    have h := sized_string hsz0 (j := 0) (t := 9) rfl rfl
    rw [size_list] at h
    exact h
  have g1 : a1.size ≤ 140737488351232 := by
    have h := sized_string hsz0 (j := 1) (t := 9) rfl rfl
    rw [size_list] at h
    exact h
  clear hA0 hval0 hsz0
  simp only [List.append_nil] at hW'
  refine (walk a0 a1 w0 w1 W (tab_of hL) g0 g1).mono fun e W' ⟨he, bel⟩ => ?_
  subst he
  exact ⟨_, rfl, _, _, _, [], [], [], hW', trodAll_mk1 (shut_bool Tryz.underlying4 _), (trodAll_cons_mk (shut_string Tryz.underlying9 w0) (trodAll_cons_mk (shut_string Tryz.underlying9 w1) trodAll_mk0)), rfl, Below.frame bel _, fun h => by cases h⟩

theorem laid_met (os : Os) : laidMet Tryz.prog Rows.parseArgsRow.laid ((laidWorld os).forCall (fun _ _ => 0) ⟨#[], #[.string ⟨#[]⟩, .string ⟨#[]⟩], []⟩).memory :=
  laidMet_of_run' 8 (by kernel_rfl) (by kernel_rfl)
theorem reads (os : Os) {H : Type} (enc : TypeId × Value → H) : ∃ places, DataW.whole enc Tryz.prog ((laidWorld os).forCall (fun _ _ => 0) ⟨#[], #[.string ⟨#[]⟩, .string ⟨#[]⟩], []⟩).memory Tryz.f7.params.toList Rows.parseArgsSpec.vars false (#[.string ⟨#[]⟩, .string ⟨#[]⟩] : Array Value).toList 8 = some ([.lit (.string []), .lit (.string [])], [], places) :=
  ⟨[], by kernel_rfl⟩

set_option maxRecDepth 100000 in
theorem lifted (os : Os) (started : os.Started) (H : Type) (enc : TypeId × Value → H) (F : Stop.Interp) :
    ReturnsInHanded {} Tryz.checked os 7 .any ((OpenSpec.ofChange Rows.parseArgsSpec).preRow enc Tryz.prog Tryz.f7 Rows.parseArgsRow.domain false Rows.parseArgsRow.laid) (((OpenSpec.ofChange Rows.parseArgsSpec).at F).post enc Tryz.prog Tryz.f7 false true false false) := by
  obtain ⟨places, hx⟩ := reads os enc
  refine returnsInHanded_of_row (C := Tryz.checked) (s := OpenSpec.ofChange Rows.parseArgsSpec) ownK started (by kernel_rfl) Tryz.func7
    (witness_row_at (enc := enc) (C := Tryz.checked) false (laidWorld os) #[.string ⟨#[]⟩, .string ⟨#[]⟩] rfl (by kernel_rfl) (by kernel_rfl) (by kernel_rfl)
      (OpenSpec.preRow_of_cond 8 hx (by kernel_rfl) (fun k hk => by cases hk) (by kernel_rfl) (by
        rw [MakeChecks.laidMetH_plain _ _ _ (by kernel_rfl)]
        exact laid_met os))) ?_
  intro W base args ds gs before hval hW _ _ hsz hL _ _
  exact contract H enc W base args ds gs before hval hW hsz hL

theorem said : Rows.ParseArgsSaid :=
  OpenClaim.holds_of_cond 7 Tryz.f7 rfl rfl rfl rfl rfl rfl rfl ⟨rfl, rfl, rfl, rfl, rfl⟩ rfl rfl rfl rfl rfl (by kernel_rfl) Tryz.func7 (by kernel_rfl)
    (of_decide_eq_true (by kernel_rfl)) (by unfold Func.isWrapper; first | (rw [if_pos (by decide +kernel)]; kernel_rfl) | (rw [if_neg (by decide +kernel)]; exact ⟨rfl, rfl⟩))
    (fun os started H enc _ F => by rw [OpenClaim.pre_eq_preRow]; exact lifted os started H enc F)

theorem plain (f : FuncId) (fn : Func) (hf : Tryz.pinned.checked.prog.funcNamed Rows.parseArgsRow.func = some f) (hfn : Tryz.pinned.checked.prog.funcs[f]? = some fn) :
    true = Tryz.pinned.checked.prog.looks [] ∧ ∀ (j : Nat) t, fn.params[j]? = some t → Tryz.pinned.checked.prog.wantsStandIn t = false := by
  obtain rfl : f = 7 := Option.some.inj ((show Tryz.prog.funcNamed Rows.parseArgsRow.func = some 7 by kernel_rfl).symm.trans hf) |>.symm
  obtain rfl : fn = Tryz.f7 := (Option.some.inj (Tryz.func7.symm.trans hfn)).symm
  refine ⟨by kernel_rfl, fun j t ht => ?_⟩
  rw [Tryz.params7] at ht
  have hm : t ∈ [9, 9] := by simpa using Array.mem_of_getElem? ht
  have hall : ([9, 9].all fun u => !Tryz.prog.wantsStandIn u) = true := by kernel_rfl
  exact (show Tryz.prog.wantsStandIn t = false by simpa using List.all_eq_true.1 hall t hm)

theorem card : Rows.ParseArgsCardSaid :=
  Claim7.holds_tied_plain_at .later [] _ _ _ _ said (fun _ h => by cases h) (by kernel_rfl) (fun _ h => by cases h) parseArgs_row_tie rfl ⟨rfl, rfl⟩ (by kernel_rfl) rfl plain (by kernel_rfl)
end Go.Proofs.YtbfahmkagnmbmaaGreatDoor.parseArgs
namespace Go.Proofs.YtbfahmkagnmbmaaGreatDoor
theorem parseArgs_card : Rows.ParseArgsCardSaid := parseArgs.card
end Go.Proofs.YtbfahmkagnmbmaaGreatDoor

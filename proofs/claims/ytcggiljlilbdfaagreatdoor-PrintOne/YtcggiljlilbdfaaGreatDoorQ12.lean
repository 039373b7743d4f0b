/-
 The contract of package coord's Parse.
 How references are written: the contracts of package coord's and the document's Print.
 Trees as arguments: what is read as a tree is one.
 Trees as texts. Plain mathematics: no program in sight.
-/
import Derived.Test.YtcggiljlilbdfaaGreatDoorQ9
import Derived.Deep.CutBlock
import Derived.Deep.DeepCutAuto
import Derived.Test.YtcggiljlilbdfaaGreatDoorQ11
import Derived.Lib.SmallJoins
import Derived.Deep.Slices
import Derived.Test.YtcggiljlilbdfaaGreatDoorQ5
namespace Go.Proofs.YtcggiljlilbdfaaGreatDoor
open Go.RowKit
set_option maxHeartbeats 1000000

theorem ret_ref {x y : Value} {a b : Bool} (h : x = y) (g : a = b) : Ending.returned (.tuple #[x, .bool a]) = .returned (.tuple #[y, .bool b]) := by rw [h, g]
theorem ext_fst (q : ByteArray) (A B : List UInt8) (h : A ++ B = q.data.toList) : (q.extract 0 A.length).data.toList = A := by
 rw [Lib.extract_data, ← h]; simp
theorem ext_snd (q : ByteArray) (A B : List UInt8) (h : A ++ B = q.data.toList) : (q.extract A.length q.size).data.toList = B := by
 rw [Lib.extract_data, ← size_list, ← h]; simp
theorem tail_facts (l : List UInt8) (q1 q2 : ByteArray) (h1 : q1.data.toList = nmL l) (h2 : q2.data.toList = rsL l) (s1 : q1.size ≤ maxLen) (s2 : q2.size ≤ maxLen) :
   ∃ q3 : ByteArray, (∀ W, Calls Tryz.prog 129 #[.string q2, .string ⟨#[36]⟩] W fun e w' => e = .returned (.tuple #[.string q3, .bool (dlB (rsL l))]) ∧ w' = W) ∧
     (∀ W, Tab W → Calls Tryz.prog 170 #[.string q3] W fun e w' => e = .returned (.int .i64 (rowP l)) ∧ Ext W w') ∧
     (∀ W, Calls Tryz.prog 171 #[.string q1] W fun e w' => e = .returned (.int .i64 (colP l)) ∧ w' = W) ∧
     (∀ W, Calls Tryz.prog 58 #[.int .i64 (rowP l), .int .i64 (colP l)] W fun e w' => e = .returned (.bool (okP l)) ∧ w' = W) := by
 refine ⟨⟨(undl (rsL l)).toArray⟩, ?_, ?_, ?_, fun W => in_any _ _ W⟩
 · intro W
   have c := Tryz.strings_CutPrefix q2 ⟨#[36]⟩ W
   simp only [(pre_dollar q2.data.toList).1, (pre_dollar q2.data.toList).2] at c
   rw [h2] at c
   exact c
 · intro W hW
   refine rownumber_any ⟨(undl (rsL l)).toArray⟩ W ?_ hW
   rw [← size_list]
   refine Nat.le_trans ?_ s2
   rw [← size_list, h2]
   show (undl (rsL l)).length ≤ _
   unfold undl; split
   · simp
   · exact Nat.le_refl _
 · intro W
   have c := colnumber_any q1 W s1
   rw [h1] at c
   exact c
theorem cparse_any (s : ByteArray) (w : World) (hs : s.size ≤ maxLen) (hT : Tab w) :
   Calls Tryz.prog 166 #[.string s] w fun e w' => e = .returned (.tuple #[prV s.data.toList, .bool (okP s.data.toList)]) ∧ Ext w w' := by
 have hl := size_list s
 have c1 := fun W => Tryz.strings_CutPrefix s ⟨#[36]⟩ W
 simp only [(pre_dollar s.data.toList).1, (pre_dollar s.data.toList).2] at c1
 have hu : (undl s.data.toList).length ≤ s.size := by
   rw [← hl]; unfold undl; split
   · simp
   · exact Nat.le_refl _
 obtain ⟨q, hq⟩ : ∃ q : ByteArray, q = ⟨(undl s.data.toList).toArray⟩ := ⟨_, rfl⟩
 rw [← hq] at c1
 have hqd : q.data.toList = undl s.data.toList := by rw [hq]
 have hqs : q.size ≤ s.size := by rw [← size_list, hqd]; exact hu
 have c2 : ∀ W, Calls Tryz.prog 169 #[.string q, .string ⟨#[36, 48, 49, 50, 51, 52, 53, 54, 55, 56, 57]⟩] W fun e w' => e = .returned (.int .i64 (Lib.indexAny q.data.toList sgns)) ∧ Ext W w' := fun W => iany_any q W (by omega)
 clear hq hu
 by_cases hd : q.data.toList.dropWhile (fun c => !sgns.contains c) = []
 · obtain ⟨hi, ht⟩ := idx_none _ hd
   rw [hi] at c2
   have H1 : Hid (q.data.toList = nmL s.data.toList) := by show _ = _; unfold nmL; rw [← hqd, ht]
   have H2 : Hid ((⟨#[]⟩ : ByteArray).data.toList = rsL s.data.toList) := by show _ = _; unfold rsL; rw [← hqd, hd]
   have z2 : (⟨#[]⟩ : ByteArray).size = 0 := rfl
   have z1 : True := trivial
   unfold maxLen at hs
   clear hi hd ht hqd hl
   generalize s.data.toList = l at *
   obtain ⟨q3, c3, c4, c5, c6⟩ := tail_facts l q ⟨#[]⟩ H1.out H2.out (by unfold maxLen; omega) (by unfold maxLen; omega)
   have HV : Hid (prV l = if okP l then refD (rowP l) (colP l) (dlB (rsL l)) (dlB l) else refD 0 0 false false) := rfl
   clear H1 H2 z1 z2
   generalize rowP l = r at *
   generalize colP l = c at *
   generalize dlB (rsL l) = d2 at *
   generalize dlB l = d1 at *
   cases hok : okP l
   all_goals rw [hok] at HV c6
   · go_enter Tryz.func166, Tryz.ntmps166
     go_wp2_with fail
     refine (c1 _).mono ?_
     rintro e w1 ⟨rfl, rfl⟩
     go_wp2_with fail
     refine (c2 _).mono ?_
     rintro e w1 ⟨rfl, E1⟩
     have B1 := blk_top rfl E1
     have X1 := ((Ext.refl _).alloc _).trans E1
     clear E1
     go_wp2_with fail
     refine (c3 _).mono ?_
     rintro e w3 ⟨rfl, rfl⟩
     go_wp2_with fail
     refine (c4 _ (hT.ext X1)).mono ?_
     rintro e w4 ⟨rfl, E4⟩
     have B4 := B1.ext E4
     have X4 := X1.trans E4
     clear B1 E4 X1
     go_wp2_with fail
     refine (c5 _).mono ?_
     rintro e w5 ⟨rfl, rfl⟩
     go_wp2_with fail
     refine (c6 _).mono ?_
     rintro e w6 ⟨rfl, rfl⟩
     have B6 := B4.al (.cells #[.int .i64 r, .int .i64 c, .bool d2, .bool d1] 26)
     have X6 := X4.alloc (.cells #[.int .i64 r, .int .i64 c, .bool d2, .bool d1] 26)
     have C6 : Blk (w5.alloc (.cells #[.int .i64 r, .int .i64 c, .bool d2, .bool d1] 26)) w5.heap.size (.int .i64 r) (.int .i64 c) (.bool d2) (.bool d1) := blk_top rfl (Ext.refl _)
     clear B4 X4
     generalize w5.alloc (.cells #[.int .i64 r, .int .i64 c, .bool d2, .bool d1] 26) = w6 at *
     generalize w5.heap.size = nb at *
     obtain ⟨_, ⟨m0, m1, m2, m3⟩, _⟩ := C6
     obtain ⟨_, ⟨k0, k1, k2, k3⟩, f0, f1, f2, f3⟩ := B6
     go_wp2_with fail
     exact fin4b false k0 k1 k2 k3 rfl (Nat.le_refl _) X6 (fun W g0 g1 g2 g3 => by simp [results, Tryz.results166, go_sem, g0, g1, g2, g3]) (fun W h => ⟨ret_ref (by rw [HV.out]; rfl) rfl, h⟩)
   · go_enter Tryz.func166, Tryz.ntmps166
     go_wp2_with fail
     refine (c1 _).mono ?_
     rintro e w1 ⟨rfl, rfl⟩
     go_wp2_with fail
     refine (c2 _).mono ?_
     rintro e w1 ⟨rfl, E1⟩
     have B1 := blk_top rfl E1
     have X1 := ((Ext.refl _).alloc _).trans E1
     clear E1
     go_wp2_with fail
     refine (c3 _).mono ?_
     rintro e w3 ⟨rfl, rfl⟩
     go_wp2_with fail
     refine (c4 _ (hT.ext X1)).mono ?_
     rintro e w4 ⟨rfl, E4⟩
     have B4 := B1.ext E4
     have X4 := X1.trans E4
     clear B1 E4 X1
     go_wp2_with fail
     refine (c5 _).mono ?_
     rintro e w5 ⟨rfl, rfl⟩
     go_wp2_with fail
     refine (c6 _).mono ?_
     rintro e w6 ⟨rfl, rfl⟩
     have B6 := B4.al (.cells #[.int .i64 r, .int .i64 c, .bool d2, .bool d1] 26)
     have X6 := X4.alloc (.cells #[.int .i64 r, .int .i64 c, .bool d2, .bool d1] 26)
     have C6 : Blk (w5.alloc (.cells #[.int .i64 r, .int .i64 c, .bool d2, .bool d1] 26)) w5.heap.size (.int .i64 r) (.int .i64 c) (.bool d2) (.bool d1) := blk_top rfl (Ext.refl _)
     clear B4 X4
     generalize w5.alloc (.cells #[.int .i64 r, .int .i64 c, .bool d2, .bool d1] 26) = w6 at *
     generalize w5.heap.size = nb at *
     obtain ⟨_, ⟨m0, m1, m2, m3⟩, _⟩ := C6
     obtain ⟨_, ⟨k0, k1, k2, k3⟩, f0, f1, f2, f3⟩ := B6
     go_wp2_with fail
     exact fin4b true k0 k1 k2 k3 rfl (Nat.le_refl _) X6 (fun W g0 g1 g2 g3 => by simp [results, Tryz.results166, go_sem, g0, g1, g2, g3]) (fun W h => ⟨ret_ref (by rw [HV.out]; rfl) rfl, h⟩)
 · have hi := idx_some _ hd
   rw [hi] at c2
   have happ := List.takeWhile_append_dropWhile (p := fun c => !sgns.contains c) (l := q.data.toList)
   obtain ⟨k, hk⟩ : ∃ k : Nat, k = (q.data.toList.takeWhile (fun c => !sgns.contains c)).length := ⟨_, rfl⟩
   rw [← hk] at c2
   have hkq : k ≤ q.size := by
     have := congrArg List.length happ
     rw [List.length_append, size_list, ← hk] at this
     omega
   obtain ⟨q1, hq1⟩ : ∃ q1 : ByteArray, q.extract 0 k = q1 := ⟨_, rfl⟩
   obtain ⟨q2, hq2⟩ : ∃ q2 : ByteArray, q.extract k q.size = q2 := ⟨_, rfl⟩
   have h1d : q1.data.toList = nmL s.data.toList := by
     rw [← hq1, hk, ext_fst q _ _ happ, hqd]; rfl
   have h2d : q2.data.toList = rsL s.data.toList := by
     rw [← hq2, hk, ext_snd q _ _ happ, hqd]; rfl
   unfold maxLen at hs
   have H1 : Hid (q1.data.toList = nmL s.data.toList) := h1d
   have H2 : Hid (q2.data.toList = rsL s.data.toList) := h2d
   clear happ hi hd h1d h2d hk hqd hl
   generalize s.data.toList = l at *
   have z1 : q1.size ≤ q.size := by rw [← hq1, ByteArray.size_extract]; omega
   have z2 : q2.size ≤ q.size := by rw [← hq2, ByteArray.size_extract]; omega
   obtain ⟨q3, c3, c4, c5, c6⟩ := tail_facts l q1 q2 H1.out H2.out (by unfold maxLen; omega) (by unfold maxLen; omega)
   have HV : Hid (prV l = if okP l then refD (rowP l) (colP l) (dlB (rsL l)) (dlB l) else refD 0 0 false false) := rfl
   clear H1 H2 z1 z2
   generalize rowP l = r at *
   generalize colP l = c at *
   generalize dlB (rsL l) = d2 at *
   generalize dlB l = d1 at *
   cases hok : okP l
   all_goals rw [hok] at HV c6
   · go_enter Tryz.func166, Tryz.ntmps166
     go_wp2_with fail
     refine (c1 _).mono ?_
     rintro e w1 ⟨rfl, rfl⟩
     go_wp2_with fail
     refine (c2 _).mono ?_
     rintro e w1 ⟨rfl, E1⟩
     go_wp2_with fail
     go_region
     have B1 := (blk_top rfl E1).dr
     have X1 := (((Ext.refl _).alloc _).trans E1).drew
     clear E1
     generalize w1.drew = w2 at *
     go_wp2_with fail
     refine (c3 _).mono ?_
     rintro e w3 ⟨rfl, rfl⟩
     go_wp2_with fail
     refine (c4 _ (hT.ext X1)).mono ?_
     rintro e w4 ⟨rfl, E4⟩
     have B4 := B1.ext E4
     have X4 := X1.trans E4
     clear B1 E4 X1
     go_wp2_with fail
     refine (c5 _).mono ?_
     rintro e w5 ⟨rfl, rfl⟩
     go_wp2_with fail
     refine (c6 _).mono ?_
     rintro e w6 ⟨rfl, rfl⟩
     have B6 := B4.al (.cells #[.int .i64 r, .int .i64 c, .bool d2, .bool d1] 26)
     have X6 := X4.alloc (.cells #[.int .i64 r, .int .i64 c, .bool d2, .bool d1] 26)
     have C6 : Blk (w5.alloc (.cells #[.int .i64 r, .int .i64 c, .bool d2, .bool d1] 26)) w5.heap.size (.int .i64 r) (.int .i64 c) (.bool d2) (.bool d1) := blk_top rfl (Ext.refl _)
     clear B4 X4
     generalize w5.alloc (.cells #[.int .i64 r, .int .i64 c, .bool d2, .bool d1] 26) = w6 at *
     generalize w5.heap.size = nb at *
     obtain ⟨_, ⟨m0, m1, m2, m3⟩, _⟩ := C6
     obtain ⟨_, ⟨k0, k1, k2, k3⟩, f0, f1, f2, f3⟩ := B6
     go_wp2_with fail
     exact fin4b false k0 k1 k2 k3 rfl (Nat.le_refl _) X6 (fun W g0 g1 g2 g3 => by simp [results, Tryz.results166, go_sem, g0, g1, g2, g3]) (fun W h => ⟨ret_ref (by rw [HV.out]; rfl) rfl, h⟩)
   · go_enter Tryz.func166, Tryz.ntmps166
     go_wp2_with fail
     refine (c1 _).mono ?_
     rintro e w1 ⟨rfl, rfl⟩
     go_wp2_with fail
     refine (c2 _).mono ?_
     rintro e w1 ⟨rfl, E1⟩
     go_wp2_with fail
     go_region
     have B1 := (blk_top rfl E1).dr
     have X1 := (((Ext.refl _).alloc _).trans E1).drew
     clear E1
     generalize w1.drew = w2 at *
     go_wp2_with fail
     refine (c3 _).mono ?_
     rintro e w3 ⟨rfl, rfl⟩
     go_wp2_with fail
     refine (c4 _ (hT.ext X1)).mono ?_
     rintro e w4 ⟨rfl, E4⟩
     have B4 := B1.ext E4
     have X4 := X1.trans E4
     clear B1 E4 X1
     go_wp2_with fail
     refine (c5 _).mono ?_
     rintro e w5 ⟨rfl, rfl⟩
     go_wp2_with fail
     refine (c6 _).mono ?_
     rintro e w6 ⟨rfl, rfl⟩
     have B6 := B4.al (.cells #[.int .i64 r, .int .i64 c, .bool d2, .bool d1] 26)
     have X6 := X4.alloc (.cells #[.int .i64 r, .int .i64 c, .bool d2, .bool d1] 26)
     have C6 : Blk (w5.alloc (.cells #[.int .i64 r, .int .i64 c, .bool d2, .bool d1] 26)) w5.heap.size (.int .i64 r) (.int .i64 c) (.bool d2) (.bool d1) := blk_top rfl (Ext.refl _)
     clear B4 X4
     generalize w5.alloc (.cells #[.int .i64 r, .int .i64 c, .bool d2, .bool d1] 26) = w6 at *
     generalize w5.heap.size = nb at *
     obtain ⟨_, ⟨m0, m1, m2, m3⟩, _⟩ := C6
     obtain ⟨_, ⟨k0, k1, k2, k3⟩, f0, f1, f2, f3⟩ := B6
     go_wp2_with fail
     exact fin4b true k0 k1 k2 k3 rfl (Nat.le_refl _) X6 (fun W g0 g1 g2 g3 => by simp [results, Tryz.results166, go_sem, g0, g1, g2, g3]) (fun W h => ⟨ret_ref (by rw [HV.out]; rfl) rfl, h⟩)

open Go.RowKit
set_option maxHeartbeats 1000000

/-- A reference's text. -/
def printR (r c : Int) (ar ac : Bool) : List UInt8 := if inB r c then signL ac ++ nameL c ++ signL ar ++ Lib.itoa r else []
theorem in_bd {r c : Int} (h : inB r c = true) : 1 ≤ r ∧ r ≤ 1000 ∧ 1 ≤ c ∧ c ≤ 52 := by
 unfold inB at h; simp at h; omega
theorem sign_sz (b : Bool) : (⟨(signL b).toArray⟩ : ByteArray).size ≤ 1 := by cases b <;> decide
theorem name_sz (c : Int) : (⟨(nameL c).toArray⟩ : ByteArray).size ≤ 2 := by rw [← size_list]; exact name_len c
theorem row_sz (r : Int) (h1 : 1 ≤ r) (h2 : r ≤ 1000) : (⟨(Lib.itoa r).toArray⟩ : ByteArray).size ≤ 4 := by
 obtain ⟨n, rfl⟩ : ∃ n : Nat, r = n := ⟨r.toNat, by omega⟩
 rw [itoa_nat, ← size_list]; exact dec_len4 n (by omega)

set_option maxRecDepth 100000 in
theorem cprint_any (r c : Int) (ar ac : Bool) (hr : I64 r) (hc : I64 c) (w : World) (hT : Tab w) :
   Calls Tryz.prog 40 #[.agg #[.int .i64 r, .int .i64 c, .bool ar, .bool ac]] w fun e w' => e = .returned (.string ⟨(printR r c ar ac).toArray⟩) ∧ Ext w w' := by
 have c0 := fun W => in_any r c W
 have HP : Hid (printR r c ar ac = if inB r c then signL ac ++ nameL c ++ signL ar ++ Lib.itoa r else []) := rfl
 obtain ⟨W0, hW0⟩ : ∃ W0, W0 = w.alloc (.cells #[.int .i64 r, .int .i64 c, .bool ar, .bool ac] 26) := ⟨_, rfl⟩
 have XW : Ext w W0 := by rw [hW0]; exact (Ext.refl _).alloc _
 have B0 : Blk W0 w.heap.size (.int .i64 r) (.int .i64 c) (.bool ar) (.bool ac) := by rw [hW0]; exact blk_top rfl (Ext.refl _)
 have mkS : Hid (∀ W, Ext W0 W → (W.cell? ⟨w.heap.size, 0, none⟩ = some (.int .i64 r) ∧ W.cell? ⟨w.heap.size, 1, none⟩ = some (.int .i64 c) ∧ W.cell? ⟨w.heap.size, 2, none⟩ = some (.bool ar) ∧ W.cell? ⟨w.heap.size, 3, none⟩ = some (.bool ac)) ∧ Ext W0 W) := by
   intro W E
   exact ⟨(B0.ext E).2.1, E⟩
 have hT0 : Tab W0 := hT.ext XW
 have HTT : Hid (∀ W, Ext W0 W → Tab W) := fun W E => hT0.ext E
 cases hin : inB r c
 · rw [hin] at c0 HP
   have HP' : Hid (printR r c ar ac = []) := HP.out
   clear HP mkS HTT hT0 B0
   go_enter Tryz.func40, Tryz.ntmps40
   go_wp2_with fail
   refine (c0 _).mono ?_
   rintro e w1 ⟨rfl, rfl⟩
   go_wp2_with fail
   go_ret
   exact ⟨ret_s (by rw [HP'.out]), (Ext.refl _).alloc _⟩
 · obtain ⟨r1, r2, d1, d2⟩ := in_bd hin
   rw [hin] at c0 HP
   have HP' : Hid (printR r c ar ac = signL ac ++ nameL c ++ signL ar ++ Lib.itoa r) := HP.out
   have cN := fun W => colname_any c hc W
   have cD := fun W h => digitsc_any r hr W h
   have zN := name_sz c
   have zD := row_sz r r1 r2
   have cS := fun b W => csign_any b W
   obtain ⟨sg, hsg⟩ : ∃ sg : Bool → ByteArray, ∀ b, (⟨(signL b).toArray⟩ : ByteArray) = sg b := ⟨_, fun _ => rfl⟩
   have zA : (sg ac).size ≤ 1 := by rw [← hsg]; exact sign_sz ac
   have zB : (sg ar).size ≤ 1 := by rw [← hsg]; exact sign_sz ar
   have HA : Hid (∀ b, (sg b).data.toList = signL b) := fun b => by rw [← hsg]
   simp only [hsg] at cS
   have HN : Hid ((⟨(nameL c).toArray⟩ : ByteArray).data.toList = nameL c) := rfl
   have HD : Hid ((⟨(Lib.itoa r).toArray⟩ : ByteArray).data.toList = Lib.itoa r) := rfl
   generalize (⟨(nameL c).toArray⟩ : ByteArray) = N at cN zN HN
   generalize (⟨(Lib.itoa r).toArray⟩ : ByteArray) = D at cD zD HD
   have n1 : ¬ 9223372036854775807 < (sg ac).size + N.size := by omega
   have n2 : ¬ 9223372036854775807 < (sg ac).size + N.size + (sg ar).size := by omega
   have n3 : ¬ 9223372036854775807 < (sg ac).size + N.size + (sg ar).size + D.size := by omega
   clear HP hsg hin r1 r2 d1 d2 hT hT0 B0
   go_enter Tryz.func40, Tryz.ntmps40
   go_wp2_with fail
   rw [← hW0]
   clear hW0
   refine (c0 _).mono ?_
   rintro e w1 ⟨rfl, rfl⟩
   have B0 := mkS.out w1 (Ext.refl _)
   obtain ⟨⟨k0, k1, k2, k3⟩, _⟩ := B0
   go_wp2_with fail
   go_region_held3 (fun W => (W.cell? ⟨w.heap.size, 0, none⟩ = some (.int .i64 r) ∧ W.cell? ⟨w.heap.size, 1, none⟩ = some (.int .i64 c) ∧ W.cell? ⟨w.heap.size, 2, none⟩ = some (.bool ar) ∧ W.cell? ⟨w.heap.size, 3, none⟩ = some (.bool ac)) ∧ Ext w1 W)
     ((refine mkS.out _ ?_; ((with_reducible (repeat (first | assumption | exact Ext.refl _ | apply Ext.alloc | apply Ext.drew | apply Ext.drewN))); done)))
     (first | (go_at_call 66; refine Calls.mono (cS _ _) ?_; rintro e y1 ⟨rfl, rfl⟩) | (go_at_call 67; refine Calls.mono (cN _) ?_; rintro e y2 ⟨rfl, rfl⟩) | (go_at_call 68; refine Calls.mono (cD _ (HTT.out _ ?hh)) ?_; (case hh => ((with_reducible (repeat (first | assumption | exact Ext.refl _ | apply Ext.alloc | apply Ext.drew | apply Ext.drewN))); done)); rintro e y3 ⟨rfl, E3⟩; have Z3 : Ext w1 y3 := Ext.trans (by ((with_reducible (repeat (first | assumption | exact Ext.refl _ | apply Ext.alloc | apply Ext.drew | apply Ext.drewN))); done)) E3))
   go_wp2_with fail
   go_ret
   exact ⟨ret_s (mkL _ _ (by rw [HP'.out, app_list, app_list, app_list, HN.out, HD.out, HA.out, HA.out])), XW.trans (by assumption)⟩

open Go.ChangeShapes Go.WideShapes Go.RowKit
open Go.Joins (trod_struct4)
open Go.Deep (choose_lt)
set_option maxHeartbeats 2000000

instance : Inhabited T := ⟨tz⟩
/-- The numbers of a tree are of 64 bits, its texts no longer than can be. -/
inductive Wf : T → Prop
 | mk (t : T) : I64 t.k → I64 t.n → t.s.length ≤ maxLen → I64 t.e → I64 t.r.1 → I64 t.r.2.1 → I64 t.q.1 → I64 t.q.2.1 → (∀ x ∈ t.l, Wf x) → Wf t
section
variable {H : Type} {enc : TypeId × Value → H} {w : World} {base : Nat} {sp : Nat → Bool} {hd : Bool}
end

open Go.RowKit

/-- A text between quotes. -/
def quoB : List UInt8 → List UInt8
 | [] => []
 | c :: r => if c = 34 then 34 :: 34 :: quoB r else c :: quoB r
def quoL (s : List UInt8) : List UInt8 := 34 :: (quoB s ++ [34])
/-- A place's name. -/
def rfL (r : Rf) : List UInt8 := printR r.1 r.2.1 r.2.2.1 r.2.2.2
/-- An error's name. -/
def errL (e : Int) : List UInt8 := if e = 1 then [35, 82, 69, 70, 33] else if e = 2 then [35, 86, 65, 76, 85, 69, 33] else if e = 3 then [35, 68, 73, 86, 47, 48, 33] else if e = 4 then [35, 78, 85, 77, 33] else if e = 5 then [35, 67, 89, 67, 76, 69, 33] else []
def brkL (b : Bool) (l : List UInt8) : List UInt8 := if b then 40 :: (l ++ [41]) else l
/-- With commas between. -/
def joinL : List (List UInt8) → List UInt8
 | [] => []
 | [a] => a
 | a :: b :: r => a ++ 44 :: joinL (b :: r)
def hdT (l : List T) : T := l.headD tz
def sdT (l : List T) : T := l.tail.headD tz
/-- Whether a part is looser than so. -/
def loose (k : Nat) (x : T) : Bool := x.k == 7 && decide (bnd x.s < k)
/-- A tree's text. -/
def shT : Nat → T → List UInt8
 | 0, _ => []
 | n + 1, t => if t.k = 0 then printL t.n else if t.k = 1 then quoL t.s else if t.k = 2 then (if t.n = 1 then wTrue else wFalse) else if t.k = 3 then errL t.e else if t.k = 4 then rfL t.r else if t.k = 5 then rfL t.r ++ 58 :: rfL t.q else
   if t.k = 6 then 45 :: brkL (loose 5 (hdT t.l)) (shT n (hdT t.l)) else
   if t.k = 7 then brkL (loose (bnd t.s) (hdT t.l)) (shT n (hdT t.l)) ++ t.s ++ brkL (loose (bnd t.s + 1) (sdT t.l)) (shT n (sdT t.l)) else
   t.s ++ 40 :: (joinL (t.l.map (shT n)) ++ [41])
/-- How many parts a tree has. -/
def szT : Nat → T → Nat
 | 0, _ => 1
 | n + 1, t => 1 + (t.l.map (szT n)).sum

theorem quoB_len (s : List UInt8) : (quoB s).length ≤ 2 * s.length := by
 induction s with
 | nil => simp [quoB]
 | cons c r ih => unfold quoB; split <;> simp <;> omega
theorem sg_len (b : Bool) : (signL b).length ≤ 1 := by cases b <;> decide
theorem rfL_len (r : Rf) : (rfL r).length ≤ 8 := by
 unfold rfL printR
 split
 · rename_i h
   obtain ⟨h1, h2, _, _⟩ := in_bd h
   have a := row_sz r.1 h1 h2
   rw [← size_list] at a
   have b := name_len r.2.1
   have c := sg_len r.2.2.1
   have d := sg_len r.2.2.2
   have e : (⟨(Lib.itoa r.1).toArray⟩ : ByteArray).data.toList.length = (Lib.itoa r.1).length := rfl
   simp only [List.length_append]
   omega
 · simp
theorem errL_len (e : Int) : (errL e).length ≤ 7 := by unfold errL; repeat (first | (split; · simp) | simp)
theorem brkL_len (b : Bool) (l : List UInt8) : (brkL b l).length ≤ l.length + 2 := by cases b <;> simp [brkL]
theorem joinL_len (ls : List (List UInt8)) : (joinL ls).length ≤ (ls.map (fun l => l.length + 1)).sum := by
 match ls with
 | [] => simp [joinL]
 | [a] => simp [joinL]
 | a :: b :: r =>
   have ih := joinL_len (b :: r)
   unfold joinL
   simp only [List.length_append, List.length_cons, List.map_cons, List.sum_cons] at ih ⊢
   omega
theorem szT_pos (n : Nat) (t : T) : 1 ≤ szT n t := by cases n <;> simp [szT]
theorem kno_len {s : List UInt8} (h : (kno s).isSome = true) : s.length ≤ 8 := by
 unfold kno at h
 split at h
 · rename_i hs; simp [kn1] at hs; rcases hs with rfl | rfl | rfl | rfl | rfl | rfl | rfl | rfl <;> simp
 · split at h
   · rename_i hs; simp [kn2] at hs; rcases hs with rfl | rfl <;> simp
   · split at h
     · rename_i hs; simp [kn3] at hs; rcases hs with rfl | rfl | rfl <;> simp
     · split at h
       · rename_i hs; simp [kn4] at hs; subst hs; simp
       · split at h
         · rename_i hs; simp [kn5] at hs; rcases hs with rfl | rfl | rfl | rfl | rfl | rfl <;> simp
         · cases h
theorem bnd_len {s : List UInt8} (h : bnd s ≠ 0) : s.length ≤ 2 := by
 unfold bnd at h
 split at h
 · rename_i hs; simp [bd1] at hs; rcases hs with rfl | rfl | rfl | rfl | rfl | rfl <;> simp
 · split at h
   · rename_i hs; subst hs; simp
   · split at h
     · rename_i hs; rcases hs with rfl | rfl <;> simp
     · split at h
       · rename_i hs; rcases hs with rfl | rfl <;> simp
       · exact absurd rfl h
theorem body_len (n : Nat) (h : n ≤ 9223372036854775807) : (bodyL n).length ≤ 20 := by
 obtain ⟨k, hk, hl⟩ := frac_back (n % 10000) (Nat.mod_lt _ (by decide))
 have hd := dec_len (n / 10000) 14 (by omega)
 unfold bodyL; rw [List.length_append]
 split
 · simp; omega
 · simp; omega
theorem printL_len (a : Int) (h : I64 a) : (printL a).length ≤ 21 := by
 obtain ⟨h1, h2⟩ := h
 unfold printL
 split
 · rename_i hc
   have hb : a.natAbs ≤ 9223372036854775807 := by unfold canB at hc; simp at hc; omega
   have := body_len a.natAbs hb
   split <;> simp <;> omega
 · simp
theorem sum_le {α : Type} {l : List α} {f g : α → Nat} (h : ∀ x ∈ l, f x ≤ g x) : (l.map f).sum ≤ (l.map g).sum := by
 induction l with
 | nil => simp
 | cons a r ih =>
   simp only [List.map_cons, List.sum_cons]
   have := h a (List.mem_cons_self ..)
   have := ih (fun x hx => h x (List.mem_cons_of_mem _ hx))
   omega
theorem sum_mul {α : Type} (l : List α) (f : α → Nat) (c : Nat) : (l.map (fun x => c * f x)).sum = c * (l.map f).sum := by
 induction l with
 | nil => simp
 | cons a r ih => simp only [List.map_cons, List.sum_cons, ih, Nat.mul_add]
/-- How long a text is at most. -/
theorem sh_len (n : Nat) : ∀ t : T, Wf t → (wellT n t = true ∨ t.k = 5) → (shT n t).length + 1 ≤ 701 * szT n t := by
 induction n with
 | zero => intro t _ _; simp [shT, szT]
 | succ n ih =>
   intro t hw h
   have hz : 701 ≤ 701 * szT (n + 1) t := Nat.le_mul_of_pos_right _ (szT_pos _ _)
   obtain ⟨_, w1, w2, w3, w4, w5, w6, w7, w8, w9⟩ := hw
   unfold shT
   by_cases k0 : t.k = 0
   · rw [if_pos k0]; have := printL_len t.n w2; omega
   by_cases k1 : t.k = 1
   · rw [if_neg k0, if_pos k1]
     have hs : t.s.length ≤ 300 := by
       rcases h with h | h
       · unfold wellT at h; simpa [k1] using h
       · omega
     have := quoB_len t.s
     unfold quoL; simp; omega
   by_cases k2 : t.k = 2
   · rw [if_neg k0, if_neg k1, if_pos k2]; split <;> simp [wTrue, wFalse] <;> omega
   by_cases k3 : t.k = 3
   · rw [if_neg k0, if_neg k1, if_neg k2, if_pos k3]; have := errL_len t.e; omega
   by_cases k4 : t.k = 4
   · rw [if_neg k0, if_neg k1, if_neg k2, if_neg k3, if_pos k4]; have := rfL_len t.r; omega
   by_cases k5 : t.k = 5
   · rw [if_neg k0, if_neg k1, if_neg k2, if_neg k3, if_neg k4, if_pos k5]; have := rfL_len t.r; have := rfL_len t.q; simp; omega
   have h := h.resolve_right k5
   unfold wellT at h
   have one : ∀ x ∈ t.l, wellT n x = true → (shT n x).length + 1 ≤ 701 * szT n x := fun x hx hx1 => ih x (w9 x hx) (.inl hx1)
   by_cases k6 : t.k = 6
   · rw [if_neg k0, if_neg k1, if_neg k2, if_neg k3, if_neg k4, if_neg k5, if_pos k6]
     simp only [k6] at h
     simp at h
     obtain ⟨h1, h2⟩ := h
     match hl : t.l, h1 with
     | [x], _ =>
       have := one x (by rw [hl]; simp) (h2 x (by rw [hl]; simp))
       have hb := brkL_len (loose 5 x) (shT n x)
       have e : szT (n + 1) t = 1 + szT n x := by rw [szT, hl]; simp
       rw [e]
       simp [hdT]
       omega
   by_cases k7 : t.k = 7
   · rw [if_neg k0, if_neg k1, if_neg k2, if_neg k3, if_neg k4, if_neg k5, if_neg k6, if_pos k7]
     simp only [k7] at h
     simp at h
     obtain ⟨⟨h0, h1⟩, h2⟩ := h
     match hl : t.l, h1 with
     | [x, y], _ =>
       have a1 := one x (by rw [hl]; simp) (h2 x (by rw [hl]; simp))
       have a2 := one y (by rw [hl]; simp) (h2 y (by rw [hl]; simp))
       have b1 := brkL_len (loose (bnd t.s) x) (shT n x)
       have b2 := brkL_len (loose (bnd t.s + 1) y) (shT n y)
       have e : szT (n + 1) t = 1 + (szT n x + szT n y) := by rw [szT, hl]; simp
       have hs := bnd_len h0
       rw [e]
       simp [hdT, sdT]
       omega
   · rw [if_neg k0, if_neg k1, if_neg k2, if_neg k3, if_neg k4, if_neg k5, if_neg k6, if_neg k7]
     by_cases k8 : t.k = 8
     · simp only [k8] at h
       simp at h
       obtain ⟨⟨⟨h1, _⟩, _⟩, h2⟩ := h
       have hs := kno_len h1
       have hj := joinL_len (t.l.map (shT n))
       have hm : ((t.l.map (shT n)).map (fun l => l.length + 1)).sum ≤ (t.l.map (fun x => 701 * szT n x)).sum := by
         rw [List.map_map]
         refine sum_le fun x hx => ?_
         refine ih x (w9 x hx) ?_
         have := h2 x hx
         by_cases k : x.k = 5
         · exact .inr k
         · exact .inl (by simpa [k] using this)
       rw [sum_mul] at hm
       have e : szT (n + 1) t = 1 + (t.l.map (szT n)).sum := by rw [szT]
       rw [e]
       simp
       omega
     · simp [k0, k1, k2, k3, k4, k6, k7, k8] at h
theorem itoa_ne (r : Int) (h1 : 1 ≤ r) : Lib.itoa r ≠ [] := by
 obtain ⟨n, rfl⟩ : ∃ n : Nat, r = n := ⟨r.toNat, by omega⟩
 rw [itoa_nat]
 unfold Lib.decDigits
 split <;> simp
theorem printL_ne (a : Int) : printL a ≠ [] := by
 have hd : ∀ n, Lib.decDigits n ≠ [] := by intro n; unfold Lib.decDigits; split <;> simp
 have hb : ∀ n, bodyL n ≠ [] := by intro n h; unfold bodyL at h; exact hd _ (List.append_eq_nil_iff.1 h).1
 unfold printL
 split
 · split
   · simp
   · exact hb _
 · simp
/-- A well made tree's text is not empty. -/
theorem sh_ne (n : Nat) (t : T) (h : wellT n t = true) : shT n t ≠ [] := by
 cases n with
 | zero => cases h
 | succ n =>
   unfold wellT at h
   unfold shT
   by_cases k0 : t.k = 0
   · rw [if_pos k0]; exact printL_ne _
   by_cases k1 : t.k = 1
   · rw [if_neg k0, if_pos k1]; simp [quoL]
   by_cases k2 : t.k = 2
   · rw [if_neg k0, if_neg k1, if_pos k2]; split <;> simp [wTrue, wFalse]
   by_cases k3 : t.k = 3
   · rw [if_neg k0, if_neg k1, if_neg k2, if_pos k3]
     simp only [k3] at h
     simp at h
     have hh : t.e = 1 ∨ t.e = 2 ∨ t.e = 3 ∨ t.e = 4 ∨ t.e = 5 := by omega
     rcases hh with h | h | h | h | h <;> rw [h] <;> simp [errL]
   by_cases k4 : t.k = 4
   · rw [if_neg k0, if_neg k1, if_neg k2, if_neg k3, if_pos k4]
     simp only [k4] at h
     simp at h
     unfold rfL printR
     rw [if_pos h]
     intro e
     exact itoa_ne _ (in_bd h).1 (List.append_eq_nil_iff.1 e).2
   by_cases k5 : t.k = 5
   · simp [k5] at h
   by_cases k6 : t.k = 6
   · rw [if_neg k0, if_neg k1, if_neg k2, if_neg k3, if_neg k4, if_neg k5, if_pos k6]; simp
   by_cases k7 : t.k = 7
   · rw [if_neg k0, if_neg k1, if_neg k2, if_neg k3, if_neg k4, if_neg k5, if_neg k6, if_pos k7]
     simp only [k7] at h
     simp at h
     intro e
     have e2 := (List.append_eq_nil_iff.1 (List.append_eq_nil_iff.1 e).1).2
     rw [e2] at h
     exact absurd h.1.1 (by decide)
   · rw [if_neg k0, if_neg k1, if_neg k2, if_neg k3, if_neg k4, if_neg k5, if_neg k6, if_neg k7]; simp
end Go.Proofs.YtcggiljlilbdfaaGreatDoor

/-
 Package print's Tidy; lives.
 A number that is written, read as a formula: plain mathematics.
 References as the document reads them, and that the code's reading is the same. Plain mathematics: no program in sight.
 A place is read and written: the contract of the laws' lives.
-/
import Derived.Test.YtcggiljlilbdfaaGreatDoorQ30
import Derived.Test.YtcggiljlilbdfaaGreatDoorQ29
import Derived.Test.YtcggiljlilbdfaaGreatDoorQ7
import Derived.Test.YtcggiljlilbdfaaGreatDoorQ12
namespace Go.Proofs.YtcggiljlilbdfaaGreatDoor
open Go.RowKit
set_option maxHeartbeats 6000000

def TabP (w : World) : Prop := Tab w ∧ Tab7 w ∧ Mx w
theorem TabP.ext {w w' : World} (h : TabP w) (e : Ext w w') : TabP w' := ⟨h.1.ext e, h.2.1.ext e, h.2.2.ext e⟩
theorem TabP.to9 {w : World} (h : TabP w) : Tab9 w := ⟨h.1, h.2.1.1, h.2.2⟩
theorem ret_sii {a b : ByteArray} {i j k l : Int} (h1 : a = b) (h2 : i = j) (h3 : k = l) : Ending.returned (.tuple #[.string a, .int .i64 i, .int .i64 k]) = .returned (.tuple #[.string b, .int .i64 j, .int .i64 l]) := by rw [h1, h2, h3]
theorem parR_at {l : List UInt8} (h : (parR l).2.2 = 0) : (parR l).2.1 = 0 := by
 unfold parR at h ⊢
 split at h
 · rename_i h1
   rw [if_pos h1]
   unfold prs at h ⊢
   split at h
   · exact absurd h (cd_ne _)
   · split at h
     · rename_i h2; rw [if_pos h2]
     · exact absurd h (show ¬ (4 : Int) = 0 by decide)
 · rename_i h1; exact absurd h h1
set_option maxRecDepth 100000 in
theorem ptidy_any (n : Nat) (s : ByteArray) (l : List UInt8) (hl : s.data.toList = l) (w : World) (hs : s.size ≤ maxLen) (hT : TabP w) (hH : (parR l).2.2 = 0 → Hr n (parR l).1 ∧ Wf (parR l).1 ∧ szT n (parR l).1 ≤ 100000 ∧ wellT n (parR l).1 = true) :
   Calls Tryz.prog 4 #[.string s] w fun e w' => e = .returned (.tuple #[.string (bs (if (parR l).2.2 = 0 then shT n (parR l).1 else [])), .int .i64 (parR l).2.1, .int .i64 (parR l).2.2]) ∧ Ext w w' := by
 have HT : Hid (TabP w) := hT
 have c1 := pformula_any s w hs hT.2.1 hT.1
 rw [hl] at c1
 have HA : Hid ((parR l).2.2 = 0 → (parR l).2.1 = 0) := parR_at
 have HH : Hid ((parR l).2.2 = 0 → Hr n (parR l).1 ∧ Wf (parR l).1 ∧ szT n (parR l).1 ≤ 100000 ∧ wellT n (parR l).1 = true) := hH
 unfold FormQ at c1
 obtain ⟨t, ht⟩ : ∃ t, (parR l).1 = t := ⟨_, rfl⟩
 obtain ⟨pa, hpa⟩ : ∃ pa, (parR l).2.1 = pa := ⟨_, rfl⟩
 obtain ⟨pe, hpe⟩ : ∃ pe, (parR l).2.2 = pe := ⟨_, rfl⟩
 rw [ht, hpa, hpe] at c1 ⊢
 rw [ht, hpe] at HH
 rw [hpa, hpe] at HA
 obtain ⟨X, hX⟩ : ∃ X, bs (if pe = 0 then shT n t else []) = X := ⟨_, rfl⟩
 rw [hX]
 clear hT hH hl ht hpa hpe
 by_cases h0 : pe = 0
 · have p0 : (pe != 0) = false := by rw [h0]; rfl
   have HP := HH.out h0
   have HPA : Hid (pa = 0 ∧ pe = 0) := ⟨HA.out h0, h0⟩
   have C2 : Hid (∀ W pp ln cl, TabP W → IsL W (fun _ => True) (.slice pp ln cl) t.l → Calls Tryz.prog 9 #[.agg #[.int .i64 t.k, .int .i64 t.n, .string (bs t.s), .int .i64 t.e, .int .i64 t.r.1, .int .i64 t.r.2.1, .bool t.r.2.2.1, .bool t.r.2.2.2, .int .i64 t.q.1, .int .i64 t.q.2.1, .bool t.q.2.2.1, .bool t.q.2.2.2, .slice pp ln cl]] W fun e w' => e = .returned (.tuple #[.string (bs (shT n t)), .int .i64 0]) ∧ Ext W w') := by
     intro W pp ln cl hW hL
     have h := pform_any n t HP.1 HP.2.1 HP.2.2.1 (fun _ => True) pp ln cl W hW.to9 hL
     rw [HP.2.2.2] at h
     exact h
   have HR : Hid (bs (shT n t) = X) := by show _ = _; rw [← hX, if_pos h0]
   clear h0 HP HH HA hX
   go_enter Tryz.func4, Tryz.ntmps4
   go_wp2_with fail
   refine c1.mono ?_
   rintro e w1 ⟨lv, rfl, hL, E1⟩
   obtain ⟨pp, cl, hlv, hcl⟩ := hL.form
   obtain ⟨ln, hln⟩ : ∃ ln, t.l.length = ln := ⟨_, rfl⟩
   rw [hln] at hlv
   subst hlv
   have HL1 : Hid (IsL w1 (fun _ => True) (.slice pp ln cl) t.l ∧ Ext w w1) := ⟨hL.mono (fun _ _ _ => trivial), E1⟩
   clear hL hcl hln E1 c1
   unfold aggX
   go_wp2_with fail
   refine (C2.out _ pp ln cl (HT.out.ext (HL1.out.2.alloc _)) (HL1.out.1.ext ((Ext.refl _).alloc _))).mono ?_
   rintro e w2 ⟨rfl, E2⟩
   have HE2 : Hid (Ext w w2) := (HL1.out.2.alloc _).trans E2
   clear E2
   go_wp2_with fail
   go_ret3
   exact ⟨ret_sii HR.out (by first | exact HPA.out.1.symm | rfl) (by first | rfl | exact HPA.out.2.symm), HE2.out⟩
 · have p0 : (pe != 0) = true := by simpa using h0
   have HR : Hid ((⟨#[]⟩ : ByteArray) = X) := by show _ = _; rw [← hX, if_neg h0]; rfl
   clear h0 HH HA hX
   go_enter Tryz.func4, Tryz.ntmps4
   go_wp2_with fail
   refine c1.mono ?_
   rintro e w1 ⟨lv, rfl, hL, E1⟩
   obtain ⟨pp, cl, hlv, hcl⟩ := hL.form
   obtain ⟨ln, hln⟩ : ∃ ln, t.l.length = ln := ⟨_, rfl⟩
   rw [hln] at hlv
   subst hlv
   have HE1 : Hid (Ext w w1) := E1
   clear hL hcl hln E1 c1
   unfold aggX
   go_wp2_with fail
   go_ret3
   exact ⟨ret_sii HR.out rfl rfl, HE1.out.alloc _⟩
def live9 : T := tBin [45] (tBin [43] (tRef (1, 1, false, false)) (tBin [42] (tNum 20000) (tNum 30000))) (tBin [45] (tNum 40000) (tNum 50000))
theorem live9_par : parR [40, 65, 49, 43, 40, 50, 42, 51, 41, 41, 45, 32, 40, 52, 45, 53, 41] = (live9, 0, 0) := by kernel_rfl
theorem live9_ok : Hr 4 live9 ∧ Wf live9 ∧ szT 4 live9 ≤ 100000 ∧ wellT 4 live9 = true := by
 refine ⟨?_, ?_, by have h : szT 4 live9 = 9 := (by kernel_rfl); rw [h]; decide, by kernel_rfl⟩
 · refine hr_bin _ _ _ _ (hr_bin _ _ _ _ (hr_leaf _ _ rfl) (hr_bin _ _ _ _ (hr_leaf _ _ rfl) (hr_leaf _ _ rfl))) (hr_bin _ _ _ _ (hr_leaf _ _ rfl) (hr_leaf _ _ rfl))
 · exact wf_bin _ _ _ (by decide) (wf_bin _ _ _ (by decide) (wf_ref _ (i64_s 1 (by decide)) (i64_s 1 (by decide))) (wf_bin _ _ _ (by decide) (wf_num _ (i64_s _ (by decide))) (wf_num _ (i64_s _ (by decide))))) (wf_bin _ _ _ (by decide) (wf_num _ (i64_s _ (by decide))) (wf_num _ (i64_s _ (by decide))))
theorem live9_sh : shT 4 live9 = [65, 49, 43, 50, 42, 51, 45, 40, 52, 45, 53, 41] := by kernel_rfl
set_option maxRecDepth 100000 in
theorem lives9_any (w : World) (hT : TabP w) : Calls Tryz.prog 6 #[] w fun e w' => e = .returned (.bool true) ∧ Ext w w' := by
 have c1 := ptidy_any 4 ⟨#[40, 65, 49, 43, 40, 50, 42, 51, 41, 41, 45, 32, 40, 52, 45, 53, 41]⟩ [40, 65, 49, 43, 40, 50, 42, 51, 41, 41, 45, 32, 40, 52, 45, 53, 41] rfl w (by decide) hT (by rw [live9_par]; exact fun _ => live9_ok)
 rw [live9_par] at c1
 have c2 : Calls Tryz.prog 4 #[.string ⟨#[40, 65, 49, 43, 40, 50, 42, 51, 41, 41, 45, 32, 40, 52, 45, 53, 41]⟩] w fun e w' => e = .returned (.tuple #[.string ⟨#[65, 49, 43, 50, 42, 51, 45, 40, 52, 45, 53, 41]⟩, .int .i64 0, .int .i64 0]) ∧ Ext w w' := by
   refine c1.mono ?_
   rintro e w' ⟨rfl, E⟩
   refine ⟨?_, E⟩
   rw [if_pos rfl, live9_sh]; rfl
 clear c1 hT
 go_enter Tryz.func6, Tryz.ntmps6
 go_wp2_with fail
 refine c2.mono ?_
 rintro e w1 ⟨rfl, E1⟩
 have HE : Hid (Ext w w1) := E1
 clear E1
 go_wp2_with fail
 go_ret
 exact ⟨rfl, HE.out⟩

open Go.RowKit

theorem runD_app (A x : List UInt8) (h : A.all dgB = true) : run dgB (A ++ x) = A.length + run dgB x := by
 induction A with
 | nil => simp
 | cons c r ih =>
   simp only [List.all_cons, Bool.and_eq_true] at h
   rw [List.cons_append, run_cons, if_pos h.1, ih h.2, List.length_cons]; omega
theorem runD_all (A : List UInt8) (h : A.all dgB = true) : run dgB A = A.length := by
 have := runD_app A [] h
 rw [List.append_nil, run_nil] at this
 exact this
theorem numE_dotD (A B : List UInt8) (hA : A.all dgB = true) (hB : B.all dgB = true) (h1 : 1 ≤ B.length) : numE (A ++ 46 :: B) = (A ++ 46 :: B).length := by
 have hr : run dgB (A ++ 46 :: B) = A.length := by rw [runD_app A _ hA, run_cons, if_neg (by decide)]; rfl
 unfold numE
 rw [hr]
 have h2 : (A ++ 46 :: B)[A.length]? = some 46 := by simp
 have h3 : (A ++ 46 :: B).drop (A.length + 1) = B := by rw [← List.drop_drop, List.drop_left]; rfl
 rw [h3, runD_all B hB, if_pos ⟨h2, h1⟩]
 simp; omega
theorem numE_bare (A : List UInt8) (hA : A.all dgB = true) : numE A = A.length := by
 unfold numE
 rw [runD_all A hA, if_neg]
 simp
theorem body_numE (n : Nat) : numE (bodyL n) = (bodyL n).length := by
 unfold bodyL
 split
 · rw [List.append_nil]; exact numE_bare _ (dec_all _)
 · rename_i hf
   exact numE_dotD _ _ (dec_all _) (frac_all _ (Nat.mod_lt _ (by decide))) (by
     rcases Nat.eq_zero_or_pos (fracL (n % 10000)).length with h | h
     · exact absurd (List.length_eq_zero_iff.1 h) hf
     · exact h)
theorem body_head (n : Nat) : ∃ c r, bodyL n = c :: r ∧ dgB c = true := by
 have h1 : (bodyL n).length ≠ 0 := by
   have : printL 0 ≠ [] := printL_ne 0
   intro h
   have h2 := List.length_eq_zero_iff.1 h
   unfold bodyL at h2
   have h3 := (List.append_eq_nil_iff.1 h2).1
   unfold Lib.decDigits at h3
   split at h3 <;> simp at h3
 match hb : bodyL n with
 | [] => rw [hb] at h1; simp at h1
 | c :: r =>
   refine ⟨c, r, rfl, ?_⟩
   have ha := dec_all (n / 10000)
   unfold bodyL at hb
   match hd : Lib.decDigits (n / 10000) with
   | [] => unfold Lib.decDigits at hd; split at hd <;> simp at hd
   | d :: s =>
     rw [hd] at hb ha
     rw [List.cons_append] at hb
     cases hb
     simp only [List.all_cons, Bool.and_eq_true] at ha
     exact ha.1
theorem dg_ne {c : UInt8} (h : dgB c = true) : c ≠ 32 := by
 intro e; subst e; exact absurd h (by decide)
theorem body_nxt (n : Nat) (hn : n ≤ 9223372036854775807) : nxt (bodyL n) = .ok (0, [], (n : Int), 0, (bodyL n).length) := by
 obtain ⟨c, r, hb, hc⟩ := body_head n
 have h1 : nxt (bodyL n) = numR (bodyL n) := by
   unfold nxt
   rw [hb]
   show (if dgB c then numR (c :: r) else _) = _
   rw [if_pos hc]
 rw [h1]
 unfold numR
 rw [body_numE n, List.take_length]
 have hcan : canB (n : Int) = true := by unfold canB; simp <;> omega
 have hp : printL (n : Int) = bodyL n := by
   unfold printL
   rw [if_pos hcan, if_neg (by omega)]
   rfl
 obtain ⟨q1, q2⟩ := read_back (n : Int) hcan ⟨by omega, by omega⟩
 rw [hp] at q1 q2
 rw [q1, q2]
 rfl

open Go.RowKit

theorem tw_of {p : UInt8 → Bool} {l A B : List UInt8} (e : A ++ B = l) (hA : A.all p = true) (hB : ∀ c, B.head? = some c → p c = false) : l.takeWhile p = A ∧ l.dropWhile p = B := by
 subst e
 induction A with
 | nil =>
   cases B with
   | nil => exact ⟨rfl, rfl⟩
   | cons c B =>
     have := hB c rfl
     constructor
     · show (c :: B).takeWhile p = []; rw [List.takeWhile_cons, this]; rfl
     · show (c :: B).dropWhile p = c :: B; rw [List.dropWhile_cons, this]; rfl
 | cons a A ih =>
   rw [List.all_cons, Bool.and_eq_true] at hA
   obtain ⟨i1, i2⟩ := ih hA.2
   constructor
   · show (a :: (A ++ B)).takeWhile p = a :: A; rw [List.takeWhile_cons, hA.1, i1]; rfl
   · show (a :: (A ++ B)).dropWhile p = B; rw [List.dropWhile_cons, hA.1, if_pos rfl, i2]
theorem dw_head {p : UInt8 → Bool} (l : List UInt8) (c : UInt8) (h : (l.dropWhile p).head? = some c) : p c = false := by
 have := List.head?_dropWhile_not p l
 rw [h] at this
 simpa using this
/-- The letters; what follows; its digits. -/
def nmR (l : List UInt8) : List UInt8 := (undl l).takeWhile upB
def rsR (l : List UInt8) : List UInt8 := (undl l).dropWhile upB
def dgR (l : List UInt8) : List UInt8 := undl (rsR l)
def okR (l : List UInt8) : Bool := rowOk (dgR l) && inB (val (dgR l)) (colN (nmR l))
theorem lt_sgn {c : UInt8} (h : upB c = true) : sgns.contains c = false := by
 rw [sgn_eq]
 unfold upB at h; simp at h
 have : (c == 36) = false := beq_eq_false_iff_ne.2 fun e => by
   rw [e] at h; have : (36 : UInt8).toNat = 36 := rfl; omega
 rw [this]; unfold dgB; simp; omega
theorem sgn_lt {c : UInt8} (h : sgns.contains c = true) : upB c = false := by
 cases g : upB c with
 | false => rfl
 | true => rw [lt_sgn g] at h; cases h
theorem par_one (l : List UInt8) (h : okP l = true) : nmR l = nmL l ∧ rsR l = rsL l ∧ okR l = true ∧ rowP l = val (dgR l) := by
 have hin := h
 unfold okP inB at hin
 simp at hin
 have hc : colN (nmL l) ≠ 0 := by unfold colP at hin; omega
 have hA := colN_letters _ hc
 have e : nmL l ++ rsL l = undl l := List.takeWhile_append_dropWhile
 have hB : ∀ c, (rsL l).head? = some c → upB c = false := fun c hc => by
   have := dw_head (p := fun c => !sgns.contains c) (undl l) c hc
   exact sgn_lt (by simpa using this)
 obtain ⟨t1, t2⟩ := tw_of e hA hB
 have n1 : nmR l = nmL l := t1
 have n2 : rsR l = rsL l := t2
 obtain ⟨o1, o2⟩ := row_in (undl (rsL l)) (by unfold rowP at hin; omega) (by unfold rowP at hin; omega)
 have n3 : dgR l = undl (rsL l) := by unfold dgR; rw [n2]
 refine ⟨n1, n2, ?_, ?_⟩
 · unfold okR
   rw [n3, n1, o1, o2]
   exact h
 · rw [n3, o2]; rfl
theorem par_two (l : List UInt8) (h : okR l = true) : okP l = true := by
 unfold okR at h
 rw [Bool.and_eq_true] at h
 obtain ⟨h1, h2⟩ := h
 have hin := h2
 unfold inB at hin
 simp at hin
 have hA : (nmR l).all (fun c => !sgns.contains c) = true := by
   rw [List.all_eq_true]
   intro c hc
   have := List.all_eq_true.1 (List.all_takeWhile (p := upB) (l := undl l)) c hc
   rw [lt_sgn this]; rfl
 have e : nmR l ++ rsR l = undl l := List.takeWhile_append_dropWhile
 have hne : dgR l ≠ [] := by
   intro k; rw [k] at hin
   have : val ([] : List UInt8) = 0 := rfl
   omega
 have hB : ∀ c, (rsR l).head? = some c → (!sgns.contains c) = false := by
   intro c hc
   rw [sgn_eq]
   by_cases g : c = 36
   · subst g; rfl
   · have hd : dlB (rsR l) = false := by unfold dlB; rw [hc]; simpa using g
     have e2 : dgR l = rsR l := by unfold dgR undl; rw [hd]; rfl
     unfold rowOk at h1
     rw [Bool.and_eq_true, Bool.and_eq_true, e2] at h1
     have := List.all_eq_true.1 h1.1.1 c (List.mem_of_mem_head? (by rw [hc]; rfl))
     rw [this]; simp
 obtain ⟨t1, t2⟩ := tw_of e hA hB
 have n1 : nmL l = nmR l := t1
 have n2 : rsL l = rsR l := t2
 have hr := row_ok (dgR l) h1 hne
 unfold okP rowP colP
 rw [n1, n2]
 show inB (rowC (dgR l)) _ = true
 rw [hr]; exact h2
theorem ok_eq (l : List UInt8) : okP l = okR l := by
 cases h : okR l with
 | true => exact par_two l h
 | false =>
   cases g : okP l with
   | false => rfl
   | true => rw [(par_one l g).2.2.1] at h; cases h
/-- The document's answer. -/
theorem prV_R (l : List UInt8) : prV l = if okR l then refD (val (dgR l)) (colN (nmR l)) (dlB (rsR l)) (dlB l) else refD 0 0 false false := by
 unfold prV
 rw [← ok_eq]
 cases g : okP l with
 | false => rfl
 | true =>
   obtain ⟨n1, n2, _, n4⟩ := par_one l g
   rw [if_pos rfl, if_pos rfl, n4, n1, n2]; rfl

open Go.RowKit
set_option maxHeartbeats 1000000

end Go.Proofs.YtcggiljlilbdfaaGreatDoor

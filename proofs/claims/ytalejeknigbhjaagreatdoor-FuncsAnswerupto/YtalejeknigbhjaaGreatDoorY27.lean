/-
 The document's answer for layer 14: Call, by its names.
-/
import Derived.Test.YtalejeknigbhjaaGreatDoorY23
import Derived.Test.YtalejeknigbhjaaGreatDoorY24
import Derived.Test.YtalejeknigbhjaaGreatDoorY26
namespace Go.Proofs.YtalejeknigbhjaaGreatDoor
open Go.RowKit
set_option maxHeartbeats 1000000

theorem arr_of {s : ByteArray} {l : List UInt8} (h : s.data.toList = l) : s = ⟨l.toArray⟩ := by
 obtain ⟨a⟩ := s
 obtain ⟨l'⟩ := a
 simp at h
 subst h
 rfl
theorem ansV_ok {v : V} (h : v.ok) : ansV (.ok v.rw) = v := (nm_of v h).1
theorem bad_ok {f : V → Bool → V} (hf : ∀ v a, v.ok → (f v a).ok) {l : List (V × Bool)} (h : OkS l) : (bad f l).ok := by
 induction l with
 | nil => trivial
 | cons p l ih =>
   unfold bad
   split
   · exact hf _ _ (h p (by simp))
   · exact ih (fun q hq => h q (by simp [hq]))
theorem orBad_ok {b v : V} (hb : b.ok) (hv : v.ok) : (orBad b v).ok := by unfold orBad; split <;> assumption
theorem toldR_ok (b : Bool) (n : Int) (h : I64 n) : (toldR b n).ok := by
 unfold toldR
 split
 · exact mkNum_ok n h
 · exact ⟨by decide, by decide⟩
theorem best_i (p : Int → Int → Bool) (l : List V) (b : Int) (hb : I64 b) (h : ∀ v ∈ l, I64 v.n) : I64 (bestF p b l) := by
 induction l generalizing b with
 | nil => exact hb
 | cons v l ih =>
   show I64 (bestF p (if p v.n b then v.n else b) l)
   refine ih _ ?_ (fun u hu => h u (by simp [hu]))
   split
   · exact h v (by simp)
   · exact hb
theorem bestN_i (p : Int → Int → Bool) (l : List V) (h : ∀ v ∈ l, I64 v.n) : I64 (bestN p l) := by
 cases l with
 | nil => exact I64.z
 | cons v l => exact best_i p l v.n (h v (by simp)) (fun u hu => h u (by simp [hu]))
theorem AllN.i {l : List V} (h : AllN l) : ∀ v ∈ l, I64 v.n := fun v hv => by obtain ⟨n, rfl, h1, _⟩ := h v hv; exact h1
theorem toldV_i (x : Int) : I64 (toldV x) := by
 unfold toldV
 split
 · unfold sg64
   exact ⟨by omega, by omega⟩
 · exact I64.z
theorem meanV_i (x n : Int) : I64 (meanV x n) := by
 unfold meanV
 split
 · rename_i h
   unfold meanB at h
   simp at h
   have h0 : 0 ≤ meanQ x n := by
     unfold meanQ
     apply Int.ediv_nonneg
     · have : 0 ≤ absI x := by unfold absI; split <;> omega
       omega
     · omega
   split <;> exact ⟨by omega, by omega⟩
 · exact I64.z
theorem tol_ans (b : Bool) (n : Int) (h : I64 n) : ansV ((tolR b n).map V.rw) = toldR b n := by
 cases b with
 | true => exact ansV_ok (mkNum_ok n h)
 | false => rfl
theorem floorV_i (a : Int) (_ : I64 a) : I64 (floorV a) := by
 unfold floorV subV
 split
 · split
   · rename_i h2
     unfold subB fitB at h2
     simp at h2
     exact ⟨by omega, by omega⟩
   · exact I64.z
 · exact I64.z
theorem rootV_i (a : Int) (h : I64 a) : I64 (rootV a) := by
 unfold rootV
 split
 · have hr := rt_is (a.toNat * 10000)
   have h1 : rtN (a.toNat * 10000) ≤ 9223372036854775807 := by
     rcases Nat.lt_or_ge 9223372036854775807 (rtN (a.toNat * 10000)) with h2 | h2
     · have h3 := hr.1
       have h4 : 9223372036854775808 * 9223372036854775808 ≤ rtN (a.toNat * 10000) * rtN (a.toNat * 10000) := Nat.mul_le_mul h2 h2
       obtain ⟨i1, i2⟩ := h
       omega
     · exact h2
   exact ⟨by omega, by omega⟩
 · exact I64.z
theorem sgnV_i (b : Bool) (n : Nat) : I64 (sgnV b n) := by
 unfold sgnV
 split
 · rename_i h
   unfold sgnB at h
   simp at h
   split <;> exact ⟨by omega, by omega⟩
 · exact I64.z
theorem rndV_i (a d : Int) (h : I64 a) : I64 (rndV a d) := by
 unfold rndV
 split
 · split
   · exact h
   · split
     · exact I64.z
     · exact sgnV_i _ _
 · exact I64.z
theorem modV_i (a b : Int) (_ : I64 a) (hb : I64 b) : I64 (modV a b) := by
 unfold modV
 split
 · rename_i h
   have hb0 : b ≠ 0 := by unfold modB at h; simp at h; exact h.2
   have hf := fm_bd a b hb0
   obtain ⟨i1, i2⟩ := hb
   exact ⟨by omega, by omega⟩
 · exact I64.z
theorem Fit.ok {W : World} {v : Value} {gs : List Ag} (h : Fit W v gs) : (fSum gs).ok ∧ (fCount gs).ok ∧ (∀ p, (fBest p gs).ok) ∧ (fMean gs).ok ∧ (∀ b, (fTruth b gs).ok) ∧ (fCat gs).ok := by
 have hs := seen_ok gs h.i
 have hb := bad_ok numF_okk hs
 have hi := (got_nums _ hs).i
 have hl := h.num
 refine ⟨orBad_ok hb (toldR_ok _ _ (toldV_i _)), mkNum_ok _ ⟨by omega, by omega⟩, fun p => orBad_ok hb (mkNum_ok _ (bestN_i p _ hi)), orBad_ok hb ?_, fun b => orBad_ok (bad_ok truF_okk hs) ?_, orBad_ok (bad_ok texF_okk hs) (mkText_ok _)⟩
 · split
   · exact ⟨by decide, by decide⟩
   · exact toldR_ok _ _ (meanV_i _ _)
 · split
   · exact ⟨by decide, by decide⟩
   · trivial

set_option maxRecDepth 100000 in
theorem rc_SUM (s : ByteArray) (hs : s.data.toList = [83, 85, 77]) (l : List Bg) (hk : okN [83, 85, 77] l.length = true) (p : Option Addr) (n c : Nat) (W : World) (hF : FitB W (.slice p n c) l) :
   Calls Tryz.prog 12 #[.string s, .slice p n c] W fun e w' => e = .returned (.agg #[.int .i64 (ansV (xCall [83, 85, 77] l)).k, .int .i64 (ansV (xCall [83, 85, 77] l)).n, .string (ansV (xCall [83, 85, 77] l)).s, .int .i64 (ansV (xCall [83, 85, 77] l)).e]) ∧ Ext W w' := by
 have cK : ∀ W, Calls Tryz.prog 23 #[.string s] W fun e w' => e = .returned (.tuple #[.int .i64 1, .int .i64 20, .bool true]) ∧ w' = W := fun W => by
   have := rknown_any s W
   rw [hs] at this
   exact this
 have hn := hF.rd.len
 have hz := hF.z
 obtain ⟨_, k2, k3⟩ := okN_is hk
 rw [show knA [83, 85, 77] = 1 from rfl] at k2
 rw [show knB [83, 85, 77] = 20 from rfl] at k3
 have n2 : (n : Int) ≤ 1500000 := by omega
 have d1 : ¬ (n : Int) < 1 := by omega
 have d2 : ¬ (n : Int) > 20 := by omega
 have d3 : ((20 : Int) == 20) = true := rfl
 have HX : ansV (xCall [83, 85, 77] l) = fSum (gsOf l) := ansV_ok (hF.fit.ok.1)
 rw [HX]
 have cF := fun V (e : Ext W V) => rcall_sum (gsOf l) V p n c (hF.ext e).fit
 rw [dat_eq] at cF
 generalize fSum (gsOf l) = v at *
 have hss := arr_of hs
 subst hss
 clear hn hz hk k2 k3 hF HX hs
 go_enter Tryz.func12, Tryz.ntmps12
 go_wp2_with fail
 refine (cK _).mono ?_
 rintro e wk ⟨rfl, rfl⟩
 go_wp2_with fail
 refine (cF _ ((Ext.refl _).alloc _)).mono ?_
 rintro e w1 ⟨rfl, E1⟩
 have H1 : Hid (Ext W w1 ∧ Blk w1 W.heap.size (.int .i64 0) (.int .i64 0) (.string ⟨#[]⟩) (.int .i64 0) ∧ True) := ⟨((Ext.refl _).alloc _).trans E1, blk_top (by simp) E1, trivial⟩
 clear E1
 obtain ⟨zr, ⟨r0, r1, r2, r3⟩, rf0, rf1, rf2, rf3⟩ := H1.out.2.1
 go_wp2_with fail
 exact fin4 r0 r1 r2 r3 rfl (by simp) H1.out.1 (fun W g0 g1 g2 g3 => by simp [results, Tryz.results12, go_sem, g0, g1, g2, g3]) (fun W h => ⟨rfl, h⟩)

set_option maxRecDepth 100000 in
theorem rc_COUNT (s : ByteArray) (hs : s.data.toList = [67, 79, 85, 78, 84]) (l : List Bg) (hk : okN [67, 79, 85, 78, 84] l.length = true) (p : Option Addr) (n c : Nat) (W : World) (hF : FitB W (.slice p n c) l) :
   Calls Tryz.prog 12 #[.string s, .slice p n c] W fun e w' => e = .returned (.agg #[.int .i64 (ansV (xCall [67, 79, 85, 78, 84] l)).k, .int .i64 (ansV (xCall [67, 79, 85, 78, 84] l)).n, .string (ansV (xCall [67, 79, 85, 78, 84] l)).s, .int .i64 (ansV (xCall [67, 79, 85, 78, 84] l)).e]) ∧ Ext W w' := by
 have cK : ∀ W, Calls Tryz.prog 23 #[.string s] W fun e w' => e = .returned (.tuple #[.int .i64 1, .int .i64 20, .bool true]) ∧ w' = W := fun W => by
   have := rknown_any s W
   rw [hs] at this
   exact this
 have hn := hF.rd.len
 have hz := hF.z
 obtain ⟨_, k2, k3⟩ := okN_is hk
 rw [show knA [67, 79, 85, 78, 84] = 1 from rfl] at k2
 rw [show knB [67, 79, 85, 78, 84] = 20 from rfl] at k3
 have n2 : (n : Int) ≤ 1500000 := by omega
 have d1 : ¬ (n : Int) < 1 := by omega
 have d2 : ¬ (n : Int) > 20 := by omega
 have d3 : ((20 : Int) == 20) = true := rfl
 have HX : ansV (xCall [67, 79, 85, 78, 84] l) = fCount (gsOf l) := ansV_ok (hF.fit.ok.2.1)
 rw [HX]
 have cF := fun V (e : Ext W V) => rcall_count (gsOf l) V p n c (hF.ext e).fit
 rw [dat_eq] at cF
 generalize fCount (gsOf l) = v at *
 have hss := arr_of hs
 subst hss
 clear hn hz hk k2 k3 hF HX hs
 go_enter Tryz.func12, Tryz.ntmps12
 go_wp2_with fail
 refine (cK _).mono ?_
 rintro e wk ⟨rfl, rfl⟩
 go_wp2_with fail
 refine (cF _ ((Ext.refl _).alloc _)).mono ?_
 rintro e w1 ⟨rfl, E1⟩
 have H1 : Hid (Ext W w1 ∧ Blk w1 W.heap.size (.int .i64 0) (.int .i64 0) (.string ⟨#[]⟩) (.int .i64 0) ∧ True) := ⟨((Ext.refl _).alloc _).trans E1, blk_top (by simp) E1, trivial⟩
 clear E1
 obtain ⟨zr, ⟨r0, r1, r2, r3⟩, rf0, rf1, rf2, rf3⟩ := H1.out.2.1
 go_wp2_with fail
 exact fin4 r0 r1 r2 r3 rfl (by simp) H1.out.1 (fun W g0 g1 g2 g3 => by simp [results, Tryz.results12, go_sem, g0, g1, g2, g3]) (fun W h => ⟨rfl, h⟩)

set_option maxRecDepth 100000 in
theorem rc_MIN (s : ByteArray) (hs : s.data.toList = [77, 73, 78]) (l : List Bg) (hk : okN [77, 73, 78] l.length = true) (p : Option Addr) (n c : Nat) (W : World) (hF : FitB W (.slice p n c) l) :
   Calls Tryz.prog 12 #[.string s, .slice p n c] W fun e w' => e = .returned (.agg #[.int .i64 (ansV (xCall [77, 73, 78] l)).k, .int .i64 (ansV (xCall [77, 73, 78] l)).n, .string (ansV (xCall [77, 73, 78] l)).s, .int .i64 (ansV (xCall [77, 73, 78] l)).e]) ∧ Ext W w' := by
 have cK : ∀ W, Calls Tryz.prog 23 #[.string s] W fun e w' => e = .returned (.tuple #[.int .i64 1, .int .i64 20, .bool true]) ∧ w' = W := fun W => by
   have := rknown_any s W
   rw [hs] at this
   exact this
 have hn := hF.rd.len
 have hz := hF.z
 obtain ⟨_, k2, k3⟩ := okN_is hk
 rw [show knA [77, 73, 78] = 1 from rfl] at k2
 rw [show knB [77, 73, 78] = 20 from rfl] at k3
 have n2 : (n : Int) ≤ 1500000 := by omega
 have d1 : ¬ (n : Int) < 1 := by omega
 have d2 : ¬ (n : Int) > 20 := by omega
 have d3 : ((20 : Int) == 20) = true := rfl
 have HX : ansV (xCall [77, 73, 78] l) = fBest ltB (gsOf l) := ansV_ok (hF.fit.ok.2.2.1 _)
 rw [HX]
 have cF := fun V (e : Ext W V) => rcall_min (gsOf l) V p n c (hF.ext e).fit
 rw [dat_eq] at cF
 generalize fBest ltB (gsOf l) = v at *
 have hss := arr_of hs
 subst hss
 clear hn hz hk k2 k3 hF HX hs
 go_enter Tryz.func12, Tryz.ntmps12
 go_wp2_with fail
 refine (cK _).mono ?_
 rintro e wk ⟨rfl, rfl⟩
 go_wp2_with fail
 refine (cF _ ((Ext.refl _).alloc _)).mono ?_
 rintro e w1 ⟨rfl, E1⟩
 have H1 : Hid (Ext W w1 ∧ Blk w1 W.heap.size (.int .i64 0) (.int .i64 0) (.string ⟨#[]⟩) (.int .i64 0) ∧ True) := ⟨((Ext.refl _).alloc _).trans E1, blk_top (by simp) E1, trivial⟩
 clear E1
 obtain ⟨zr, ⟨r0, r1, r2, r3⟩, rf0, rf1, rf2, rf3⟩ := H1.out.2.1
 go_wp2_with fail
 exact fin4 r0 r1 r2 r3 rfl (by simp) H1.out.1 (fun W g0 g1 g2 g3 => by simp [results, Tryz.results12, go_sem, g0, g1, g2, g3]) (fun W h => ⟨rfl, h⟩)

set_option maxRecDepth 100000 in
theorem rc_MAX (s : ByteArray) (hs : s.data.toList = [77, 65, 88]) (l : List Bg) (hk : okN [77, 65, 88] l.length = true) (p : Option Addr) (n c : Nat) (W : World) (hF : FitB W (.slice p n c) l) :
   Calls Tryz.prog 12 #[.string s, .slice p n c] W fun e w' => e = .returned (.agg #[.int .i64 (ansV (xCall [77, 65, 88] l)).k, .int .i64 (ansV (xCall [77, 65, 88] l)).n, .string (ansV (xCall [77, 65, 88] l)).s, .int .i64 (ansV (xCall [77, 65, 88] l)).e]) ∧ Ext W w' := by
 have cK : ∀ W, Calls Tryz.prog 23 #[.string s] W fun e w' => e = .returned (.tuple #[.int .i64 1, .int .i64 20, .bool true]) ∧ w' = W := fun W => by
   have := rknown_any s W
   rw [hs] at this
   exact this
 have hn := hF.rd.len
 have hz := hF.z
 obtain ⟨_, k2, k3⟩ := okN_is hk
 rw [show knA [77, 65, 88] = 1 from rfl] at k2
 rw [show knB [77, 65, 88] = 20 from rfl] at k3
 have n2 : (n : Int) ≤ 1500000 := by omega
 have d1 : ¬ (n : Int) < 1 := by omega
 have d2 : ¬ (n : Int) > 20 := by omega
 have d3 : ((20 : Int) == 20) = true := rfl
 have HX : ansV (xCall [77, 65, 88] l) = fBest gtB (gsOf l) := ansV_ok (hF.fit.ok.2.2.1 _)
 rw [HX]
 have cF := fun V (e : Ext W V) => rcall_max (gsOf l) V p n c (hF.ext e).fit
 rw [dat_eq] at cF
 generalize fBest gtB (gsOf l) = v at *
 have hss := arr_of hs
 subst hss
 clear hn hz hk k2 k3 hF HX hs
 go_enter Tryz.func12, Tryz.ntmps12
 go_wp2_with fail
 refine (cK _).mono ?_
 rintro e wk ⟨rfl, rfl⟩
 go_wp2_with fail
 refine (cF _ ((Ext.refl _).alloc _)).mono ?_
 rintro e w1 ⟨rfl, E1⟩
 have H1 : Hid (Ext W w1 ∧ Blk w1 W.heap.size (.int .i64 0) (.int .i64 0) (.string ⟨#[]⟩) (.int .i64 0) ∧ True) := ⟨((Ext.refl _).alloc _).trans E1, blk_top (by simp) E1, trivial⟩
 clear E1
 obtain ⟨zr, ⟨r0, r1, r2, r3⟩, rf0, rf1, rf2, rf3⟩ := H1.out.2.1
 go_wp2_with fail
 exact fin4 r0 r1 r2 r3 rfl (by simp) H1.out.1 (fun W g0 g1 g2 g3 => by simp [results, Tryz.results12, go_sem, g0, g1, g2, g3]) (fun W h => ⟨rfl, h⟩)

set_option maxRecDepth 100000 in
theorem rc_AVERAGE (s : ByteArray) (hs : s.data.toList = [65, 86, 69, 82, 65, 71, 69]) (l : List Bg) (hk : okN [65, 86, 69, 82, 65, 71, 69] l.length = true) (p : Option Addr) (n c : Nat) (W : World) (hF : FitB W (.slice p n c) l) :
   Calls Tryz.prog 12 #[.string s, .slice p n c] W fun e w' => e = .returned (.agg #[.int .i64 (ansV (xCall [65, 86, 69, 82, 65, 71, 69] l)).k, .int .i64 (ansV (xCall [65, 86, 69, 82, 65, 71, 69] l)).n, .string (ansV (xCall [65, 86, 69, 82, 65, 71, 69] l)).s, .int .i64 (ansV (xCall [65, 86, 69, 82, 65, 71, 69] l)).e]) ∧ Ext W w' := by
 have cK : ∀ W, Calls Tryz.prog 23 #[.string s] W fun e w' => e = .returned (.tuple #[.int .i64 1, .int .i64 20, .bool true]) ∧ w' = W := fun W => by
   have := rknown_any s W
   rw [hs] at this
   exact this
 have hn := hF.rd.len
 have hz := hF.z
 obtain ⟨_, k2, k3⟩ := okN_is hk
 rw [show knA [65, 86, 69, 82, 65, 71, 69] = 1 from rfl] at k2
 rw [show knB [65, 86, 69, 82, 65, 71, 69] = 20 from rfl] at k3
 have n2 : (n : Int) ≤ 1500000 := by omega
 have d1 : ¬ (n : Int) < 1 := by omega
 have d2 : ¬ (n : Int) > 20 := by omega
 have d3 : ((20 : Int) == 20) = true := rfl
 have HX : ansV (xCall [65, 86, 69, 82, 65, 71, 69] l) = fMean (gsOf l) := ansV_ok (hF.fit.ok.2.2.2.1)
 rw [HX]
 have cF := fun V (e : Ext W V) => rcall_avg (gsOf l) V p n c (hF.ext e).fit
 rw [dat_eq] at cF
 generalize fMean (gsOf l) = v at *
 have hss := arr_of hs
 subst hss
 clear hn hz hk k2 k3 hF HX hs
 go_enter Tryz.func12, Tryz.ntmps12
 go_wp2_with fail
 refine (cK _).mono ?_
 rintro e wk ⟨rfl, rfl⟩
 go_wp2_with fail
 refine (cF _ ((Ext.refl _).alloc _)).mono ?_
 rintro e w1 ⟨rfl, E1⟩
 have H1 : Hid (Ext W w1 ∧ Blk w1 W.heap.size (.int .i64 0) (.int .i64 0) (.string ⟨#[]⟩) (.int .i64 0) ∧ True) := ⟨((Ext.refl _).alloc _).trans E1, blk_top (by simp) E1, trivial⟩
 clear E1
 obtain ⟨zr, ⟨r0, r1, r2, r3⟩, rf0, rf1, rf2, rf3⟩ := H1.out.2.1
 go_wp2_with fail
 exact fin4 r0 r1 r2 r3 rfl (by simp) H1.out.1 (fun W g0 g1 g2 g3 => by simp [results, Tryz.results12, go_sem, g0, g1, g2, g3]) (fun W h => ⟨rfl, h⟩)

set_option maxRecDepth 100000 in
theorem rc_AND (s : ByteArray) (hs : s.data.toList = [65, 78, 68]) (l : List Bg) (hk : okN [65, 78, 68] l.length = true) (p : Option Addr) (n c : Nat) (W : World) (hF : FitB W (.slice p n c) l) :
   Calls Tryz.prog 12 #[.string s, .slice p n c] W fun e w' => e = .returned (.agg #[.int .i64 (ansV (xCall [65, 78, 68] l)).k, .int .i64 (ansV (xCall [65, 78, 68] l)).n, .string (ansV (xCall [65, 78, 68] l)).s, .int .i64 (ansV (xCall [65, 78, 68] l)).e]) ∧ Ext W w' := by
 have cK : ∀ W, Calls Tryz.prog 23 #[.string s] W fun e w' => e = .returned (.tuple #[.int .i64 1, .int .i64 20, .bool true]) ∧ w' = W := fun W => by
   have := rknown_any s W
   rw [hs] at this
   exact this
 have hn := hF.rd.len
 have hz := hF.z
 obtain ⟨_, k2, k3⟩ := okN_is hk
 rw [show knA [65, 78, 68] = 1 from rfl] at k2
 rw [show knB [65, 78, 68] = 20 from rfl] at k3
 have n2 : (n : Int) ≤ 1500000 := by omega
 have d1 : ¬ (n : Int) < 1 := by omega
 have d2 : ¬ (n : Int) > 20 := by omega
 have d3 : ((20 : Int) == 20) = true := rfl
 have HX : ansV (xCall [65, 78, 68] l) = fAnd (gsOf l) := ansV_ok (hF.fit.ok.2.2.2.2.1 _)
 rw [HX]
 have cF := fun V (e : Ext W V) => rcall_and (gsOf l) V p n c (hF.ext e).fit
 rw [dat_eq] at cF
 generalize fAnd (gsOf l) = v at *
 have hss := arr_of hs
 subst hss
 clear hn hz hk k2 k3 hF HX hs
 go_enter Tryz.func12, Tryz.ntmps12
 go_wp2_with fail
 refine (cK _).mono ?_
 rintro e wk ⟨rfl, rfl⟩
 go_wp2_with fail
 refine (cF _ ((Ext.refl _).alloc _)).mono ?_
 rintro e w1 ⟨rfl, E1⟩
 have H1 : Hid (Ext W w1 ∧ Blk w1 W.heap.size (.int .i64 0) (.int .i64 0) (.string ⟨#[]⟩) (.int .i64 0) ∧ True) := ⟨((Ext.refl _).alloc _).trans E1, blk_top (by simp) E1, trivial⟩
 clear E1
 obtain ⟨zr, ⟨r0, r1, r2, r3⟩, rf0, rf1, rf2, rf3⟩ := H1.out.2.1
 go_wp2_with fail
 exact fin4 r0 r1 r2 r3 rfl (by simp) H1.out.1 (fun W g0 g1 g2 g3 => by simp [results, Tryz.results12, go_sem, g0, g1, g2, g3]) (fun W h => ⟨rfl, h⟩)

set_option maxRecDepth 100000 in
theorem rc_OR (s : ByteArray) (hs : s.data.toList = [79, 82]) (l : List Bg) (hk : okN [79, 82] l.length = true) (p : Option Addr) (n c : Nat) (W : World) (hF : FitB W (.slice p n c) l) :
   Calls Tryz.prog 12 #[.string s, .slice p n c] W fun e w' => e = .returned (.agg #[.int .i64 (ansV (xCall [79, 82] l)).k, .int .i64 (ansV (xCall [79, 82] l)).n, .string (ansV (xCall [79, 82] l)).s, .int .i64 (ansV (xCall [79, 82] l)).e]) ∧ Ext W w' := by
 have cK : ∀ W, Calls Tryz.prog 23 #[.string s] W fun e w' => e = .returned (.tuple #[.int .i64 1, .int .i64 20, .bool true]) ∧ w' = W := fun W => by
   have := rknown_any s W
   rw [hs] at this
   exact this
 have hn := hF.rd.len
 have hz := hF.z
 obtain ⟨_, k2, k3⟩ := okN_is hk
 rw [show knA [79, 82] = 1 from rfl] at k2
 rw [show knB [79, 82] = 20 from rfl] at k3
 have n2 : (n : Int) ≤ 1500000 := by omega
 have d1 : ¬ (n : Int) < 1 := by omega
 have d2 : ¬ (n : Int) > 20 := by omega
 have d3 : ((20 : Int) == 20) = true := rfl
 have HX : ansV (xCall [79, 82] l) = fOr (gsOf l) := ansV_ok (hF.fit.ok.2.2.2.2.1 _)
 rw [HX]
 have cF := fun V (e : Ext W V) => rcall_or (gsOf l) V p n c (hF.ext e).fit
 rw [dat_eq] at cF
 generalize fOr (gsOf l) = v at *
 have hss := arr_of hs
 subst hss
 clear hn hz hk k2 k3 hF HX hs
 go_enter Tryz.func12, Tryz.ntmps12
 go_wp2_with fail
 refine (cK _).mono ?_
 rintro e wk ⟨rfl, rfl⟩
 go_wp2_with fail
 refine (cF _ ((Ext.refl _).alloc _)).mono ?_
 rintro e w1 ⟨rfl, E1⟩
 have H1 : Hid (Ext W w1 ∧ Blk w1 W.heap.size (.int .i64 0) (.int .i64 0) (.string ⟨#[]⟩) (.int .i64 0) ∧ True) := ⟨((Ext.refl _).alloc _).trans E1, blk_top (by simp) E1, trivial⟩
 clear E1
 obtain ⟨zr, ⟨r0, r1, r2, r3⟩, rf0, rf1, rf2, rf3⟩ := H1.out.2.1
 go_wp2_with fail
 exact fin4 r0 r1 r2 r3 rfl (by simp) H1.out.1 (fun W g0 g1 g2 g3 => by simp [results, Tryz.results12, go_sem, g0, g1, g2, g3]) (fun W h => ⟨rfl, h⟩)

set_option maxRecDepth 100000 in
theorem rc_CONCAT (s : ByteArray) (hs : s.data.toList = [67, 79, 78, 67, 65, 84]) (l : List Bg) (hk : okN [67, 79, 78, 67, 65, 84] l.length = true) (p : Option Addr) (n c : Nat) (W : World) (hF : FitB W (.slice p n c) l) :
   Calls Tryz.prog 12 #[.string s, .slice p n c] W fun e w' => e = .returned (.agg #[.int .i64 (ansV (xCall [67, 79, 78, 67, 65, 84] l)).k, .int .i64 (ansV (xCall [67, 79, 78, 67, 65, 84] l)).n, .string (ansV (xCall [67, 79, 78, 67, 65, 84] l)).s, .int .i64 (ansV (xCall [67, 79, 78, 67, 65, 84] l)).e]) ∧ Ext W w' := by
 have cK : ∀ W, Calls Tryz.prog 23 #[.string s] W fun e w' => e = .returned (.tuple #[.int .i64 1, .int .i64 20, .bool true]) ∧ w' = W := fun W => by
   have := rknown_any s W
   rw [hs] at this
   exact this
 have hn := hF.rd.len
 have hz := hF.z
 obtain ⟨_, k2, k3⟩ := okN_is hk
 rw [show knA [67, 79, 78, 67, 65, 84] = 1 from rfl] at k2
 rw [show knB [67, 79, 78, 67, 65, 84] = 20 from rfl] at k3
 have n2 : (n : Int) ≤ 1500000 := by omega
 have d1 : ¬ (n : Int) < 1 := by omega
 have d2 : ¬ (n : Int) > 20 := by omega
 have d3 : ((20 : Int) == 20) = true := rfl
 have HX : ansV (xCall [67, 79, 78, 67, 65, 84] l) = fCat (gsOf l) := ansV_ok (hF.fit.ok.2.2.2.2.2)
 rw [HX]
 have cF := fun V (e : Ext W V) => rcall_cat (gsOf l) V p n c (hF.ext e).fit
 rw [dat_eq] at cF
 generalize fCat (gsOf l) = v at *
 have hss := arr_of hs
 subst hss
 clear hn hz hk k2 k3 hF HX hs
 go_enter Tryz.func12, Tryz.ntmps12
 go_wp2_with fail
 refine (cK _).mono ?_
 rintro e wk ⟨rfl, rfl⟩
 go_wp2_with fail
 refine (cF _ ((Ext.refl _).alloc _)).mono ?_
 rintro e w1 ⟨rfl, E1⟩
 have H1 : Hid (Ext W w1 ∧ Blk w1 W.heap.size (.int .i64 0) (.int .i64 0) (.string ⟨#[]⟩) (.int .i64 0) ∧ True) := ⟨((Ext.refl _).alloc _).trans E1, blk_top (by simp) E1, trivial⟩
 clear E1
 obtain ⟨zr, ⟨r0, r1, r2, r3⟩, rf0, rf1, rf2, rf3⟩ := H1.out.2.1
 go_wp2_with fail
 exact fin4 r0 r1 r2 r3 rfl (by simp) H1.out.1 (fun W g0 g1 g2 g3 => by simp [results, Tryz.results12, go_sem, g0, g1, g2, g3]) (fun W h => ⟨rfl, h⟩)

set_option maxRecDepth 100000 in
theorem rc_INDEX (s : ByteArray) (hs : s.data.toList = [73, 78, 68, 69, 88]) (l : List Bg) (hk : okN [73, 78, 68, 69, 88] l.length = true) (p : Option Addr) (n c : Nat) (W : World) (hF : FitB W (.slice p n c) l) :
   Calls Tryz.prog 12 #[.string s, .slice p n c] W fun e w' => e = .returned (.agg #[.int .i64 (ansV (xCall [73, 78, 68, 69, 88] l)).k, .int .i64 (ansV (xCall [73, 78, 68, 69, 88] l)).n, .string (ansV (xCall [73, 78, 68, 69, 88] l)).s, .int .i64 (ansV (xCall [73, 78, 68, 69, 88] l)).e]) ∧ Ext W w' := by
 have cK : ∀ W, Calls Tryz.prog 23 #[.string s] W fun e w' => e = .returned (.tuple #[.int .i64 2, .int .i64 3, .bool true]) ∧ w' = W := fun W => by
   have := rknown_any s W
   rw [hs] at this
   exact this
 have hn := hF.rd.len
 have hz := hF.z
 obtain ⟨_, k2, k3⟩ := okN_is hk
 rw [show knA [73, 78, 68, 69, 88] = 2 from rfl] at k2
 rw [show knB [73, 78, 68, 69, 88] = 3 from rfl] at k3
 have n2 : (n : Int) ≤ 1500000 := by omega
 have d1 : ¬ (n : Int) < 2 := by omega
 have d2 : ¬ (n : Int) > 3 := by omega
 have d3 : ((3 : Int) == 20) = false := rfl
 obtain ⟨a0, h0⟩ := at_some (l := l) (i := 0) (by omega)
 have o0 : (sgl a0).ok := by have := hF.ok 0; rwa [sg_of h0] at this
 have c0 := fun V (e : Ext W V) => rarg_any l 0 a0 h0 p n c V (hF.ext e)
 obtain ⟨a1, h1⟩ := at_some (l := l) (i := 1) (by omega)
 have o1 : (sgl a1).ok := by have := hF.ok 1; rwa [sg_of h1] at this
 have c1 := fun V (e : Ext W V) => rarg_any l 1 a1 h1 p n c V (hF.ext e)
 rw [show xCall [73, 78, 68, 69, 88] l = xIndex l from rfl]
 have cI := fun V (e : Ext W V) => rindex_any l a0 a1 h0 h1 p n c V (hF.ext e)
 generalize ansV (xIndex l) = v at *
 have hl : s.toList = [73, 78, 68, 69, 88] := by rw [ByteArray.toList_eq]; exact hs
 have e0 : (s.toList == [73, 78, 68, 69, 88]) = true := by rw [hl]; decide
 have e1 : (s.toList == [73, 83, 69, 82, 82, 79, 82]) = false := by rw [hl]; decide
 have e2 : (s.toList == [73, 70, 69, 82, 82, 79, 82]) = false := by rw [hl]; decide
 have e3 : (s.toList == [73, 70]) = false := by rw [hl]; decide
 have e4 : (s.toList == [78, 79, 84]) = false := by rw [hl]; decide
 have e5 : (s.toList == [76, 69, 78]) = false := by rw [hl]; decide
 have e6 : (s.toList == [76, 69, 70, 84]) = false := by rw [hl]; decide
 clear hl
 clear hn hz hk k2 k3 hF h0 h1 o0 o1 c0 c1 hs
 go_enter Tryz.func12, Tryz.ntmps12
 go_wp2_with fail
 refine (cK _).mono ?_
 rintro e wk ⟨rfl, rfl⟩
 go_wp2_with fail
 refine (cI _ ((Ext.refl _).alloc _)).mono ?_
 rintro e w1 ⟨rfl, E1⟩
 have H1 : Hid (Ext W w1 ∧ Blk w1 W.heap.size (.int .i64 0) (.int .i64 0) (.string ⟨#[]⟩) (.int .i64 0) ∧ True) := ⟨((Ext.refl _).alloc _).trans E1, blk_top (by simp) E1, trivial⟩
 clear E1
 obtain ⟨zr, ⟨r0, r1, r2, r3⟩, rf0, rf1, rf2, rf3⟩ := H1.out.2.1
 go_wp2_with fail
 exact fin4 r0 r1 r2 r3 rfl (by simp) H1.out.1 (fun W g0 g1 g2 g3 => by simp [results, Tryz.results12, go_sem, g0, g1, g2, g3]) (fun W h => ⟨rfl, h⟩)

set_option maxRecDepth 100000 in
theorem rc_ISERROR (s : ByteArray) (hs : s.data.toList = [73, 83, 69, 82, 82, 79, 82]) (l : List Bg) (hk : okN [73, 83, 69, 82, 82, 79, 82] l.length = true) (p : Option Addr) (n c : Nat) (W : World) (hF : FitB W (.slice p n c) l) :
   Calls Tryz.prog 12 #[.string s, .slice p n c] W fun e w' => e = .returned (.agg #[.int .i64 (ansV (xCall [73, 83, 69, 82, 82, 79, 82] l)).k, .int .i64 (ansV (xCall [73, 83, 69, 82, 82, 79, 82] l)).n, .string (ansV (xCall [73, 83, 69, 82, 82, 79, 82] l)).s, .int .i64 (ansV (xCall [73, 83, 69, 82, 82, 79, 82] l)).e]) ∧ Ext W w' := by
 have cK : ∀ W, Calls Tryz.prog 23 #[.string s] W fun e w' => e = .returned (.tuple #[.int .i64 1, .int .i64 1, .bool true]) ∧ w' = W := fun W => by
   have := rknown_any s W
   rw [hs] at this
   exact this
 have hn := hF.rd.len
 have hz := hF.z
 obtain ⟨_, k2, k3⟩ := okN_is hk
 rw [show knA [73, 83, 69, 82, 82, 79, 82] = 1 from rfl] at k2
 rw [show knB [73, 83, 69, 82, 82, 79, 82] = 1 from rfl] at k3
 have n2 : (n : Int) ≤ 1500000 := by omega
 have d1 : ¬ (n : Int) < 1 := by omega
 have d2 : ¬ (n : Int) > 1 := by omega
 have d3 : ((1 : Int) == 20) = false := rfl
 obtain ⟨a0, h0⟩ := at_some (l := l) (i := 0) (by omega)
 have o0 : (sgl a0).ok := by have := hF.ok 0; rwa [sg_of h0] at this
 have c0 := fun V (e : Ext W V) => rarg_any l 0 a0 h0 p n c V (hF.ext e)
 have HX : ansV (xCall [73, 83, 69, 82, 82, 79, 82] l) = .tf ((sgl a0).k == 4) := by
   show ansV (xIsErr l) = _
   unfold xIsErr
   rw [sg_of h0]
   exact ansV_ok (v := .tf ((sgl a0).k == 4)) trivial
 rw [HX]
 generalize sgl a0 = v0 at *
 have hl : s.toList = [73, 83, 69, 82, 82, 79, 82] := by rw [ByteArray.toList_eq]; exact hs
 have e0 : (s.toList == [73, 78, 68, 69, 88]) = false := by rw [hl]; decide
 have e1 : (s.toList == [73, 83, 69, 82, 82, 79, 82]) = true := by rw [hl]; decide
 have e2 : (s.toList == [73, 70, 69, 82, 82, 79, 82]) = false := by rw [hl]; decide
 have e3 : (s.toList == [73, 70]) = false := by rw [hl]; decide
 have e4 : (s.toList == [78, 79, 84]) = false := by rw [hl]; decide
 have e5 : (s.toList == [76, 69, 78]) = false := by rw [hl]; decide
 have e6 : (s.toList == [76, 69, 70, 84]) = false := by rw [hl]; decide
 clear hl
 clear hn hz hk k2 k3 hF h0 o0 hs HX
 cases hv : (v0.k == 4) with
 | true =>
   have cB : ∀ V, Calls Tryz.prog 15 #[.bool true] V fun r w' => r = .returned (.agg #[.int .i64 1, .int .i64 1, .string ⟨#[]⟩, .int .i64 0]) ∧ Ext V w' := fun V => rbool_any true V
   go_enter Tryz.func12, Tryz.ntmps12
   go_wp2_with fail
   refine (cK _).mono ?_
   rintro e wk ⟨rfl, rfl⟩
   go_wp2_with fail
   refine (c0 _ ((Ext.refl _).alloc _)).mono ?_
   rintro e w1 ⟨rfl, E1⟩
   have H1 : Hid (Ext W w1 ∧ Blk w1 W.heap.size (.int .i64 0) (.int .i64 0) (.string ⟨#[]⟩) (.int .i64 0)) := ⟨((Ext.refl _).alloc _).trans E1, blk_top (by simp) E1⟩
   clear E1
   go_wp2_with fail
   refine (cB _).mono ?_
   rintro e w2 ⟨rfl, E2⟩
   have H2 : Hid (Ext W w2 ∧ Blk w2 W.heap.size (.int .i64 0) (.int .i64 0) (.string ⟨#[]⟩) (.int .i64 0) ∧ Blk w2 w1.heap.size (.int .i64 v0.k) (.int .i64 v0.n) (.string v0.s) (.int .i64 v0.e)) := ⟨(H1.out.1.alloc _).trans E2, (H1.out.2.al _).ext E2, blk_top (by simp) E2⟩
   clear E2
   obtain ⟨zr, ⟨r0, r1, r2, r3⟩, rf0, rf1, rf2, rf3⟩ := H2.out.2.1
   go_wp2_with fail
   exact fin4 r0 r1 r2 r3 rfl (by simp) H2.out.1 (fun W g0 g1 g2 g3 => by simp [results, Tryz.results12, go_sem, g0, g1, g2, g3]) (fun W h => ⟨rfl, h⟩)
 | false =>
   have cB : ∀ V, Calls Tryz.prog 15 #[.bool false] V fun r w' => r = .returned (.agg #[.int .i64 1, .int .i64 0, .string ⟨#[]⟩, .int .i64 0]) ∧ Ext V w' := fun V => rbool_any false V
   go_enter Tryz.func12, Tryz.ntmps12
   go_wp2_with fail
   refine (cK _).mono ?_
   rintro e wk ⟨rfl, rfl⟩
   go_wp2_with fail
   refine (c0 _ ((Ext.refl _).alloc _)).mono ?_
   rintro e w1 ⟨rfl, E1⟩
   have H1 : Hid (Ext W w1 ∧ Blk w1 W.heap.size (.int .i64 0) (.int .i64 0) (.string ⟨#[]⟩) (.int .i64 0)) := ⟨((Ext.refl _).alloc _).trans E1, blk_top (by simp) E1⟩
   clear E1
   go_wp2_with fail
   refine (cB _).mono ?_
   rintro e w2 ⟨rfl, E2⟩
   have H2 : Hid (Ext W w2 ∧ Blk w2 W.heap.size (.int .i64 0) (.int .i64 0) (.string ⟨#[]⟩) (.int .i64 0) ∧ Blk w2 w1.heap.size (.int .i64 v0.k) (.int .i64 v0.n) (.string v0.s) (.int .i64 v0.e)) := ⟨(H1.out.1.alloc _).trans E2, (H1.out.2.al _).ext E2, blk_top (by simp) E2⟩
   clear E2
   obtain ⟨zr, ⟨r0, r1, r2, r3⟩, rf0, rf1, rf2, rf3⟩ := H2.out.2.1
   go_wp2_with fail
   exact fin4 r0 r1 r2 r3 rfl (by simp) H2.out.1 (fun W g0 g1 g2 g3 => by simp [results, Tryz.results12, go_sem, g0, g1, g2, g3]) (fun W h => ⟨rfl, h⟩)

set_option maxRecDepth 100000 in
theorem rc_IFERROR (s : ByteArray) (hs : s.data.toList = [73, 70, 69, 82, 82, 79, 82]) (l : List Bg) (hk : okN [73, 70, 69, 82, 82, 79, 82] l.length = true) (p : Option Addr) (n c : Nat) (W : World) (hF : FitB W (.slice p n c) l) :
   Calls Tryz.prog 12 #[.string s, .slice p n c] W fun e w' => e = .returned (.agg #[.int .i64 (ansV (xCall [73, 70, 69, 82, 82, 79, 82] l)).k, .int .i64 (ansV (xCall [73, 70, 69, 82, 82, 79, 82] l)).n, .string (ansV (xCall [73, 70, 69, 82, 82, 79, 82] l)).s, .int .i64 (ansV (xCall [73, 70, 69, 82, 82, 79, 82] l)).e]) ∧ Ext W w' := by
 have cK : ∀ W, Calls Tryz.prog 23 #[.string s] W fun e w' => e = .returned (.tuple #[.int .i64 2, .int .i64 2, .bool true]) ∧ w' = W := fun W => by
   have := rknown_any s W
   rw [hs] at this
   exact this
 have hn := hF.rd.len
 have hz := hF.z
 obtain ⟨_, k2, k3⟩ := okN_is hk
 rw [show knA [73, 70, 69, 82, 82, 79, 82] = 2 from rfl] at k2
 rw [show knB [73, 70, 69, 82, 82, 79, 82] = 2 from rfl] at k3
 have n2 : (n : Int) ≤ 1500000 := by omega
 have d1 : ¬ (n : Int) < 2 := by omega
 have d2 : ¬ (n : Int) > 2 := by omega
 have d3 : ((2 : Int) == 20) = false := rfl
 obtain ⟨a0, h0⟩ := at_some (l := l) (i := 0) (by omega)
 have o0 : (sgl a0).ok := by have := hF.ok 0; rwa [sg_of h0] at this
 have c0 := fun V (e : Ext W V) => rarg_any l 0 a0 h0 p n c V (hF.ext e)
 obtain ⟨a1, h1⟩ := at_some (l := l) (i := 1) (by omega)
 have o1 : (sgl a1).ok := by have := hF.ok 1; rwa [sg_of h1] at this
 have c1 := fun V (e : Ext W V) => rarg_any l 1 a1 h1 p n c V (hF.ext e)
 have HX : ansV (xCall [73, 70, 69, 82, 82, 79, 82] l) = if (sgl a0).k = 4 then sgl a1 else sgl a0 := by
   show ansV (xIfErr l) = _
   unfold xIfErr
   rw [sg_of h0, sg_of h1]
   split
   · exact ansV_ok o1
   · exact ansV_ok o0
 rw [HX]
 generalize sgl a0 = v0 at *
 generalize sgl a1 = v1 at *
 have hl : s.toList = [73, 70, 69, 82, 82, 79, 82] := by rw [ByteArray.toList_eq]; exact hs
 have e0 : (s.toList == [73, 78, 68, 69, 88]) = false := by rw [hl]; decide
 have e1 : (s.toList == [73, 83, 69, 82, 82, 79, 82]) = false := by rw [hl]; decide
 have e2 : (s.toList == [73, 70, 69, 82, 82, 79, 82]) = true := by rw [hl]; decide
 have e3 : (s.toList == [73, 70]) = false := by rw [hl]; decide
 have e4 : (s.toList == [78, 79, 84]) = false := by rw [hl]; decide
 have e5 : (s.toList == [76, 69, 78]) = false := by rw [hl]; decide
 have e6 : (s.toList == [76, 69, 70, 84]) = false := by rw [hl]; decide
 clear hl
 clear hn hz hk k2 k3 hF h0 h1 o0 o1 hs HX
 by_cases hv : v0.k = 4
 · rw [if_pos hv]
   have ev : (v0.k == 4) = true := by simp [hv]
   clear hv
   go_enter Tryz.func12, Tryz.ntmps12
   go_wp2_with fail
   refine (cK _).mono ?_
   rintro e wk ⟨rfl, rfl⟩
   go_wp2_with fail
   refine (c0 _ ((Ext.refl _).alloc _)).mono ?_
   rintro e w1 ⟨rfl, E1⟩
   have H1 : Hid (Ext W w1 ∧ Blk w1 W.heap.size (.int .i64 0) (.int .i64 0) (.string ⟨#[]⟩) (.int .i64 0)) := ⟨((Ext.refl _).alloc _).trans E1, blk_top (by simp) E1⟩
   clear E1
   go_wp2_with fail
   refine (c1 _ (H1.out.1.alloc _)).mono ?_
   rintro e w2 ⟨rfl, E2⟩
   have H2 : Hid (Ext W w2 ∧ Blk w2 W.heap.size (.int .i64 0) (.int .i64 0) (.string ⟨#[]⟩) (.int .i64 0) ∧ Blk w2 w1.heap.size (.int .i64 v0.k) (.int .i64 v0.n) (.string v0.s) (.int .i64 v0.e)) := ⟨(H1.out.1.alloc _).trans E2, (H1.out.2.al _).ext E2, blk_top (by simp) E2⟩
   clear E2
   obtain ⟨zr, ⟨r0, r1, r2, r3⟩, rf0, rf1, rf2, rf3⟩ := H2.out.2.1
   go_wp2_with fail
   exact fin4 r0 r1 r2 r3 rfl (by simp) H2.out.1 (fun W g0 g1 g2 g3 => by simp [results, Tryz.results12, go_sem, g0, g1, g2, g3]) (fun W h => ⟨rfl, h⟩)
 · rw [if_neg hv]
   have ev : (v0.k == 4) = false := by simp [hv]
   clear hv
   go_enter Tryz.func12, Tryz.ntmps12
   go_wp2_with fail
   refine (cK _).mono ?_
   rintro e wk ⟨rfl, rfl⟩
   go_wp2_with fail
   refine (c0 _ ((Ext.refl _).alloc _)).mono ?_
   rintro e w1 ⟨rfl, E1⟩
   have H1 : Hid (Ext W w1 ∧ Blk w1 W.heap.size (.int .i64 0) (.int .i64 0) (.string ⟨#[]⟩) (.int .i64 0)) := ⟨((Ext.refl _).alloc _).trans E1, blk_top (by simp) E1⟩
   clear E1
   obtain ⟨zr, ⟨r0, r1, r2, r3⟩, rf0, rf1, rf2, rf3⟩ := H1.out.2
   go_wp2_with fail
   have X2 : Ext W (((((w1.setCell ⟨W.heap.size, 0, none⟩ (.int .i64 v0.k)).setCell ⟨W.heap.size, 1, none⟩ (.int .i64 v0.n)).setCell ⟨W.heap.size, 2, none⟩ (.string v0.s)).setCell ⟨W.heap.size, 3, none⟩ (.int .i64 v0.e)).alloc (.cells #[.int .i64 v0.k, .int .i64 v0.n, .string v0.s, .int .i64 v0.e] 25)) := ((((H1.out.1.setCell (Nat.le_refl _) _).setCell (Nat.le_refl _) _).setCell (Nat.le_refl _) _).setCell (Nat.le_refl _) _).alloc _
   exact finB (b := W.heap.size) (w := W) ((H1.out.2.set _ _ _ _).al _) rfl X2 (fun g0 g1 g2 g3 => by simp [results, Tryz.results12, go_sem, g0, g1, g2, g3]) (fun h => ⟨rfl, h⟩)

set_option maxRecDepth 100000 in
theorem rc_IF (s : ByteArray) (hs : s.data.toList = [73, 70]) (l : List Bg) (hk : okN [73, 70] l.length = true) (p : Option Addr) (n c : Nat) (W : World) (hF : FitB W (.slice p n c) l) :
   Calls Tryz.prog 12 #[.string s, .slice p n c] W fun e w' => e = .returned (.agg #[.int .i64 (ansV (xCall [73, 70] l)).k, .int .i64 (ansV (xCall [73, 70] l)).n, .string (ansV (xCall [73, 70] l)).s, .int .i64 (ansV (xCall [73, 70] l)).e]) ∧ Ext W w' := by
 have cK : ∀ W, Calls Tryz.prog 23 #[.string s] W fun e w' => e = .returned (.tuple #[.int .i64 2, .int .i64 3, .bool true]) ∧ w' = W := fun W => by
   have := rknown_any s W
   rw [hs] at this
   exact this
 have hn := hF.rd.len
 have hz := hF.z
 obtain ⟨_, k2, k3⟩ := okN_is hk
 rw [show knA [73, 70] = 2 from rfl] at k2
 rw [show knB [73, 70] = 3 from rfl] at k3
 have n2 : (n : Int) ≤ 1500000 := by omega
 have d1 : ¬ (n : Int) < 2 := by omega
 have d2 : ¬ (n : Int) > 3 := by omega
 have d3 : ((3 : Int) == 20) = false := rfl
 obtain ⟨a0, h0⟩ := at_some (l := l) (i := 0) (by omega)
 have o0 : (sgl a0).ok := by have := hF.ok 0; rwa [sg_of h0] at this
 have c0 := fun V (e : Ext W V) => rarg_any l 0 a0 h0 p n c V (hF.ext e)
 obtain ⟨a1, h1⟩ := at_some (l := l) (i := 1) (by omega)
 have o1 : (sgl a1).ok := by have := hF.ok 1; rwa [sg_of h1] at this
 have c1 := fun V (e : Ext W V) => rarg_any l 1 a1 h1 p n c V (hF.ext e)
 have cX := fun V => rtobool_any (sgl a0).k (sgl a0).n (sgl a0).s (sgl a0).e V (nm_of _ o0).2
 rw [(nm_of _ o0).1] at cX
 have hl : s.toList = [73, 70] := by rw [ByteArray.toList_eq]; exact hs
 have e0 : (s.toList == [73, 78, 68, 69, 88]) = false := by rw [hl]; decide
 have e1 : (s.toList == [73, 83, 69, 82, 82, 79, 82]) = false := by rw [hl]; decide
 have e2 : (s.toList == [73, 70, 69, 82, 82, 79, 82]) = false := by rw [hl]; decide
 have e3 : (s.toList == [73, 70]) = true := by rw [hl]; decide
 have e4 : (s.toList == [78, 79, 84]) = false := by rw [hl]; decide
 have e5 : (s.toList == [76, 69, 78]) = false := by rw [hl]; decide
 have e6 : (s.toList == [76, 69, 70, 84]) = false := by rw [hl]; decide
 clear hl
 rcases toBool_cases (sgl a0) with ⟨t, hx⟩ | ⟨x, hx⟩
 · rw [hx] at cX
   simp only [V.dat] at cX
   cases t with
   | true =>
     have HX : ansV (xCall [73, 70] l) = sgl a1 := by
       show ansV (xIf l) = _
       unfold xIf
       rw [sg_of h0, trR_ok hx, sg_of h1]
       exact ansV_ok o1
     rw [HX]
     simp only [if_true] at cX
     generalize sgl a0 = v0 at *
     generalize sgl a1 = v1 at *
     clear hn hz hk k2 k3 hF h0 o0 hs HX hx h1 o1
     go_enter Tryz.func12, Tryz.ntmps12
     go_wp2_with fail
     refine (cK _).mono ?_
     rintro e wk ⟨rfl, rfl⟩
     go_wp2_with fail
     refine (c0 _ ((Ext.refl _).alloc _)).mono ?_
     rintro e w1 ⟨rfl, E1⟩
     have H1 : Hid (Ext W w1 ∧ Blk w1 W.heap.size (.int .i64 0) (.int .i64 0) (.string ⟨#[]⟩) (.int .i64 0)) := ⟨((Ext.refl _).alloc _).trans E1, blk_top (by simp) E1⟩
     clear E1
     have HW : Hid (W.heap.size < w1.heap.size) := H1.out.2.1
     go_wp2_with fail
     refine (cX _).mono ?_
     rintro e w2 ⟨rfl, E2⟩
     have H2 : Hid (Ext W w2 ∧ Blk w2 W.heap.size (.int .i64 0) (.int .i64 0) (.string ⟨#[]⟩) (.int .i64 0) ∧ Blk w2 w1.heap.size (.int .i64 v0.k) (.int .i64 v0.n) (.string v0.s) (.int .i64 v0.e)) := ⟨(H1.out.1.alloc _).trans E2, (H1.out.2.al _).ext E2, blk_top (by simp) E2⟩
     clear E2
     obtain ⟨zd, ⟨d0', d1', d2', d3'⟩, df0, df1, df2, df3⟩ := H2.out.2.2
     go_upto_region 23 with fail
     have H3 : Hid (Ext W ((((w2.setCell ⟨w1.heap.size, 0, none⟩ (.int .i64 1)).setCell ⟨w1.heap.size, 1, none⟩ (.int .i64 1)).setCell ⟨w1.heap.size, 2, none⟩ (.string ⟨#[]⟩)).setCell ⟨w1.heap.size, 3, none⟩ (.int .i64 0)) ∧ Blk ((((w2.setCell ⟨w1.heap.size, 0, none⟩ (.int .i64 1)).setCell ⟨w1.heap.size, 1, none⟩ (.int .i64 1)).setCell ⟨w1.heap.size, 2, none⟩ (.string ⟨#[]⟩)).setCell ⟨w1.heap.size, 3, none⟩ (.int .i64 0)) W.heap.size (.int .i64 0) (.int .i64 0) (.string ⟨#[]⟩) (.int .i64 0) ∧ Blk ((((w2.setCell ⟨w1.heap.size, 0, none⟩ (.int .i64 1)).setCell ⟨w1.heap.size, 1, none⟩ (.int .i64 1)).setCell ⟨w1.heap.size, 2, none⟩ (.string ⟨#[]⟩)).setCell ⟨w1.heap.size, 3, none⟩ (.int .i64 0)) w1.heap.size (.int .i64 1) (.int .i64 1) (.string ⟨#[]⟩) (.int .i64 0)) := ⟨(((H2.out.1.setCell (p := ⟨w1.heap.size, 0, none⟩) (Nat.le_of_lt HW.out) _).setCell (p := ⟨w1.heap.size, 1, none⟩) (Nat.le_of_lt HW.out) _).setCell (p := ⟨w1.heap.size, 2, none⟩) (Nat.le_of_lt HW.out) _).setCell (p := ⟨w1.heap.size, 3, none⟩) (Nat.le_of_lt HW.out) _, H2.out.2.1.far (Ne.symm (Nat.ne_of_lt HW.out)) _ _ _ _, H2.out.2.2.set _ _ _ _⟩
     clear zd d0' d1' d2' d3' df0 df1 df2 df3
     generalize (((w2.setCell ⟨w1.heap.size, 0, none⟩ (.int .i64 1)).setCell ⟨w1.heap.size, 1, none⟩ (.int .i64 1)).setCell ⟨w1.heap.size, 2, none⟩ (.string ⟨#[]⟩)).setCell ⟨w1.heap.size, 3, none⟩ (.int .i64 0) = w3 at *
     obtain ⟨zd, ⟨d0', d1', d2', d3'⟩, df0, df1, df2, df3⟩ := H3.out.2.2
     go_wp2_with fail
     refine (c1 _ H3.out.1).mono ?_
     rintro e w4 ⟨rfl, E4⟩
     have H4 : Hid (Ext W w4 ∧ Blk w4 W.heap.size (.int .i64 0) (.int .i64 0) (.string ⟨#[]⟩) (.int .i64 0) ∧ True) := ⟨H3.out.1.trans E4, H3.out.2.1.ext E4, trivial⟩
     clear E4 zd d0' d1' d2' d3' df0 df1 df2 df3
     obtain ⟨zr, ⟨r0, r1, r2, r3⟩, rf0, rf1, rf2, rf3⟩ := H4.out.2.1
     go_wp2_with fail
     exact fin4 r0 r1 r2 r3 rfl (by simp) H4.out.1 (fun W g0 g1 g2 g3 => by simp [results, Tryz.results12, go_sem, g0, g1, g2, g3]) (fun W h => ⟨rfl, h⟩)
   | false =>
     simp only [Bool.false_eq_true, if_false] at cX
     by_cases h3 : l.length < 3
     · have HX : ansV (xCall [73, 70] l) = .tf false := by
         show ansV (xIf l) = _
         unfold xIf
         rw [sg_of h0, trR_ok hx]
         simp only [Bool.false_eq_true, if_false, if_pos h3]
         exact ansV_ok (v := .tf false) trivial
       rw [HX]
       have cB : ∀ V, Calls Tryz.prog 15 #[.bool false] V fun r w' => r = .returned (.agg #[.int .i64 1, .int .i64 0, .string ⟨#[]⟩, .int .i64 0]) ∧ Ext V w' := fun V => rbool_any false V
       have d4 : ((n : Int) == 3) = false := by simp; omega
       generalize sgl a0 = v0 at *
       clear hn hz hk k2 k3 hF h0 o0 hs HX hx h1 o1
       clear c1 h3
       go_enter Tryz.func12, Tryz.ntmps12
       go_wp2_with fail
       refine (cK _).mono ?_
       rintro e wk ⟨rfl, rfl⟩
       go_wp2_with fail
       refine (c0 _ ((Ext.refl _).alloc _)).mono ?_
       rintro e w1 ⟨rfl, E1⟩
       have H1 : Hid (Ext W w1 ∧ Blk w1 W.heap.size (.int .i64 0) (.int .i64 0) (.string ⟨#[]⟩) (.int .i64 0)) := ⟨((Ext.refl _).alloc _).trans E1, blk_top (by simp) E1⟩
       clear E1
       have HW : Hid (W.heap.size < w1.heap.size) := H1.out.2.1
       go_wp2_with fail
       refine (cX _).mono ?_
       rintro e w2 ⟨rfl, E2⟩
       have H2 : Hid (Ext W w2 ∧ Blk w2 W.heap.size (.int .i64 0) (.int .i64 0) (.string ⟨#[]⟩) (.int .i64 0) ∧ Blk w2 w1.heap.size (.int .i64 v0.k) (.int .i64 v0.n) (.string v0.s) (.int .i64 v0.e)) := ⟨(H1.out.1.alloc _).trans E2, (H1.out.2.al _).ext E2, blk_top (by simp) E2⟩
       clear E2
       obtain ⟨zd, ⟨d0', d1', d2', d3'⟩, df0, df1, df2, df3⟩ := H2.out.2.2
       go_upto_region 23 with fail
       have H3 : Hid (Ext W ((((w2.setCell ⟨w1.heap.size, 0, none⟩ (.int .i64 1)).setCell ⟨w1.heap.size, 1, none⟩ (.int .i64 0)).setCell ⟨w1.heap.size, 2, none⟩ (.string ⟨#[]⟩)).setCell ⟨w1.heap.size, 3, none⟩ (.int .i64 0)) ∧ Blk ((((w2.setCell ⟨w1.heap.size, 0, none⟩ (.int .i64 1)).setCell ⟨w1.heap.size, 1, none⟩ (.int .i64 0)).setCell ⟨w1.heap.size, 2, none⟩ (.string ⟨#[]⟩)).setCell ⟨w1.heap.size, 3, none⟩ (.int .i64 0)) W.heap.size (.int .i64 0) (.int .i64 0) (.string ⟨#[]⟩) (.int .i64 0) ∧ Blk ((((w2.setCell ⟨w1.heap.size, 0, none⟩ (.int .i64 1)).setCell ⟨w1.heap.size, 1, none⟩ (.int .i64 0)).setCell ⟨w1.heap.size, 2, none⟩ (.string ⟨#[]⟩)).setCell ⟨w1.heap.size, 3, none⟩ (.int .i64 0)) w1.heap.size (.int .i64 1) (.int .i64 0) (.string ⟨#[]⟩) (.int .i64 0)) := ⟨(((H2.out.1.setCell (p := ⟨w1.heap.size, 0, none⟩) (Nat.le_of_lt HW.out) _).setCell (p := ⟨w1.heap.size, 1, none⟩) (Nat.le_of_lt HW.out) _).setCell (p := ⟨w1.heap.size, 2, none⟩) (Nat.le_of_lt HW.out) _).setCell (p := ⟨w1.heap.size, 3, none⟩) (Nat.le_of_lt HW.out) _, H2.out.2.1.far (Ne.symm (Nat.ne_of_lt HW.out)) _ _ _ _, H2.out.2.2.set _ _ _ _⟩
       clear zd d0' d1' d2' d3' df0 df1 df2 df3
       generalize (((w2.setCell ⟨w1.heap.size, 0, none⟩ (.int .i64 1)).setCell ⟨w1.heap.size, 1, none⟩ (.int .i64 0)).setCell ⟨w1.heap.size, 2, none⟩ (.string ⟨#[]⟩)).setCell ⟨w1.heap.size, 3, none⟩ (.int .i64 0) = w3 at *
       obtain ⟨zd, ⟨d0', d1', d2', d3'⟩, df0, df1, df2, df3⟩ := H3.out.2.2
       go_wp2_with fail
       refine (cB _).mono ?_
       rintro e w4 ⟨rfl, E4⟩
       have H4 : Hid (Ext W w4 ∧ Blk w4 W.heap.size (.int .i64 0) (.int .i64 0) (.string ⟨#[]⟩) (.int .i64 0) ∧ True) := ⟨H3.out.1.trans E4, H3.out.2.1.ext E4, trivial⟩
       clear E4 zd d0' d1' d2' d3' df0 df1 df2 df3
       obtain ⟨zr, ⟨r0, r1, r2, r3⟩, rf0, rf1, rf2, rf3⟩ := H4.out.2.1
       go_wp2_with fail
       exact fin4 r0 r1 r2 r3 rfl (by simp) H4.out.1 (fun W g0 g1 g2 g3 => by simp [results, Tryz.results12, go_sem, g0, g1, g2, g3]) (fun W h => ⟨rfl, h⟩)
     · obtain ⟨a2, h2⟩ := at_some (l := l) (i := 2) (by omega)
       have o2 : (sgl a2).ok := by have := hF.ok 2; rwa [sg_of h2] at this
       have c2 := fun V (e : Ext W V) => rarg_any l 2 a2 h2 p n c V (hF.ext e)
       have HX : ansV (xCall [73, 70] l) = sgl a2 := by
         show ansV (xIf l) = _
         unfold xIf
         rw [sg_of h0, trR_ok hx, sg_of h2]
         simp only [Bool.false_eq_true, if_false, if_neg h3]
         exact ansV_ok o2
       rw [HX]
       have d4 : ((n : Int) == 3) = true := by simp; omega
       generalize sgl a0 = v0 at *
       generalize sgl a2 = v2 at *
       clear hn hz hk k2 k3 hF h0 o0 hs HX hx h1 o1
       clear c1 h3 h2 o2
       go_enter Tryz.func12, Tryz.ntmps12
       go_wp2_with fail
       refine (cK _).mono ?_
       rintro e wk ⟨rfl, rfl⟩
       go_wp2_with fail
       refine (c0 _ ((Ext.refl _).alloc _)).mono ?_
       rintro e w1 ⟨rfl, E1⟩
       have H1 : Hid (Ext W w1 ∧ Blk w1 W.heap.size (.int .i64 0) (.int .i64 0) (.string ⟨#[]⟩) (.int .i64 0)) := ⟨((Ext.refl _).alloc _).trans E1, blk_top (by simp) E1⟩
       clear E1
       have HW : Hid (W.heap.size < w1.heap.size) := H1.out.2.1
       go_wp2_with fail
       refine (cX _).mono ?_
       rintro e w2 ⟨rfl, E2⟩
       have H2 : Hid (Ext W w2 ∧ Blk w2 W.heap.size (.int .i64 0) (.int .i64 0) (.string ⟨#[]⟩) (.int .i64 0) ∧ Blk w2 w1.heap.size (.int .i64 v0.k) (.int .i64 v0.n) (.string v0.s) (.int .i64 v0.e)) := ⟨(H1.out.1.alloc _).trans E2, (H1.out.2.al _).ext E2, blk_top (by simp) E2⟩
       clear E2
       obtain ⟨zd, ⟨d0', d1', d2', d3'⟩, df0, df1, df2, df3⟩ := H2.out.2.2
       go_upto_region 23 with fail
       have H3 : Hid (Ext W ((((w2.setCell ⟨w1.heap.size, 0, none⟩ (.int .i64 1)).setCell ⟨w1.heap.size, 1, none⟩ (.int .i64 0)).setCell ⟨w1.heap.size, 2, none⟩ (.string ⟨#[]⟩)).setCell ⟨w1.heap.size, 3, none⟩ (.int .i64 0)) ∧ Blk ((((w2.setCell ⟨w1.heap.size, 0, none⟩ (.int .i64 1)).setCell ⟨w1.heap.size, 1, none⟩ (.int .i64 0)).setCell ⟨w1.heap.size, 2, none⟩ (.string ⟨#[]⟩)).setCell ⟨w1.heap.size, 3, none⟩ (.int .i64 0)) W.heap.size (.int .i64 0) (.int .i64 0) (.string ⟨#[]⟩) (.int .i64 0) ∧ Blk ((((w2.setCell ⟨w1.heap.size, 0, none⟩ (.int .i64 1)).setCell ⟨w1.heap.size, 1, none⟩ (.int .i64 0)).setCell ⟨w1.heap.size, 2, none⟩ (.string ⟨#[]⟩)).setCell ⟨w1.heap.size, 3, none⟩ (.int .i64 0)) w1.heap.size (.int .i64 1) (.int .i64 0) (.string ⟨#[]⟩) (.int .i64 0)) := ⟨(((H2.out.1.setCell (p := ⟨w1.heap.size, 0, none⟩) (Nat.le_of_lt HW.out) _).setCell (p := ⟨w1.heap.size, 1, none⟩) (Nat.le_of_lt HW.out) _).setCell (p := ⟨w1.heap.size, 2, none⟩) (Nat.le_of_lt HW.out) _).setCell (p := ⟨w1.heap.size, 3, none⟩) (Nat.le_of_lt HW.out) _, H2.out.2.1.far (Ne.symm (Nat.ne_of_lt HW.out)) _ _ _ _, H2.out.2.2.set _ _ _ _⟩
       clear zd d0' d1' d2' d3' df0 df1 df2 df3
       generalize (((w2.setCell ⟨w1.heap.size, 0, none⟩ (.int .i64 1)).setCell ⟨w1.heap.size, 1, none⟩ (.int .i64 0)).setCell ⟨w1.heap.size, 2, none⟩ (.string ⟨#[]⟩)).setCell ⟨w1.heap.size, 3, none⟩ (.int .i64 0) = w3 at *
       obtain ⟨zd, ⟨d0', d1', d2', d3'⟩, df0, df1, df2, df3⟩ := H3.out.2.2
       go_wp2_with fail
       refine (c2 _ H3.out.1).mono ?_
       rintro e w4 ⟨rfl, E4⟩
       have H4 : Hid (Ext W w4 ∧ Blk w4 W.heap.size (.int .i64 0) (.int .i64 0) (.string ⟨#[]⟩) (.int .i64 0) ∧ True) := ⟨H3.out.1.trans E4, H3.out.2.1.ext E4, trivial⟩
       clear E4 zd d0' d1' d2' d3' df0 df1 df2 df3
       obtain ⟨zr, ⟨r0, r1, r2, r3⟩, rf0, rf1, rf2, rf3⟩ := H4.out.2.1
       go_wp2_with fail
       exact fin4 r0 r1 r2 r3 rfl (by simp) H4.out.1 (fun W g0 g1 g2 g3 => by simp [results, Tryz.results12, go_sem, g0, g1, g2, g3]) (fun W h => ⟨rfl, h⟩)
 · have ho : 1 ≤ x ∧ x ≤ 5 := by have := toBool_ok _ o0; rw [hx] at this; exact this
   have HX : ansV (xCall [73, 70] l) = .err x := by
     show ansV (xIf l) = _
     unfold xIf
     rw [sg_of h0, trR_no hx]
     exact mkErr_is ho
   rw [HX]
   rw [hx] at cX
   simp only [V.dat] at cX
   generalize sgl a0 = v0 at *
   clear hn hz hk k2 k3 hF h0 o0 hs HX hx h1 o1
   clear c1
   clear ho
   go_enter Tryz.func12, Tryz.ntmps12
   go_wp2_with fail
   refine (cK _).mono ?_
   rintro e wk ⟨rfl, rfl⟩
   go_wp2_with fail
   refine (c0 _ ((Ext.refl _).alloc _)).mono ?_
   rintro e w1 ⟨rfl, E1⟩
   have H1 : Hid (Ext W w1 ∧ Blk w1 W.heap.size (.int .i64 0) (.int .i64 0) (.string ⟨#[]⟩) (.int .i64 0)) := ⟨((Ext.refl _).alloc _).trans E1, blk_top (by simp) E1⟩
   clear E1
   have HW : Hid (W.heap.size < w1.heap.size) := H1.out.2.1
   go_wp2_with fail
   refine (cX _).mono ?_
   rintro e w2 ⟨rfl, E2⟩
   have H2 : Hid (Ext W w2 ∧ Blk w2 W.heap.size (.int .i64 0) (.int .i64 0) (.string ⟨#[]⟩) (.int .i64 0) ∧ Blk w2 w1.heap.size (.int .i64 v0.k) (.int .i64 v0.n) (.string v0.s) (.int .i64 v0.e)) := ⟨(H1.out.1.alloc _).trans E2, (H1.out.2.al _).ext E2, blk_top (by simp) E2⟩
   clear E2
   obtain ⟨zd, ⟨d0', d1', d2', d3'⟩, df0, df1, df2, df3⟩ := H2.out.2.2
   go_upto_region 23 with fail
   have H3 : Hid (Ext W ((((w2.setCell ⟨w1.heap.size, 0, none⟩ (.int .i64 4)).setCell ⟨w1.heap.size, 1, none⟩ (.int .i64 0)).setCell ⟨w1.heap.size, 2, none⟩ (.string ⟨#[]⟩)).setCell ⟨w1.heap.size, 3, none⟩ (.int .i64 x)) ∧ Blk ((((w2.setCell ⟨w1.heap.size, 0, none⟩ (.int .i64 4)).setCell ⟨w1.heap.size, 1, none⟩ (.int .i64 0)).setCell ⟨w1.heap.size, 2, none⟩ (.string ⟨#[]⟩)).setCell ⟨w1.heap.size, 3, none⟩ (.int .i64 x)) W.heap.size (.int .i64 0) (.int .i64 0) (.string ⟨#[]⟩) (.int .i64 0) ∧ Blk ((((w2.setCell ⟨w1.heap.size, 0, none⟩ (.int .i64 4)).setCell ⟨w1.heap.size, 1, none⟩ (.int .i64 0)).setCell ⟨w1.heap.size, 2, none⟩ (.string ⟨#[]⟩)).setCell ⟨w1.heap.size, 3, none⟩ (.int .i64 x)) w1.heap.size (.int .i64 4) (.int .i64 0) (.string ⟨#[]⟩) (.int .i64 x)) := ⟨(((H2.out.1.setCell (p := ⟨w1.heap.size, 0, none⟩) (Nat.le_of_lt HW.out) _).setCell (p := ⟨w1.heap.size, 1, none⟩) (Nat.le_of_lt HW.out) _).setCell (p := ⟨w1.heap.size, 2, none⟩) (Nat.le_of_lt HW.out) _).setCell (p := ⟨w1.heap.size, 3, none⟩) (Nat.le_of_lt HW.out) _, H2.out.2.1.far (Ne.symm (Nat.ne_of_lt HW.out)) _ _ _ _, H2.out.2.2.set _ _ _ _⟩
   clear zd d0' d1' d2' d3' df0 df1 df2 df3
   generalize (((w2.setCell ⟨w1.heap.size, 0, none⟩ (.int .i64 4)).setCell ⟨w1.heap.size, 1, none⟩ (.int .i64 0)).setCell ⟨w1.heap.size, 2, none⟩ (.string ⟨#[]⟩)).setCell ⟨w1.heap.size, 3, none⟩ (.int .i64 x) = w3 at *
   obtain ⟨zd, ⟨d0', d1', d2', d3'⟩, df0, df1, df2, df3⟩ := H3.out.2.2
   obtain ⟨zr, ⟨r0, r1, r2, r3⟩, rf0, rf1, rf2, rf3⟩ := H3.out.2.1
   go_wp2_with fail
   exact fin4 r0 r1 r2 r3 rfl (by simp) H3.out.1 (fun W g0 g1 g2 g3 => by simp [results, Tryz.results12, go_sem, g0, g1, g2, g3]) (fun W h => ⟨rfl, h⟩)

set_option maxRecDepth 100000 in
theorem rc_NOT (s : ByteArray) (hs : s.data.toList = [78, 79, 84]) (l : List Bg) (hk : okN [78, 79, 84] l.length = true) (p : Option Addr) (n c : Nat) (W : World) (hF : FitB W (.slice p n c) l) :
   Calls Tryz.prog 12 #[.string s, .slice p n c] W fun e w' => e = .returned (.agg #[.int .i64 (ansV (xCall [78, 79, 84] l)).k, .int .i64 (ansV (xCall [78, 79, 84] l)).n, .string (ansV (xCall [78, 79, 84] l)).s, .int .i64 (ansV (xCall [78, 79, 84] l)).e]) ∧ Ext W w' := by
 have cK : ∀ W, Calls Tryz.prog 23 #[.string s] W fun e w' => e = .returned (.tuple #[.int .i64 1, .int .i64 1, .bool true]) ∧ w' = W := fun W => by
   have := rknown_any s W
   rw [hs] at this
   exact this
 have hn := hF.rd.len
 have hz := hF.z
 obtain ⟨_, k2, k3⟩ := okN_is hk
 rw [show knA [78, 79, 84] = 1 from rfl] at k2
 rw [show knB [78, 79, 84] = 1 from rfl] at k3
 have n2 : (n : Int) ≤ 1500000 := by omega
 have d1 : ¬ (n : Int) < 1 := by omega
 have d2 : ¬ (n : Int) > 1 := by omega
 have d3 : ((1 : Int) == 20) = false := rfl
 obtain ⟨a0, h0⟩ := at_some (l := l) (i := 0) (by omega)
 have o0 : (sgl a0).ok := by have := hF.ok 0; rwa [sg_of h0] at this
 have c0 := fun V (e : Ext W V) => rarg_any l 0 a0 h0 p n c V (hF.ext e)
 have cX := fun V => rtobool_any (sgl a0).k (sgl a0).n (sgl a0).s (sgl a0).e V (nm_of _ o0).2
 rw [(nm_of _ o0).1] at cX
 have hl : s.toList = [78, 79, 84] := by rw [ByteArray.toList_eq]; exact hs
 have e0 : (s.toList == [73, 78, 68, 69, 88]) = false := by rw [hl]; decide
 have e1 : (s.toList == [73, 83, 69, 82, 82, 79, 82]) = false := by rw [hl]; decide
 have e2 : (s.toList == [73, 70, 69, 82, 82, 79, 82]) = false := by rw [hl]; decide
 have e3 : (s.toList == [73, 70]) = false := by rw [hl]; decide
 have e4 : (s.toList == [78, 79, 84]) = true := by rw [hl]; decide
 have e5 : (s.toList == [76, 69, 78]) = false := by rw [hl]; decide
 have e6 : (s.toList == [76, 69, 70, 84]) = false := by rw [hl]; decide
 clear hl
 rcases toBool_cases (sgl a0) with ⟨t, hx⟩ | ⟨x, hx⟩
 · have HX : ansV (xCall [78, 79, 84] l) = .tf (!t) := by
     show ansV (xNot l) = _
     unfold xNot
     rw [sg_of h0, trR_ok hx]
     exact ansV_ok (v := .tf (!t)) trivial
   rw [HX]
   rw [hx] at cX
   simp only [V.dat] at cX
   have cO := fun V => rof_not s hs t p n c V
   generalize V.tf (!t) = v at *
   generalize (if t = true then (1 : Int) else 0) = y at *
   generalize sgl a0 = v0 at *
   clear hn hz hk k2 k3 hF h0 o0 hs HX hx
   go_enter Tryz.func12, Tryz.ntmps12
   go_wp2_with fail
   refine (cK _).mono ?_
   rintro e wk ⟨rfl, rfl⟩
   go_wp2_with fail
   refine (c0 _ ((Ext.refl _).alloc _)).mono ?_
   rintro e w1 ⟨rfl, E1⟩
   have H1 : Hid (Ext W w1 ∧ Blk w1 W.heap.size (.int .i64 0) (.int .i64 0) (.string ⟨#[]⟩) (.int .i64 0)) := ⟨((Ext.refl _).alloc _).trans E1, blk_top (by simp) E1⟩
   clear E1
   have HW : Hid (W.heap.size < w1.heap.size) := H1.out.2.1
   go_wp2_with fail
   refine (cX _).mono ?_
   rintro e w2 ⟨rfl, E2⟩
   have H2 : Hid (Ext W w2 ∧ Blk w2 W.heap.size (.int .i64 0) (.int .i64 0) (.string ⟨#[]⟩) (.int .i64 0) ∧ Blk w2 w1.heap.size (.int .i64 v0.k) (.int .i64 v0.n) (.string v0.s) (.int .i64 v0.e)) := ⟨(H1.out.1.alloc _).trans E2, (H1.out.2.al _).ext E2, blk_top (by simp) E2⟩
   clear E2
   obtain ⟨zd, ⟨d0', d1', d2', d3'⟩, df0, df1, df2, df3⟩ := H2.out.2.2
   go_upto_region 23 with fail
   have H3 : Hid (Ext W ((((w2.setCell ⟨w1.heap.size, 0, none⟩ (.int .i64 1)).setCell ⟨w1.heap.size, 1, none⟩ (.int .i64 y)).setCell ⟨w1.heap.size, 2, none⟩ (.string ⟨#[]⟩)).setCell ⟨w1.heap.size, 3, none⟩ (.int .i64 0)) ∧ Blk ((((w2.setCell ⟨w1.heap.size, 0, none⟩ (.int .i64 1)).setCell ⟨w1.heap.size, 1, none⟩ (.int .i64 y)).setCell ⟨w1.heap.size, 2, none⟩ (.string ⟨#[]⟩)).setCell ⟨w1.heap.size, 3, none⟩ (.int .i64 0)) W.heap.size (.int .i64 0) (.int .i64 0) (.string ⟨#[]⟩) (.int .i64 0) ∧ Blk ((((w2.setCell ⟨w1.heap.size, 0, none⟩ (.int .i64 1)).setCell ⟨w1.heap.size, 1, none⟩ (.int .i64 y)).setCell ⟨w1.heap.size, 2, none⟩ (.string ⟨#[]⟩)).setCell ⟨w1.heap.size, 3, none⟩ (.int .i64 0)) w1.heap.size (.int .i64 1) (.int .i64 y) (.string ⟨#[]⟩) (.int .i64 0)) := ⟨(((H2.out.1.setCell (p := ⟨w1.heap.size, 0, none⟩) (Nat.le_of_lt HW.out) _).setCell (p := ⟨w1.heap.size, 1, none⟩) (Nat.le_of_lt HW.out) _).setCell (p := ⟨w1.heap.size, 2, none⟩) (Nat.le_of_lt HW.out) _).setCell (p := ⟨w1.heap.size, 3, none⟩) (Nat.le_of_lt HW.out) _, H2.out.2.1.far (Ne.symm (Nat.ne_of_lt HW.out)) _ _ _ _, H2.out.2.2.set _ _ _ _⟩
   clear zd d0' d1' d2' d3' df0 df1 df2 df3
   generalize (((w2.setCell ⟨w1.heap.size, 0, none⟩ (.int .i64 1)).setCell ⟨w1.heap.size, 1, none⟩ (.int .i64 y)).setCell ⟨w1.heap.size, 2, none⟩ (.string ⟨#[]⟩)).setCell ⟨w1.heap.size, 3, none⟩ (.int .i64 0) = w3 at *
   obtain ⟨zd, ⟨d0', d1', d2', d3'⟩, df0, df1, df2, df3⟩ := H3.out.2.2
   go_wp2_with fail
   refine (cO _).mono ?_
   rintro e w4 ⟨rfl, E4⟩
   have H4 : Hid (Ext W w4 ∧ Blk w4 W.heap.size (.int .i64 0) (.int .i64 0) (.string ⟨#[]⟩) (.int .i64 0) ∧ True) := ⟨H3.out.1.trans E4, H3.out.2.1.ext E4, trivial⟩
   clear E4 zd d0' d1' d2' d3' df0 df1 df2 df3
   obtain ⟨zr, ⟨r0, r1, r2, r3⟩, rf0, rf1, rf2, rf3⟩ := H4.out.2.1
   go_wp2_with fail
   exact fin4 r0 r1 r2 r3 rfl (by simp) H4.out.1 (fun W g0 g1 g2 g3 => by simp [results, Tryz.results12, go_sem, g0, g1, g2, g3]) (fun W h => ⟨rfl, h⟩)
 · have ho : 1 ≤ x ∧ x ≤ 5 := by have := toBool_ok _ o0; rw [hx] at this; exact this
   have HX : ansV (xCall [78, 79, 84] l) = .err x := by
     show ansV (xNot l) = _
     unfold xNot
     rw [sg_of h0, trR_no hx]
     exact mkErr_is ho
   rw [HX]
   rw [hx] at cX
   simp only [V.dat] at cX
   generalize sgl a0 = v0 at *
   clear hn hz hk k2 k3 hF h0 o0 hs HX hx
   clear ho
   go_enter Tryz.func12, Tryz.ntmps12
   go_wp2_with fail
   refine (cK _).mono ?_
   rintro e wk ⟨rfl, rfl⟩
   go_wp2_with fail
   refine (c0 _ ((Ext.refl _).alloc _)).mono ?_
   rintro e w1 ⟨rfl, E1⟩
   have H1 : Hid (Ext W w1 ∧ Blk w1 W.heap.size (.int .i64 0) (.int .i64 0) (.string ⟨#[]⟩) (.int .i64 0)) := ⟨((Ext.refl _).alloc _).trans E1, blk_top (by simp) E1⟩
   clear E1
   have HW : Hid (W.heap.size < w1.heap.size) := H1.out.2.1
   go_wp2_with fail
   refine (cX _).mono ?_
   rintro e w2 ⟨rfl, E2⟩
   have H2 : Hid (Ext W w2 ∧ Blk w2 W.heap.size (.int .i64 0) (.int .i64 0) (.string ⟨#[]⟩) (.int .i64 0) ∧ Blk w2 w1.heap.size (.int .i64 v0.k) (.int .i64 v0.n) (.string v0.s) (.int .i64 v0.e)) := ⟨(H1.out.1.alloc _).trans E2, (H1.out.2.al _).ext E2, blk_top (by simp) E2⟩
   clear E2
   obtain ⟨zd, ⟨d0', d1', d2', d3'⟩, df0, df1, df2, df3⟩ := H2.out.2.2
   go_upto_region 23 with fail
   have H3 : Hid (Ext W ((((w2.setCell ⟨w1.heap.size, 0, none⟩ (.int .i64 4)).setCell ⟨w1.heap.size, 1, none⟩ (.int .i64 0)).setCell ⟨w1.heap.size, 2, none⟩ (.string ⟨#[]⟩)).setCell ⟨w1.heap.size, 3, none⟩ (.int .i64 x)) ∧ Blk ((((w2.setCell ⟨w1.heap.size, 0, none⟩ (.int .i64 4)).setCell ⟨w1.heap.size, 1, none⟩ (.int .i64 0)).setCell ⟨w1.heap.size, 2, none⟩ (.string ⟨#[]⟩)).setCell ⟨w1.heap.size, 3, none⟩ (.int .i64 x)) W.heap.size (.int .i64 0) (.int .i64 0) (.string ⟨#[]⟩) (.int .i64 0) ∧ Blk ((((w2.setCell ⟨w1.heap.size, 0, none⟩ (.int .i64 4)).setCell ⟨w1.heap.size, 1, none⟩ (.int .i64 0)).setCell ⟨w1.heap.size, 2, none⟩ (.string ⟨#[]⟩)).setCell ⟨w1.heap.size, 3, none⟩ (.int .i64 x)) w1.heap.size (.int .i64 4) (.int .i64 0) (.string ⟨#[]⟩) (.int .i64 x)) := ⟨(((H2.out.1.setCell (p := ⟨w1.heap.size, 0, none⟩) (Nat.le_of_lt HW.out) _).setCell (p := ⟨w1.heap.size, 1, none⟩) (Nat.le_of_lt HW.out) _).setCell (p := ⟨w1.heap.size, 2, none⟩) (Nat.le_of_lt HW.out) _).setCell (p := ⟨w1.heap.size, 3, none⟩) (Nat.le_of_lt HW.out) _, H2.out.2.1.far (Ne.symm (Nat.ne_of_lt HW.out)) _ _ _ _, H2.out.2.2.set _ _ _ _⟩
   clear zd d0' d1' d2' d3' df0 df1 df2 df3
   generalize (((w2.setCell ⟨w1.heap.size, 0, none⟩ (.int .i64 4)).setCell ⟨w1.heap.size, 1, none⟩ (.int .i64 0)).setCell ⟨w1.heap.size, 2, none⟩ (.string ⟨#[]⟩)).setCell ⟨w1.heap.size, 3, none⟩ (.int .i64 x) = w3 at *
   obtain ⟨zd, ⟨d0', d1', d2', d3'⟩, df0, df1, df2, df3⟩ := H3.out.2.2
   obtain ⟨zr, ⟨r0, r1, r2, r3⟩, rf0, rf1, rf2, rf3⟩ := H3.out.2.1
   go_wp2_with fail
   exact fin4 r0 r1 r2 r3 rfl (by simp) H3.out.1 (fun W g0 g1 g2 g3 => by simp [results, Tryz.results12, go_sem, g0, g1, g2, g3]) (fun W h => ⟨rfl, h⟩)

set_option maxRecDepth 100000 in
theorem rc_LEN (s : ByteArray) (hs : s.data.toList = [76, 69, 78]) (l : List Bg) (hk : okN [76, 69, 78] l.length = true) (p : Option Addr) (n c : Nat) (W : World) (hF : FitB W (.slice p n c) l) :
   Calls Tryz.prog 12 #[.string s, .slice p n c] W fun e w' => e = .returned (.agg #[.int .i64 (ansV (xCall [76, 69, 78] l)).k, .int .i64 (ansV (xCall [76, 69, 78] l)).n, .string (ansV (xCall [76, 69, 78] l)).s, .int .i64 (ansV (xCall [76, 69, 78] l)).e]) ∧ Ext W w' := by
 have cK : ∀ W, Calls Tryz.prog 23 #[.string s] W fun e w' => e = .returned (.tuple #[.int .i64 1, .int .i64 1, .bool true]) ∧ w' = W := fun W => by
   have := rknown_any s W
   rw [hs] at this
   exact this
 have hn := hF.rd.len
 have hz := hF.z
 obtain ⟨_, k2, k3⟩ := okN_is hk
 rw [show knA [76, 69, 78] = 1 from rfl] at k2
 rw [show knB [76, 69, 78] = 1 from rfl] at k3
 have n2 : (n : Int) ≤ 1500000 := by omega
 have d1 : ¬ (n : Int) < 1 := by omega
 have d2 : ¬ (n : Int) > 1 := by omega
 have d3 : ((1 : Int) == 20) = false := rfl
 obtain ⟨a0, h0⟩ := at_some (l := l) (i := 0) (by omega)
 have o0 : (sgl a0).ok := by have := hF.ok 0; rwa [sg_of h0] at this
 have c0 := fun V (e : Ext W V) => rarg_any l 0 a0 h0 p n c V (hF.ext e)
 have cX := fun V => rtotext_any (sgl a0).k (sgl a0).n (sgl a0).s (sgl a0).e V (nm_of _ o0).2
 rw [(nm_of _ o0).1] at cX
 have hl : s.toList = [76, 69, 78] := by rw [ByteArray.toList_eq]; exact hs
 have e0 : (s.toList == [73, 78, 68, 69, 88]) = false := by rw [hl]; decide
 have e1 : (s.toList == [73, 83, 69, 82, 82, 79, 82]) = false := by rw [hl]; decide
 have e2 : (s.toList == [73, 70, 69, 82, 82, 79, 82]) = false := by rw [hl]; decide
 have e3 : (s.toList == [73, 70]) = false := by rw [hl]; decide
 have e4 : (s.toList == [78, 79, 84]) = false := by rw [hl]; decide
 have e5 : (s.toList == [76, 69, 78]) = true := by rw [hl]; decide
 have e6 : (s.toList == [76, 69, 70, 84]) = false := by rw [hl]; decide
 clear hl
 rcases toText_cases (sgl a0) o0 with ⟨t, hx, ht⟩ | ⟨x, hx, ho⟩
 · have hc : canB ((t.size : Int) * 10000) = true := by unfold canB; simp; omega
   have HX : ansV (xCall [76, 69, 78] l) = mkNum ((t.size : Int) * 10000) := by
     show ansV (xLen l) = _
     unfold xLen
     rw [sg_of h0, teR_ok hx]
     exact ansV_ok (mkNum_ok _ ⟨by omega, by omega⟩)
   rw [HX]
   rw [hx] at cX
   simp only [V.dat] at cX
   have cO := fun V => rof_len s hs t ht p n c V
   generalize mkNum ((t.size : Int) * 10000) = v at *
   generalize sgl a0 = v0 at *
   clear hn hz hk k2 k3 hF h0 o0 hs HX hx
   clear hc ht
   go_enter Tryz.func12, Tryz.ntmps12
   go_wp2_with fail
   refine (cK _).mono ?_
   rintro e wk ⟨rfl, rfl⟩
   go_wp2_with fail
   refine (c0 _ ((Ext.refl _).alloc _)).mono ?_
   rintro e w1 ⟨rfl, E1⟩
   have H1 : Hid (Ext W w1 ∧ Blk w1 W.heap.size (.int .i64 0) (.int .i64 0) (.string ⟨#[]⟩) (.int .i64 0)) := ⟨((Ext.refl _).alloc _).trans E1, blk_top (by simp) E1⟩
   clear E1
   have HW : Hid (W.heap.size < w1.heap.size) := H1.out.2.1
   go_wp2_with fail
   refine (cX _).mono ?_
   rintro e w2 ⟨rfl, E2⟩
   have H2 : Hid (Ext W w2 ∧ Blk w2 W.heap.size (.int .i64 0) (.int .i64 0) (.string ⟨#[]⟩) (.int .i64 0) ∧ Blk w2 w1.heap.size (.int .i64 v0.k) (.int .i64 v0.n) (.string v0.s) (.int .i64 v0.e)) := ⟨(H1.out.1.alloc _).trans E2, (H1.out.2.al _).ext E2, blk_top (by simp) E2⟩
   clear E2
   obtain ⟨zd, ⟨d0', d1', d2', d3'⟩, df0, df1, df2, df3⟩ := H2.out.2.2
   go_upto_region 23 with fail
   have H3 : Hid (Ext W ((((w2.setCell ⟨w1.heap.size, 0, none⟩ (.int .i64 3)).setCell ⟨w1.heap.size, 1, none⟩ (.int .i64 0)).setCell ⟨w1.heap.size, 2, none⟩ (.string t)).setCell ⟨w1.heap.size, 3, none⟩ (.int .i64 0)) ∧ Blk ((((w2.setCell ⟨w1.heap.size, 0, none⟩ (.int .i64 3)).setCell ⟨w1.heap.size, 1, none⟩ (.int .i64 0)).setCell ⟨w1.heap.size, 2, none⟩ (.string t)).setCell ⟨w1.heap.size, 3, none⟩ (.int .i64 0)) W.heap.size (.int .i64 0) (.int .i64 0) (.string ⟨#[]⟩) (.int .i64 0) ∧ Blk ((((w2.setCell ⟨w1.heap.size, 0, none⟩ (.int .i64 3)).setCell ⟨w1.heap.size, 1, none⟩ (.int .i64 0)).setCell ⟨w1.heap.size, 2, none⟩ (.string t)).setCell ⟨w1.heap.size, 3, none⟩ (.int .i64 0)) w1.heap.size (.int .i64 3) (.int .i64 0) (.string t) (.int .i64 0)) := ⟨(((H2.out.1.setCell (p := ⟨w1.heap.size, 0, none⟩) (Nat.le_of_lt HW.out) _).setCell (p := ⟨w1.heap.size, 1, none⟩) (Nat.le_of_lt HW.out) _).setCell (p := ⟨w1.heap.size, 2, none⟩) (Nat.le_of_lt HW.out) _).setCell (p := ⟨w1.heap.size, 3, none⟩) (Nat.le_of_lt HW.out) _, H2.out.2.1.far (Ne.symm (Nat.ne_of_lt HW.out)) _ _ _ _, H2.out.2.2.set _ _ _ _⟩
   clear zd d0' d1' d2' d3' df0 df1 df2 df3
   generalize (((w2.setCell ⟨w1.heap.size, 0, none⟩ (.int .i64 3)).setCell ⟨w1.heap.size, 1, none⟩ (.int .i64 0)).setCell ⟨w1.heap.size, 2, none⟩ (.string t)).setCell ⟨w1.heap.size, 3, none⟩ (.int .i64 0) = w3 at *
   obtain ⟨zd, ⟨d0', d1', d2', d3'⟩, df0, df1, df2, df3⟩ := H3.out.2.2
   go_wp2_with fail
   refine (cO _).mono ?_
   rintro e w4 ⟨rfl, E4⟩
   have H4 : Hid (Ext W w4 ∧ Blk w4 W.heap.size (.int .i64 0) (.int .i64 0) (.string ⟨#[]⟩) (.int .i64 0) ∧ True) := ⟨H3.out.1.trans E4, H3.out.2.1.ext E4, trivial⟩
   clear E4 zd d0' d1' d2' d3' df0 df1 df2 df3
   obtain ⟨zr, ⟨r0, r1, r2, r3⟩, rf0, rf1, rf2, rf3⟩ := H4.out.2.1
   go_wp2_with fail
   exact fin4 r0 r1 r2 r3 rfl (by simp) H4.out.1 (fun W g0 g1 g2 g3 => by simp [results, Tryz.results12, go_sem, g0, g1, g2, g3]) (fun W h => ⟨rfl, h⟩)
 · have HX : ansV (xCall [76, 69, 78] l) = .err x := by
     show ansV (xLen l) = _
     unfold xLen
     rw [sg_of h0, teR_no hx]
     exact mkErr_is ho
   rw [HX]
   rw [hx] at cX
   simp only [V.dat] at cX
   generalize sgl a0 = v0 at *
   clear hn hz hk k2 k3 hF h0 o0 hs HX hx
   clear ho
   go_enter Tryz.func12, Tryz.ntmps12
   go_wp2_with fail
   refine (cK _).mono ?_
   rintro e wk ⟨rfl, rfl⟩
   go_wp2_with fail
   refine (c0 _ ((Ext.refl _).alloc _)).mono ?_
   rintro e w1 ⟨rfl, E1⟩
   have H1 : Hid (Ext W w1 ∧ Blk w1 W.heap.size (.int .i64 0) (.int .i64 0) (.string ⟨#[]⟩) (.int .i64 0)) := ⟨((Ext.refl _).alloc _).trans E1, blk_top (by simp) E1⟩
   clear E1
   have HW : Hid (W.heap.size < w1.heap.size) := H1.out.2.1
   go_wp2_with fail
   refine (cX _).mono ?_
   rintro e w2 ⟨rfl, E2⟩
   have H2 : Hid (Ext W w2 ∧ Blk w2 W.heap.size (.int .i64 0) (.int .i64 0) (.string ⟨#[]⟩) (.int .i64 0) ∧ Blk w2 w1.heap.size (.int .i64 v0.k) (.int .i64 v0.n) (.string v0.s) (.int .i64 v0.e)) := ⟨(H1.out.1.alloc _).trans E2, (H1.out.2.al _).ext E2, blk_top (by simp) E2⟩
   clear E2
   obtain ⟨zd, ⟨d0', d1', d2', d3'⟩, df0, df1, df2, df3⟩ := H2.out.2.2
   go_upto_region 23 with fail
   have H3 : Hid (Ext W ((((w2.setCell ⟨w1.heap.size, 0, none⟩ (.int .i64 4)).setCell ⟨w1.heap.size, 1, none⟩ (.int .i64 0)).setCell ⟨w1.heap.size, 2, none⟩ (.string ⟨#[]⟩)).setCell ⟨w1.heap.size, 3, none⟩ (.int .i64 x)) ∧ Blk ((((w2.setCell ⟨w1.heap.size, 0, none⟩ (.int .i64 4)).setCell ⟨w1.heap.size, 1, none⟩ (.int .i64 0)).setCell ⟨w1.heap.size, 2, none⟩ (.string ⟨#[]⟩)).setCell ⟨w1.heap.size, 3, none⟩ (.int .i64 x)) W.heap.size (.int .i64 0) (.int .i64 0) (.string ⟨#[]⟩) (.int .i64 0) ∧ Blk ((((w2.setCell ⟨w1.heap.size, 0, none⟩ (.int .i64 4)).setCell ⟨w1.heap.size, 1, none⟩ (.int .i64 0)).setCell ⟨w1.heap.size, 2, none⟩ (.string ⟨#[]⟩)).setCell ⟨w1.heap.size, 3, none⟩ (.int .i64 x)) w1.heap.size (.int .i64 4) (.int .i64 0) (.string ⟨#[]⟩) (.int .i64 x)) := ⟨(((H2.out.1.setCell (p := ⟨w1.heap.size, 0, none⟩) (Nat.le_of_lt HW.out) _).setCell (p := ⟨w1.heap.size, 1, none⟩) (Nat.le_of_lt HW.out) _).setCell (p := ⟨w1.heap.size, 2, none⟩) (Nat.le_of_lt HW.out) _).setCell (p := ⟨w1.heap.size, 3, none⟩) (Nat.le_of_lt HW.out) _, H2.out.2.1.far (Ne.symm (Nat.ne_of_lt HW.out)) _ _ _ _, H2.out.2.2.set _ _ _ _⟩
   clear zd d0' d1' d2' d3' df0 df1 df2 df3
   generalize (((w2.setCell ⟨w1.heap.size, 0, none⟩ (.int .i64 4)).setCell ⟨w1.heap.size, 1, none⟩ (.int .i64 0)).setCell ⟨w1.heap.size, 2, none⟩ (.string ⟨#[]⟩)).setCell ⟨w1.heap.size, 3, none⟩ (.int .i64 x) = w3 at *
   obtain ⟨zd, ⟨d0', d1', d2', d3'⟩, df0, df1, df2, df3⟩ := H3.out.2.2
   obtain ⟨zr, ⟨r0, r1, r2, r3⟩, rf0, rf1, rf2, rf3⟩ := H3.out.2.1
   go_wp2_with fail
   exact fin4 r0 r1 r2 r3 rfl (by simp) H3.out.1 (fun W g0 g1 g2 g3 => by simp [results, Tryz.results12, go_sem, g0, g1, g2, g3]) (fun W h => ⟨rfl, h⟩)

set_option maxRecDepth 100000 in
theorem rc_LEFT (s : ByteArray) (hs : s.data.toList = [76, 69, 70, 84]) (l : List Bg) (hk : okN [76, 69, 70, 84] l.length = true) (p : Option Addr) (n c : Nat) (W : World) (hF : FitB W (.slice p n c) l) :
   Calls Tryz.prog 12 #[.string s, .slice p n c] W fun e w' => e = .returned (.agg #[.int .i64 (ansV (xCall [76, 69, 70, 84] l)).k, .int .i64 (ansV (xCall [76, 69, 70, 84] l)).n, .string (ansV (xCall [76, 69, 70, 84] l)).s, .int .i64 (ansV (xCall [76, 69, 70, 84] l)).e]) ∧ Ext W w' := by
 have cK : ∀ W, Calls Tryz.prog 23 #[.string s] W fun e w' => e = .returned (.tuple #[.int .i64 1, .int .i64 2, .bool true]) ∧ w' = W := fun W => by
   have := rknown_any s W
   rw [hs] at this
   exact this
 have hn := hF.rd.len
 have hz := hF.z
 obtain ⟨_, k2, k3⟩ := okN_is hk
 rw [show knA [76, 69, 70, 84] = 1 from rfl] at k2
 rw [show knB [76, 69, 70, 84] = 2 from rfl] at k3
 have n2 : (n : Int) ≤ 1500000 := by omega
 have d1 : ¬ (n : Int) < 1 := by omega
 have d2 : ¬ (n : Int) > 2 := by omega
 have d3 : ((2 : Int) == 20) = false := rfl
 obtain ⟨a0, h0⟩ := at_some (l := l) (i := 0) (by omega)
 have o0 : (sgl a0).ok := by have := hF.ok 0; rwa [sg_of h0] at this
 have c0 := fun V (e : Ext W V) => rarg_any l 0 a0 h0 p n c V (hF.ext e)
 have cX := fun V => rtotext_any (sgl a0).k (sgl a0).n (sgl a0).s (sgl a0).e V (nm_of _ o0).2
 rw [(nm_of _ o0).1] at cX
 have hl : s.toList = [76, 69, 70, 84] := by rw [ByteArray.toList_eq]; exact hs
 have e0 : (s.toList == [73, 78, 68, 69, 88]) = false := by rw [hl]; decide
 have e1 : (s.toList == [73, 83, 69, 82, 82, 79, 82]) = false := by rw [hl]; decide
 have e2 : (s.toList == [73, 70, 69, 82, 82, 79, 82]) = false := by rw [hl]; decide
 have e3 : (s.toList == [73, 70]) = false := by rw [hl]; decide
 have e4 : (s.toList == [78, 79, 84]) = false := by rw [hl]; decide
 have e5 : (s.toList == [76, 69, 78]) = false := by rw [hl]; decide
 have e6 : (s.toList == [76, 69, 70, 84]) = true := by rw [hl]; decide
 clear hl
 rcases toText_cases (sgl a0) o0 with ⟨t, hx, ht⟩ | ⟨x, hx, ho⟩
 · by_cases hl1 : l.length ≤ 1
   · have hw : whO l 1 = .ok 1 := by unfold whO; rw [if_pos hl1]
     have HX : ansV (xCall [76, 69, 70, 84] l) = mkText (begB t 1) := by
       show ansV (xLeft l) = _
       unfold xLeft
       rw [sg_of h0, teR_ok hx, hw]
       exact ansV_ok (mkText_ok _)
     rw [HX]
     rw [hx] at cX
     simp only [V.dat] at cX
     have cO := fun V (e : Ext W V) => rof_left_one s hs t ht p n c V (by omega)
     generalize mkText (begB t 1) = v at *
     generalize sgl a0 = v0 at *
     clear hn hz hk k2 k3 hF h0 o0 hs HX hx
     clear ht hw hl1
     go_enter Tryz.func12, Tryz.ntmps12
     go_wp2_with fail
     refine (cK _).mono ?_
     rintro e wk ⟨rfl, rfl⟩
     go_wp2_with fail
     refine (c0 _ ((Ext.refl _).alloc _)).mono ?_
     rintro e w1 ⟨rfl, E1⟩
     have H1 : Hid (Ext W w1 ∧ Blk w1 W.heap.size (.int .i64 0) (.int .i64 0) (.string ⟨#[]⟩) (.int .i64 0)) := ⟨((Ext.refl _).alloc _).trans E1, blk_top (by simp) E1⟩
     clear E1
     have HW : Hid (W.heap.size < w1.heap.size) := H1.out.2.1
     go_wp2_with fail
     refine (cX _).mono ?_
     rintro e w2 ⟨rfl, E2⟩
     have H2 : Hid (Ext W w2 ∧ Blk w2 W.heap.size (.int .i64 0) (.int .i64 0) (.string ⟨#[]⟩) (.int .i64 0) ∧ Blk w2 w1.heap.size (.int .i64 v0.k) (.int .i64 v0.n) (.string v0.s) (.int .i64 v0.e)) := ⟨(H1.out.1.alloc _).trans E2, (H1.out.2.al _).ext E2, blk_top (by simp) E2⟩
     clear E2
     obtain ⟨zd, ⟨d0', d1', d2', d3'⟩, df0, df1, df2, df3⟩ := H2.out.2.2
     go_upto_region 23 with fail
     have H3 : Hid (Ext W ((((w2.setCell ⟨w1.heap.size, 0, none⟩ (.int .i64 3)).setCell ⟨w1.heap.size, 1, none⟩ (.int .i64 0)).setCell ⟨w1.heap.size, 2, none⟩ (.string t)).setCell ⟨w1.heap.size, 3, none⟩ (.int .i64 0)) ∧ Blk ((((w2.setCell ⟨w1.heap.size, 0, none⟩ (.int .i64 3)).setCell ⟨w1.heap.size, 1, none⟩ (.int .i64 0)).setCell ⟨w1.heap.size, 2, none⟩ (.string t)).setCell ⟨w1.heap.size, 3, none⟩ (.int .i64 0)) W.heap.size (.int .i64 0) (.int .i64 0) (.string ⟨#[]⟩) (.int .i64 0) ∧ Blk ((((w2.setCell ⟨w1.heap.size, 0, none⟩ (.int .i64 3)).setCell ⟨w1.heap.size, 1, none⟩ (.int .i64 0)).setCell ⟨w1.heap.size, 2, none⟩ (.string t)).setCell ⟨w1.heap.size, 3, none⟩ (.int .i64 0)) w1.heap.size (.int .i64 3) (.int .i64 0) (.string t) (.int .i64 0)) := ⟨(((H2.out.1.setCell (p := ⟨w1.heap.size, 0, none⟩) (Nat.le_of_lt HW.out) _).setCell (p := ⟨w1.heap.size, 1, none⟩) (Nat.le_of_lt HW.out) _).setCell (p := ⟨w1.heap.size, 2, none⟩) (Nat.le_of_lt HW.out) _).setCell (p := ⟨w1.heap.size, 3, none⟩) (Nat.le_of_lt HW.out) _, H2.out.2.1.far (Ne.symm (Nat.ne_of_lt HW.out)) _ _ _ _, H2.out.2.2.set _ _ _ _⟩
     clear zd d0' d1' d2' d3' df0 df1 df2 df3
     generalize (((w2.setCell ⟨w1.heap.size, 0, none⟩ (.int .i64 3)).setCell ⟨w1.heap.size, 1, none⟩ (.int .i64 0)).setCell ⟨w1.heap.size, 2, none⟩ (.string t)).setCell ⟨w1.heap.size, 3, none⟩ (.int .i64 0) = w3 at *
     obtain ⟨zd, ⟨d0', d1', d2', d3'⟩, df0, df1, df2, df3⟩ := H3.out.2.2
     go_wp2_with fail
     refine (cO _ H3.out.1).mono ?_
     rintro e w4 ⟨rfl, E4⟩
     have H4 : Hid (Ext W w4 ∧ Blk w4 W.heap.size (.int .i64 0) (.int .i64 0) (.string ⟨#[]⟩) (.int .i64 0) ∧ True) := ⟨H3.out.1.trans E4, H3.out.2.1.ext E4, trivial⟩
     clear E4 zd d0' d1' d2' d3' df0 df1 df2 df3
     obtain ⟨zr, ⟨r0, r1, r2, r3⟩, rf0, rf1, rf2, rf3⟩ := H4.out.2.1
     go_wp2_with fail
     exact fin4 r0 r1 r2 r3 rfl (by simp) H4.out.1 (fun W g0 g1 g2 g3 => by simp [results, Tryz.results12, go_sem, g0, g1, g2, g3]) (fun W h => ⟨rfl, h⟩)
   · obtain ⟨a1, h1⟩ := at_some (l := l) (i := 1) (by omega)
     have o1 : (sgl a1).ok := by have := hF.ok 1; rwa [sg_of h1] at this
     rcases toNum_cases (sgl a1) o1 with ⟨d, hy, hdI, hdC⟩ | ⟨x, hy, ho⟩
     · have hw : whO l 1 = .ok (whN d) := by unfold whO; rw [if_neg hl1, sg_of h1]; unfold whR; rw [nuR_ok hy]; rfl
       by_cases hd0 : d < 0
       · have hn0 : whN d < 0 := by unfold whN; omega
         have HX : ansV (xCall [76, 69, 70, 84] l) = V.err 2 := by
           show ansV (xLeft l) = _
           unfold xLeft
           rw [sg_of h0, teR_ok hx, hw]
           show ansV (if whN d < 0 then _ else _) = _
           rw [if_pos hn0]
           rfl
         rw [HX]
         rw [hx] at cX
         simp only [V.dat] at cX
         have cO := fun V (e : Ext W V) => rof_left_neg s hs t d hd0 p n c V l a1 h1 (hF.ext e) hy
         generalize sgl a0 = v0 at *
         clear hn hz hk k2 k3 hF h0 o0 hs HX hx
         clear ht hw hl1 hn0 hdI hdC hy h1 o1 hd0
         go_enter Tryz.func12, Tryz.ntmps12
         go_wp2_with fail
         refine (cK _).mono ?_
         rintro e wk ⟨rfl, rfl⟩
         go_wp2_with fail
         refine (c0 _ ((Ext.refl _).alloc _)).mono ?_
         rintro e w1 ⟨rfl, E1⟩
         have H1 : Hid (Ext W w1 ∧ Blk w1 W.heap.size (.int .i64 0) (.int .i64 0) (.string ⟨#[]⟩) (.int .i64 0)) := ⟨((Ext.refl _).alloc _).trans E1, blk_top (by simp) E1⟩
         clear E1
         have HW : Hid (W.heap.size < w1.heap.size) := H1.out.2.1
         go_wp2_with fail
         refine (cX _).mono ?_
         rintro e w2 ⟨rfl, E2⟩
         have H2 : Hid (Ext W w2 ∧ Blk w2 W.heap.size (.int .i64 0) (.int .i64 0) (.string ⟨#[]⟩) (.int .i64 0) ∧ Blk w2 w1.heap.size (.int .i64 v0.k) (.int .i64 v0.n) (.string v0.s) (.int .i64 v0.e)) := ⟨(H1.out.1.alloc _).trans E2, (H1.out.2.al _).ext E2, blk_top (by simp) E2⟩
         clear E2
         obtain ⟨zd, ⟨d0', d1', d2', d3'⟩, df0, df1, df2, df3⟩ := H2.out.2.2
         go_upto_region 23 with fail
         have H3 : Hid (Ext W ((((w2.setCell ⟨w1.heap.size, 0, none⟩ (.int .i64 3)).setCell ⟨w1.heap.size, 1, none⟩ (.int .i64 0)).setCell ⟨w1.heap.size, 2, none⟩ (.string t)).setCell ⟨w1.heap.size, 3, none⟩ (.int .i64 0)) ∧ Blk ((((w2.setCell ⟨w1.heap.size, 0, none⟩ (.int .i64 3)).setCell ⟨w1.heap.size, 1, none⟩ (.int .i64 0)).setCell ⟨w1.heap.size, 2, none⟩ (.string t)).setCell ⟨w1.heap.size, 3, none⟩ (.int .i64 0)) W.heap.size (.int .i64 0) (.int .i64 0) (.string ⟨#[]⟩) (.int .i64 0) ∧ Blk ((((w2.setCell ⟨w1.heap.size, 0, none⟩ (.int .i64 3)).setCell ⟨w1.heap.size, 1, none⟩ (.int .i64 0)).setCell ⟨w1.heap.size, 2, none⟩ (.string t)).setCell ⟨w1.heap.size, 3, none⟩ (.int .i64 0)) w1.heap.size (.int .i64 3) (.int .i64 0) (.string t) (.int .i64 0)) := ⟨(((H2.out.1.setCell (p := ⟨w1.heap.size, 0, none⟩) (Nat.le_of_lt HW.out) _).setCell (p := ⟨w1.heap.size, 1, none⟩) (Nat.le_of_lt HW.out) _).setCell (p := ⟨w1.heap.size, 2, none⟩) (Nat.le_of_lt HW.out) _).setCell (p := ⟨w1.heap.size, 3, none⟩) (Nat.le_of_lt HW.out) _, H2.out.2.1.far (Ne.symm (Nat.ne_of_lt HW.out)) _ _ _ _, H2.out.2.2.set _ _ _ _⟩
         clear zd d0' d1' d2' d3' df0 df1 df2 df3
         generalize (((w2.setCell ⟨w1.heap.size, 0, none⟩ (.int .i64 3)).setCell ⟨w1.heap.size, 1, none⟩ (.int .i64 0)).setCell ⟨w1.heap.size, 2, none⟩ (.string t)).setCell ⟨w1.heap.size, 3, none⟩ (.int .i64 0) = w3 at *
         obtain ⟨zd, ⟨d0', d1', d2', d3'⟩, df0, df1, df2, df3⟩ := H3.out.2.2
         go_wp2_with fail
         refine (cO _ H3.out.1).mono ?_
         rintro e w4 ⟨rfl, E4⟩
         have H4 : Hid (Ext W w4 ∧ Blk w4 W.heap.size (.int .i64 0) (.int .i64 0) (.string ⟨#[]⟩) (.int .i64 0) ∧ True) := ⟨H3.out.1.trans E4, H3.out.2.1.ext E4, trivial⟩
         clear E4 zd d0' d1' d2' d3' df0 df1 df2 df3
         obtain ⟨zr, ⟨r0, r1, r2, r3⟩, rf0, rf1, rf2, rf3⟩ := H4.out.2.1
         go_wp2_with fail
         exact fin4 r0 r1 r2 r3 rfl (by simp) H4.out.1 (fun W g0 g1 g2 g3 => by simp [results, Tryz.results12, go_sem, g0, g1, g2, g3]) (fun W h => ⟨rfl, h⟩)
       · have hn0 : ¬ whN d < 0 := by unfold whN; omega
         have HX : ansV (xCall [76, 69, 70, 84] l) = mkText (begB t (whN d)) := by
           show ansV (xLeft l) = _
           unfold xLeft
           rw [sg_of h0, teR_ok hx, hw]
           show ansV (if whN d < 0 then _ else _) = _
           rw [if_neg hn0]
           exact ansV_ok (mkText_ok _)
         rw [HX]
         rw [hx] at cX
         simp only [V.dat] at cX
         have cO := fun V (e : Ext W V) => rof_left_ok s hs t ht d hdI hdC hd0 p n c V l a1 h1 (hF.ext e) hy
         generalize mkText (begB t (whN d)) = v at *
         generalize sgl a0 = v0 at *
         clear hn hz hk k2 k3 hF h0 o0 hs HX hx
         clear ht hw hl1 hn0 hdI hdC hy h1 o1 hd0
         go_enter Tryz.func12, Tryz.ntmps12
         go_wp2_with fail
         refine (cK _).mono ?_
         rintro e wk ⟨rfl, rfl⟩
         go_wp2_with fail
         refine (c0 _ ((Ext.refl _).alloc _)).mono ?_
         rintro e w1 ⟨rfl, E1⟩
         have H1 : Hid (Ext W w1 ∧ Blk w1 W.heap.size (.int .i64 0) (.int .i64 0) (.string ⟨#[]⟩) (.int .i64 0)) := ⟨((Ext.refl _).alloc _).trans E1, blk_top (by simp) E1⟩
         clear E1
         have HW : Hid (W.heap.size < w1.heap.size) := H1.out.2.1
         go_wp2_with fail
         refine (cX _).mono ?_
         rintro e w2 ⟨rfl, E2⟩
         have H2 : Hid (Ext W w2 ∧ Blk w2 W.heap.size (.int .i64 0) (.int .i64 0) (.string ⟨#[]⟩) (.int .i64 0) ∧ Blk w2 w1.heap.size (.int .i64 v0.k) (.int .i64 v0.n) (.string v0.s) (.int .i64 v0.e)) := ⟨(H1.out.1.alloc _).trans E2, (H1.out.2.al _).ext E2, blk_top (by simp) E2⟩
         clear E2
         obtain ⟨zd, ⟨d0', d1', d2', d3'⟩, df0, df1, df2, df3⟩ := H2.out.2.2
         go_upto_region 23 with fail
         have H3 : Hid (Ext W ((((w2.setCell ⟨w1.heap.size, 0, none⟩ (.int .i64 3)).setCell ⟨w1.heap.size, 1, none⟩ (.int .i64 0)).setCell ⟨w1.heap.size, 2, none⟩ (.string t)).setCell ⟨w1.heap.size, 3, none⟩ (.int .i64 0)) ∧ Blk ((((w2.setCell ⟨w1.heap.size, 0, none⟩ (.int .i64 3)).setCell ⟨w1.heap.size, 1, none⟩ (.int .i64 0)).setCell ⟨w1.heap.size, 2, none⟩ (.string t)).setCell ⟨w1.heap.size, 3, none⟩ (.int .i64 0)) W.heap.size (.int .i64 0) (.int .i64 0) (.string ⟨#[]⟩) (.int .i64 0) ∧ Blk ((((w2.setCell ⟨w1.heap.size, 0, none⟩ (.int .i64 3)).setCell ⟨w1.heap.size, 1, none⟩ (.int .i64 0)).setCell ⟨w1.heap.size, 2, none⟩ (.string t)).setCell ⟨w1.heap.size, 3, none⟩ (.int .i64 0)) w1.heap.size (.int .i64 3) (.int .i64 0) (.string t) (.int .i64 0)) := ⟨(((H2.out.1.setCell (p := ⟨w1.heap.size, 0, none⟩) (Nat.le_of_lt HW.out) _).setCell (p := ⟨w1.heap.size, 1, none⟩) (Nat.le_of_lt HW.out) _).setCell (p := ⟨w1.heap.size, 2, none⟩) (Nat.le_of_lt HW.out) _).setCell (p := ⟨w1.heap.size, 3, none⟩) (Nat.le_of_lt HW.out) _, H2.out.2.1.far (Ne.symm (Nat.ne_of_lt HW.out)) _ _ _ _, H2.out.2.2.set _ _ _ _⟩
         clear zd d0' d1' d2' d3' df0 df1 df2 df3
         generalize (((w2.setCell ⟨w1.heap.size, 0, none⟩ (.int .i64 3)).setCell ⟨w1.heap.size, 1, none⟩ (.int .i64 0)).setCell ⟨w1.heap.size, 2, none⟩ (.string t)).setCell ⟨w1.heap.size, 3, none⟩ (.int .i64 0) = w3 at *
         obtain ⟨zd, ⟨d0', d1', d2', d3'⟩, df0, df1, df2, df3⟩ := H3.out.2.2
         go_wp2_with fail
         refine (cO _ H3.out.1).mono ?_
         rintro e w4 ⟨rfl, E4⟩
         have H4 : Hid (Ext W w4 ∧ Blk w4 W.heap.size (.int .i64 0) (.int .i64 0) (.string ⟨#[]⟩) (.int .i64 0) ∧ True) := ⟨H3.out.1.trans E4, H3.out.2.1.ext E4, trivial⟩
         clear E4 zd d0' d1' d2' d3' df0 df1 df2 df3
         obtain ⟨zr, ⟨r0, r1, r2, r3⟩, rf0, rf1, rf2, rf3⟩ := H4.out.2.1
         go_wp2_with fail
         exact fin4 r0 r1 r2 r3 rfl (by simp) H4.out.1 (fun W g0 g1 g2 g3 => by simp [results, Tryz.results12, go_sem, g0, g1, g2, g3]) (fun W h => ⟨rfl, h⟩)
     · have hw : whO l 1 = .error x := by unfold whO; rw [if_neg hl1, sg_of h1]; unfold whR; rw [nuR_no hy]; rfl
       have HX : ansV (xCall [76, 69, 70, 84] l) = V.err x := by
         show ansV (xLeft l) = _
         unfold xLeft
         rw [sg_of h0, teR_ok hx, hw]
         exact mkErr_is ho
       rw [HX]
       rw [hx] at cX
       simp only [V.dat] at cX
       have cO := fun V (e : Ext W V) => rof_left_err s hs t x p n c V l a1 h1 (hF.ext e) hy
       generalize sgl a0 = v0 at *
       clear hn hz hk k2 k3 hF h0 o0 hs HX hx
       clear ht hw hl1 ho hy h1 o1
       go_enter Tryz.func12, Tryz.ntmps12
       go_wp2_with fail
       refine (cK _).mono ?_
       rintro e wk ⟨rfl, rfl⟩
       go_wp2_with fail
       refine (c0 _ ((Ext.refl _).alloc _)).mono ?_
       rintro e w1 ⟨rfl, E1⟩
       have H1 : Hid (Ext W w1 ∧ Blk w1 W.heap.size (.int .i64 0) (.int .i64 0) (.string ⟨#[]⟩) (.int .i64 0)) := ⟨((Ext.refl _).alloc _).trans E1, blk_top (by simp) E1⟩
       clear E1
       have HW : Hid (W.heap.size < w1.heap.size) := H1.out.2.1
       go_wp2_with fail
       refine (cX _).mono ?_
       rintro e w2 ⟨rfl, E2⟩
       have H2 : Hid (Ext W w2 ∧ Blk w2 W.heap.size (.int .i64 0) (.int .i64 0) (.string ⟨#[]⟩) (.int .i64 0) ∧ Blk w2 w1.heap.size (.int .i64 v0.k) (.int .i64 v0.n) (.string v0.s) (.int .i64 v0.e)) := ⟨(H1.out.1.alloc _).trans E2, (H1.out.2.al _).ext E2, blk_top (by simp) E2⟩
       clear E2
       obtain ⟨zd, ⟨d0', d1', d2', d3'⟩, df0, df1, df2, df3⟩ := H2.out.2.2
       go_upto_region 23 with fail
       have H3 : Hid (Ext W ((((w2.setCell ⟨w1.heap.size, 0, none⟩ (.int .i64 3)).setCell ⟨w1.heap.size, 1, none⟩ (.int .i64 0)).setCell ⟨w1.heap.size, 2, none⟩ (.string t)).setCell ⟨w1.heap.size, 3, none⟩ (.int .i64 0)) ∧ Blk ((((w2.setCell ⟨w1.heap.size, 0, none⟩ (.int .i64 3)).setCell ⟨w1.heap.size, 1, none⟩ (.int .i64 0)).setCell ⟨w1.heap.size, 2, none⟩ (.string t)).setCell ⟨w1.heap.size, 3, none⟩ (.int .i64 0)) W.heap.size (.int .i64 0) (.int .i64 0) (.string ⟨#[]⟩) (.int .i64 0) ∧ Blk ((((w2.setCell ⟨w1.heap.size, 0, none⟩ (.int .i64 3)).setCell ⟨w1.heap.size, 1, none⟩ (.int .i64 0)).setCell ⟨w1.heap.size, 2, none⟩ (.string t)).setCell ⟨w1.heap.size, 3, none⟩ (.int .i64 0)) w1.heap.size (.int .i64 3) (.int .i64 0) (.string t) (.int .i64 0)) := ⟨(((H2.out.1.setCell (p := ⟨w1.heap.size, 0, none⟩) (Nat.le_of_lt HW.out) _).setCell (p := ⟨w1.heap.size, 1, none⟩) (Nat.le_of_lt HW.out) _).setCell (p := ⟨w1.heap.size, 2, none⟩) (Nat.le_of_lt HW.out) _).setCell (p := ⟨w1.heap.size, 3, none⟩) (Nat.le_of_lt HW.out) _, H2.out.2.1.far (Ne.symm (Nat.ne_of_lt HW.out)) _ _ _ _, H2.out.2.2.set _ _ _ _⟩
       clear zd d0' d1' d2' d3' df0 df1 df2 df3
       generalize (((w2.setCell ⟨w1.heap.size, 0, none⟩ (.int .i64 3)).setCell ⟨w1.heap.size, 1, none⟩ (.int .i64 0)).setCell ⟨w1.heap.size, 2, none⟩ (.string t)).setCell ⟨w1.heap.size, 3, none⟩ (.int .i64 0) = w3 at *
       obtain ⟨zd, ⟨d0', d1', d2', d3'⟩, df0, df1, df2, df3⟩ := H3.out.2.2
       go_wp2_with fail
       refine (cO _ H3.out.1).mono ?_
       rintro e w4 ⟨rfl, E4⟩
       have H4 : Hid (Ext W w4 ∧ Blk w4 W.heap.size (.int .i64 0) (.int .i64 0) (.string ⟨#[]⟩) (.int .i64 0) ∧ True) := ⟨H3.out.1.trans E4, H3.out.2.1.ext E4, trivial⟩
       clear E4 zd d0' d1' d2' d3' df0 df1 df2 df3
       obtain ⟨zr, ⟨r0, r1, r2, r3⟩, rf0, rf1, rf2, rf3⟩ := H4.out.2.1
       go_wp2_with fail
       exact fin4 r0 r1 r2 r3 rfl (by simp) H4.out.1 (fun W g0 g1 g2 g3 => by simp [results, Tryz.results12, go_sem, g0, g1, g2, g3]) (fun W h => ⟨rfl, h⟩)
 · have HX : ansV (xCall [76, 69, 70, 84] l) = .err x := by
     show ansV (xLeft l) = _
     unfold xLeft
     rw [sg_of h0, teR_no hx]
     exact mkErr_is ho
   rw [HX]
   rw [hx] at cX
   simp only [V.dat] at cX
   generalize sgl a0 = v0 at *
   clear hn hz hk k2 k3 hF h0 o0 hs HX hx
   clear ho
   go_enter Tryz.func12, Tryz.ntmps12
   go_wp2_with fail
   refine (cK _).mono ?_
   rintro e wk ⟨rfl, rfl⟩
   go_wp2_with fail
   refine (c0 _ ((Ext.refl _).alloc _)).mono ?_
   rintro e w1 ⟨rfl, E1⟩
   have H1 : Hid (Ext W w1 ∧ Blk w1 W.heap.size (.int .i64 0) (.int .i64 0) (.string ⟨#[]⟩) (.int .i64 0)) := ⟨((Ext.refl _).alloc _).trans E1, blk_top (by simp) E1⟩
   clear E1
   have HW : Hid (W.heap.size < w1.heap.size) := H1.out.2.1
   go_wp2_with fail
   refine (cX _).mono ?_
   rintro e w2 ⟨rfl, E2⟩
   have H2 : Hid (Ext W w2 ∧ Blk w2 W.heap.size (.int .i64 0) (.int .i64 0) (.string ⟨#[]⟩) (.int .i64 0) ∧ Blk w2 w1.heap.size (.int .i64 v0.k) (.int .i64 v0.n) (.string v0.s) (.int .i64 v0.e)) := ⟨(H1.out.1.alloc _).trans E2, (H1.out.2.al _).ext E2, blk_top (by simp) E2⟩
   clear E2
   obtain ⟨zd, ⟨d0', d1', d2', d3'⟩, df0, df1, df2, df3⟩ := H2.out.2.2
   go_upto_region 23 with fail
   have H3 : Hid (Ext W ((((w2.setCell ⟨w1.heap.size, 0, none⟩ (.int .i64 4)).setCell ⟨w1.heap.size, 1, none⟩ (.int .i64 0)).setCell ⟨w1.heap.size, 2, none⟩ (.string ⟨#[]⟩)).setCell ⟨w1.heap.size, 3, none⟩ (.int .i64 x)) ∧ Blk ((((w2.setCell ⟨w1.heap.size, 0, none⟩ (.int .i64 4)).setCell ⟨w1.heap.size, 1, none⟩ (.int .i64 0)).setCell ⟨w1.heap.size, 2, none⟩ (.string ⟨#[]⟩)).setCell ⟨w1.heap.size, 3, none⟩ (.int .i64 x)) W.heap.size (.int .i64 0) (.int .i64 0) (.string ⟨#[]⟩) (.int .i64 0) ∧ Blk ((((w2.setCell ⟨w1.heap.size, 0, none⟩ (.int .i64 4)).setCell ⟨w1.heap.size, 1, none⟩ (.int .i64 0)).setCell ⟨w1.heap.size, 2, none⟩ (.string ⟨#[]⟩)).setCell ⟨w1.heap.size, 3, none⟩ (.int .i64 x)) w1.heap.size (.int .i64 4) (.int .i64 0) (.string ⟨#[]⟩) (.int .i64 x)) := ⟨(((H2.out.1.setCell (p := ⟨w1.heap.size, 0, none⟩) (Nat.le_of_lt HW.out) _).setCell (p := ⟨w1.heap.size, 1, none⟩) (Nat.le_of_lt HW.out) _).setCell (p := ⟨w1.heap.size, 2, none⟩) (Nat.le_of_lt HW.out) _).setCell (p := ⟨w1.heap.size, 3, none⟩) (Nat.le_of_lt HW.out) _, H2.out.2.1.far (Ne.symm (Nat.ne_of_lt HW.out)) _ _ _ _, H2.out.2.2.set _ _ _ _⟩
   clear zd d0' d1' d2' d3' df0 df1 df2 df3
   generalize (((w2.setCell ⟨w1.heap.size, 0, none⟩ (.int .i64 4)).setCell ⟨w1.heap.size, 1, none⟩ (.int .i64 0)).setCell ⟨w1.heap.size, 2, none⟩ (.string ⟨#[]⟩)).setCell ⟨w1.heap.size, 3, none⟩ (.int .i64 x) = w3 at *
   obtain ⟨zd, ⟨d0', d1', d2', d3'⟩, df0, df1, df2, df3⟩ := H3.out.2.2
   obtain ⟨zr, ⟨r0, r1, r2, r3⟩, rf0, rf1, rf2, rf3⟩ := H3.out.2.1
   go_wp2_with fail
   exact fin4 r0 r1 r2 r3 rfl (by simp) H3.out.1 (fun W g0 g1 g2 g3 => by simp [results, Tryz.results12, go_sem, g0, g1, g2, g3]) (fun W h => ⟨rfl, h⟩)

set_option maxRecDepth 100000 in
theorem rc_ABS (s : ByteArray) (hs : s.data.toList = [65, 66, 83]) (l : List Bg) (hk : okN [65, 66, 83] l.length = true) (p : Option Addr) (n c : Nat) (W : World) (hF : FitB W (.slice p n c) l) :
   Calls Tryz.prog 12 #[.string s, .slice p n c] W fun e w' => e = .returned (.agg #[.int .i64 (ansV (xCall [65, 66, 83] l)).k, .int .i64 (ansV (xCall [65, 66, 83] l)).n, .string (ansV (xCall [65, 66, 83] l)).s, .int .i64 (ansV (xCall [65, 66, 83] l)).e]) ∧ Ext W w' := by
 have cK : ∀ W, Calls Tryz.prog 23 #[.string s] W fun e w' => e = .returned (.tuple #[.int .i64 1, .int .i64 1, .bool true]) ∧ w' = W := fun W => by
   have := rknown_any s W
   rw [hs] at this
   exact this
 have hn := hF.rd.len
 have hz := hF.z
 obtain ⟨_, k2, k3⟩ := okN_is hk
 rw [show knA [65, 66, 83] = 1 from rfl] at k2
 rw [show knB [65, 66, 83] = 1 from rfl] at k3
 have n2 : (n : Int) ≤ 1500000 := by omega
 have d1 : ¬ (n : Int) < 1 := by omega
 have d2 : ¬ (n : Int) > 1 := by omega
 have d3 : ((1 : Int) == 20) = false := rfl
 obtain ⟨a0, h0⟩ := at_some (l := l) (i := 0) (by omega)
 have o0 : (sgl a0).ok := by have := hF.ok 0; rwa [sg_of h0] at this
 have c0 := fun V (e : Ext W V) => rarg_any l 0 a0 h0 p n c V (hF.ext e)
 have cX := fun V => rtonum_any (sgl a0).k (sgl a0).n (sgl a0).s (sgl a0).e V (nm_of _ o0).2
 rw [(nm_of _ o0).1] at cX
 have hl : s.toList = [65, 66, 83] := by rw [ByteArray.toList_eq]; exact hs
 have e0 : (s.toList == [73, 78, 68, 69, 88]) = false := by rw [hl]; decide
 have e1 : (s.toList == [73, 83, 69, 82, 82, 79, 82]) = false := by rw [hl]; decide
 have e2 : (s.toList == [73, 70, 69, 82, 82, 79, 82]) = false := by rw [hl]; decide
 have e3 : (s.toList == [73, 70]) = false := by rw [hl]; decide
 have e4 : (s.toList == [78, 79, 84]) = false := by rw [hl]; decide
 have e5 : (s.toList == [76, 69, 78]) = false := by rw [hl]; decide
 have e6 : (s.toList == [76, 69, 70, 84]) = false := by rw [hl]; decide
 clear hl
 rcases toNum_cases (sgl a0) o0 with ⟨a, hx, hI, hC⟩ | ⟨x, hx, ho⟩
 · have HX : ansV (xCall [65, 66, 83] l) = mkNum (szN a) := by
     show ansV (xAbs l) = _
     unfold xAbs
     rw [sg_of h0, nuR_ok hx]
     exact ansV_ok (mkNum_ok _ (by unfold szN; obtain ⟨i1, i2⟩ := hI; have h3 : a ≠ -9223372036854775808 := (by simpa [canB] using hC); split <;> exact ⟨by omega, by omega⟩))
   rw [HX]
   rw [hx] at cX
   simp only [V.dat] at cX
   have cO := fun V => rof_abs s hs a hI hC p n c V
   generalize mkNum (szN a) = v at *
   generalize sgl a0 = v0 at *
   clear hn hz hk k2 k3 hF h0 o0 hs HX hx
   clear hI hC
   go_enter Tryz.func12, Tryz.ntmps12
   go_wp2_with fail
   refine (cK _).mono ?_
   rintro e wk ⟨rfl, rfl⟩
   go_wp2_with fail
   refine (c0 _ ((Ext.refl _).alloc _)).mono ?_
   rintro e w1 ⟨rfl, E1⟩
   have H1 : Hid (Ext W w1 ∧ Blk w1 W.heap.size (.int .i64 0) (.int .i64 0) (.string ⟨#[]⟩) (.int .i64 0)) := ⟨((Ext.refl _).alloc _).trans E1, blk_top (by simp) E1⟩
   clear E1
   have HW : Hid (W.heap.size < w1.heap.size) := H1.out.2.1
   go_wp2_with fail
   refine (cX _).mono ?_
   rintro e w2 ⟨rfl, E2⟩
   have H2 : Hid (Ext W w2 ∧ Blk w2 W.heap.size (.int .i64 0) (.int .i64 0) (.string ⟨#[]⟩) (.int .i64 0) ∧ Blk w2 w1.heap.size (.int .i64 v0.k) (.int .i64 v0.n) (.string v0.s) (.int .i64 v0.e)) := ⟨(H1.out.1.alloc _).trans E2, (H1.out.2.al _).ext E2, blk_top (by simp) E2⟩
   clear E2
   obtain ⟨zd, ⟨d0', d1', d2', d3'⟩, df0, df1, df2, df3⟩ := H2.out.2.2
   go_upto_region 23 with fail
   have H3 : Hid (Ext W ((((w2.setCell ⟨w1.heap.size, 0, none⟩ (.int .i64 2)).setCell ⟨w1.heap.size, 1, none⟩ (.int .i64 a)).setCell ⟨w1.heap.size, 2, none⟩ (.string ⟨#[]⟩)).setCell ⟨w1.heap.size, 3, none⟩ (.int .i64 0)) ∧ Blk ((((w2.setCell ⟨w1.heap.size, 0, none⟩ (.int .i64 2)).setCell ⟨w1.heap.size, 1, none⟩ (.int .i64 a)).setCell ⟨w1.heap.size, 2, none⟩ (.string ⟨#[]⟩)).setCell ⟨w1.heap.size, 3, none⟩ (.int .i64 0)) W.heap.size (.int .i64 0) (.int .i64 0) (.string ⟨#[]⟩) (.int .i64 0) ∧ Blk ((((w2.setCell ⟨w1.heap.size, 0, none⟩ (.int .i64 2)).setCell ⟨w1.heap.size, 1, none⟩ (.int .i64 a)).setCell ⟨w1.heap.size, 2, none⟩ (.string ⟨#[]⟩)).setCell ⟨w1.heap.size, 3, none⟩ (.int .i64 0)) w1.heap.size (.int .i64 2) (.int .i64 a) (.string ⟨#[]⟩) (.int .i64 0)) := ⟨(((H2.out.1.setCell (p := ⟨w1.heap.size, 0, none⟩) (Nat.le_of_lt HW.out) _).setCell (p := ⟨w1.heap.size, 1, none⟩) (Nat.le_of_lt HW.out) _).setCell (p := ⟨w1.heap.size, 2, none⟩) (Nat.le_of_lt HW.out) _).setCell (p := ⟨w1.heap.size, 3, none⟩) (Nat.le_of_lt HW.out) _, H2.out.2.1.far (Ne.symm (Nat.ne_of_lt HW.out)) _ _ _ _, H2.out.2.2.set _ _ _ _⟩
   clear zd d0' d1' d2' d3' df0 df1 df2 df3
   generalize (((w2.setCell ⟨w1.heap.size, 0, none⟩ (.int .i64 2)).setCell ⟨w1.heap.size, 1, none⟩ (.int .i64 a)).setCell ⟨w1.heap.size, 2, none⟩ (.string ⟨#[]⟩)).setCell ⟨w1.heap.size, 3, none⟩ (.int .i64 0) = w3 at *
   obtain ⟨zd, ⟨d0', d1', d2', d3'⟩, df0, df1, df2, df3⟩ := H3.out.2.2
   go_wp2_with fail
   refine (cO _).mono ?_
   rintro e w4 ⟨rfl, E4⟩
   have H4 : Hid (Ext W w4 ∧ Blk w4 W.heap.size (.int .i64 0) (.int .i64 0) (.string ⟨#[]⟩) (.int .i64 0) ∧ True) := ⟨H3.out.1.trans E4, H3.out.2.1.ext E4, trivial⟩
   clear E4 zd d0' d1' d2' d3' df0 df1 df2 df3
   obtain ⟨zr, ⟨r0, r1, r2, r3⟩, rf0, rf1, rf2, rf3⟩ := H4.out.2.1
   go_wp2_with fail
   exact fin4 r0 r1 r2 r3 rfl (by simp) H4.out.1 (fun W g0 g1 g2 g3 => by simp [results, Tryz.results12, go_sem, g0, g1, g2, g3]) (fun W h => ⟨rfl, h⟩)
 · have HX : ansV (xCall [65, 66, 83] l) = .err x := by
     show ansV (xAbs l) = _
     unfold xAbs
     rw [sg_of h0, nuR_no hx]
     exact mkErr_is ho
   rw [HX]
   rw [hx] at cX
   simp only [V.dat] at cX
   generalize sgl a0 = v0 at *
   clear hn hz hk k2 k3 hF h0 o0 hs HX hx
   clear ho
   go_enter Tryz.func12, Tryz.ntmps12
   go_wp2_with fail
   refine (cK _).mono ?_
   rintro e wk ⟨rfl, rfl⟩
   go_wp2_with fail
   refine (c0 _ ((Ext.refl _).alloc _)).mono ?_
   rintro e w1 ⟨rfl, E1⟩
   have H1 : Hid (Ext W w1 ∧ Blk w1 W.heap.size (.int .i64 0) (.int .i64 0) (.string ⟨#[]⟩) (.int .i64 0)) := ⟨((Ext.refl _).alloc _).trans E1, blk_top (by simp) E1⟩
   clear E1
   have HW : Hid (W.heap.size < w1.heap.size) := H1.out.2.1
   go_wp2_with fail
   refine (cX _).mono ?_
   rintro e w2 ⟨rfl, E2⟩
   have H2 : Hid (Ext W w2 ∧ Blk w2 W.heap.size (.int .i64 0) (.int .i64 0) (.string ⟨#[]⟩) (.int .i64 0) ∧ Blk w2 w1.heap.size (.int .i64 v0.k) (.int .i64 v0.n) (.string v0.s) (.int .i64 v0.e)) := ⟨(H1.out.1.alloc _).trans E2, (H1.out.2.al _).ext E2, blk_top (by simp) E2⟩
   clear E2
   obtain ⟨zd, ⟨d0', d1', d2', d3'⟩, df0, df1, df2, df3⟩ := H2.out.2.2
   go_upto_region 23 with fail
   have H3 : Hid (Ext W ((((w2.setCell ⟨w1.heap.size, 0, none⟩ (.int .i64 4)).setCell ⟨w1.heap.size, 1, none⟩ (.int .i64 0)).setCell ⟨w1.heap.size, 2, none⟩ (.string ⟨#[]⟩)).setCell ⟨w1.heap.size, 3, none⟩ (.int .i64 x)) ∧ Blk ((((w2.setCell ⟨w1.heap.size, 0, none⟩ (.int .i64 4)).setCell ⟨w1.heap.size, 1, none⟩ (.int .i64 0)).setCell ⟨w1.heap.size, 2, none⟩ (.string ⟨#[]⟩)).setCell ⟨w1.heap.size, 3, none⟩ (.int .i64 x)) W.heap.size (.int .i64 0) (.int .i64 0) (.string ⟨#[]⟩) (.int .i64 0) ∧ Blk ((((w2.setCell ⟨w1.heap.size, 0, none⟩ (.int .i64 4)).setCell ⟨w1.heap.size, 1, none⟩ (.int .i64 0)).setCell ⟨w1.heap.size, 2, none⟩ (.string ⟨#[]⟩)).setCell ⟨w1.heap.size, 3, none⟩ (.int .i64 x)) w1.heap.size (.int .i64 4) (.int .i64 0) (.string ⟨#[]⟩) (.int .i64 x)) := ⟨(((H2.out.1.setCell (p := ⟨w1.heap.size, 0, none⟩) (Nat.le_of_lt HW.out) _).setCell (p := ⟨w1.heap.size, 1, none⟩) (Nat.le_of_lt HW.out) _).setCell (p := ⟨w1.heap.size, 2, none⟩) (Nat.le_of_lt HW.out) _).setCell (p := ⟨w1.heap.size, 3, none⟩) (Nat.le_of_lt HW.out) _, H2.out.2.1.far (Ne.symm (Nat.ne_of_lt HW.out)) _ _ _ _, H2.out.2.2.set _ _ _ _⟩
   clear zd d0' d1' d2' d3' df0 df1 df2 df3
   generalize (((w2.setCell ⟨w1.heap.size, 0, none⟩ (.int .i64 4)).setCell ⟨w1.heap.size, 1, none⟩ (.int .i64 0)).setCell ⟨w1.heap.size, 2, none⟩ (.string ⟨#[]⟩)).setCell ⟨w1.heap.size, 3, none⟩ (.int .i64 x) = w3 at *
   obtain ⟨zd, ⟨d0', d1', d2', d3'⟩, df0, df1, df2, df3⟩ := H3.out.2.2
   obtain ⟨zr, ⟨r0, r1, r2, r3⟩, rf0, rf1, rf2, rf3⟩ := H3.out.2.1
   go_wp2_with fail
   exact fin4 r0 r1 r2 r3 rfl (by simp) H3.out.1 (fun W g0 g1 g2 g3 => by simp [results, Tryz.results12, go_sem, g0, g1, g2, g3]) (fun W h => ⟨rfl, h⟩)

set_option maxRecDepth 100000 in
theorem rc_ROUND (s : ByteArray) (hs : s.data.toList = [82, 79, 85, 78, 68]) (l : List Bg) (hk : okN [82, 79, 85, 78, 68] l.length = true) (p : Option Addr) (n c : Nat) (W : World) (hF : FitB W (.slice p n c) l) :
   Calls Tryz.prog 12 #[.string s, .slice p n c] W fun e w' => e = .returned (.agg #[.int .i64 (ansV (xCall [82, 79, 85, 78, 68] l)).k, .int .i64 (ansV (xCall [82, 79, 85, 78, 68] l)).n, .string (ansV (xCall [82, 79, 85, 78, 68] l)).s, .int .i64 (ansV (xCall [82, 79, 85, 78, 68] l)).e]) ∧ Ext W w' := by
 have cK : ∀ W, Calls Tryz.prog 23 #[.string s] W fun e w' => e = .returned (.tuple #[.int .i64 2, .int .i64 2, .bool true]) ∧ w' = W := fun W => by
   have := rknown_any s W
   rw [hs] at this
   exact this
 have hn := hF.rd.len
 have hz := hF.z
 obtain ⟨_, k2, k3⟩ := okN_is hk
 rw [show knA [82, 79, 85, 78, 68] = 2 from rfl] at k2
 rw [show knB [82, 79, 85, 78, 68] = 2 from rfl] at k3
 have n2 : (n : Int) ≤ 1500000 := by omega
 have d1 : ¬ (n : Int) < 2 := by omega
 have d2 : ¬ (n : Int) > 2 := by omega
 have d3 : ((2 : Int) == 20) = false := rfl
 obtain ⟨a0, h0⟩ := at_some (l := l) (i := 0) (by omega)
 have o0 : (sgl a0).ok := by have := hF.ok 0; rwa [sg_of h0] at this
 have c0 := fun V (e : Ext W V) => rarg_any l 0 a0 h0 p n c V (hF.ext e)
 obtain ⟨a1, h1⟩ := at_some (l := l) (i := 1) (by omega)
 have o1 : (sgl a1).ok := by have := hF.ok 1; rwa [sg_of h1] at this
 have c1 := fun V (e : Ext W V) => rarg_any l 1 a1 h1 p n c V (hF.ext e)
 have cX := fun V => rtonum_any (sgl a0).k (sgl a0).n (sgl a0).s (sgl a0).e V (nm_of _ o0).2
 rw [(nm_of _ o0).1] at cX
 have hl : s.toList = [82, 79, 85, 78, 68] := by rw [ByteArray.toList_eq]; exact hs
 have e0 : (s.toList == [73, 78, 68, 69, 88]) = false := by rw [hl]; decide
 have e1 : (s.toList == [73, 83, 69, 82, 82, 79, 82]) = false := by rw [hl]; decide
 have e2 : (s.toList == [73, 70, 69, 82, 82, 79, 82]) = false := by rw [hl]; decide
 have e3 : (s.toList == [73, 70]) = false := by rw [hl]; decide
 have e4 : (s.toList == [78, 79, 84]) = false := by rw [hl]; decide
 have e5 : (s.toList == [76, 69, 78]) = false := by rw [hl]; decide
 have e6 : (s.toList == [76, 69, 70, 84]) = false := by rw [hl]; decide
 clear hl
 rcases toNum_cases (sgl a0) o0 with ⟨a, hx, hI, hC⟩ | ⟨x, hx, ho⟩
 · have cD := toNum_cases (sgl a1) o1
   rcases cD with ⟨d, hy, hdI, hdC⟩ | ⟨x, hy, ho⟩
   · have HX : ansV (xCall [82, 79, 85, 78, 68] l) = toldR (rndB a (whN d)) (rndV a (whN d)) := by
       show ansV (xRound l) = _
       unfold xRound
       rw [sg_of h0, nuR_ok hx, sg_of h1, show whR (sgl a1) = .ok (whN d) by unfold whR; rw [nuR_ok hy]; rfl]
       exact tol_ans _ _ (rndV_i a _ hI)
     rw [HX]
     rw [hx] at cX
     simp only [V.dat] at cX
     have cO := fun V (e : Ext W V) => rof_round_ok s hs a hI d hdI hdC p n c V l a1 h1 (hF.ext e) hy
     generalize toldR (rndB a (whN d)) (rndV a (whN d)) = v at *
     generalize sgl a0 = v0 at *
     clear hn hz hk k2 k3 hF h0 o0 hs HX hx h1 o1
     clear hI hC hy c1 hdI hdC
     go_enter Tryz.func12, Tryz.ntmps12
     go_wp2_with fail
     refine (cK _).mono ?_
     rintro e wk ⟨rfl, rfl⟩
     go_wp2_with fail
     refine (c0 _ ((Ext.refl _).alloc _)).mono ?_
     rintro e w1 ⟨rfl, E1⟩
     have H1 : Hid (Ext W w1 ∧ Blk w1 W.heap.size (.int .i64 0) (.int .i64 0) (.string ⟨#[]⟩) (.int .i64 0)) := ⟨((Ext.refl _).alloc _).trans E1, blk_top (by simp) E1⟩
     clear E1
     have HW : Hid (W.heap.size < w1.heap.size) := H1.out.2.1
     go_wp2_with fail
     refine (cX _).mono ?_
     rintro e w2 ⟨rfl, E2⟩
     have H2 : Hid (Ext W w2 ∧ Blk w2 W.heap.size (.int .i64 0) (.int .i64 0) (.string ⟨#[]⟩) (.int .i64 0) ∧ Blk w2 w1.heap.size (.int .i64 v0.k) (.int .i64 v0.n) (.string v0.s) (.int .i64 v0.e)) := ⟨(H1.out.1.alloc _).trans E2, (H1.out.2.al _).ext E2, blk_top (by simp) E2⟩
     clear E2
     obtain ⟨zd, ⟨d0', d1', d2', d3'⟩, df0, df1, df2, df3⟩ := H2.out.2.2
     go_upto_region 23 with fail
     have H3 : Hid (Ext W ((((w2.setCell ⟨w1.heap.size, 0, none⟩ (.int .i64 2)).setCell ⟨w1.heap.size, 1, none⟩ (.int .i64 a)).setCell ⟨w1.heap.size, 2, none⟩ (.string ⟨#[]⟩)).setCell ⟨w1.heap.size, 3, none⟩ (.int .i64 0)) ∧ Blk ((((w2.setCell ⟨w1.heap.size, 0, none⟩ (.int .i64 2)).setCell ⟨w1.heap.size, 1, none⟩ (.int .i64 a)).setCell ⟨w1.heap.size, 2, none⟩ (.string ⟨#[]⟩)).setCell ⟨w1.heap.size, 3, none⟩ (.int .i64 0)) W.heap.size (.int .i64 0) (.int .i64 0) (.string ⟨#[]⟩) (.int .i64 0) ∧ Blk ((((w2.setCell ⟨w1.heap.size, 0, none⟩ (.int .i64 2)).setCell ⟨w1.heap.size, 1, none⟩ (.int .i64 a)).setCell ⟨w1.heap.size, 2, none⟩ (.string ⟨#[]⟩)).setCell ⟨w1.heap.size, 3, none⟩ (.int .i64 0)) w1.heap.size (.int .i64 2) (.int .i64 a) (.string ⟨#[]⟩) (.int .i64 0)) := ⟨(((H2.out.1.setCell (p := ⟨w1.heap.size, 0, none⟩) (Nat.le_of_lt HW.out) _).setCell (p := ⟨w1.heap.size, 1, none⟩) (Nat.le_of_lt HW.out) _).setCell (p := ⟨w1.heap.size, 2, none⟩) (Nat.le_of_lt HW.out) _).setCell (p := ⟨w1.heap.size, 3, none⟩) (Nat.le_of_lt HW.out) _, H2.out.2.1.far (Ne.symm (Nat.ne_of_lt HW.out)) _ _ _ _, H2.out.2.2.set _ _ _ _⟩
     clear zd d0' d1' d2' d3' df0 df1 df2 df3
     generalize (((w2.setCell ⟨w1.heap.size, 0, none⟩ (.int .i64 2)).setCell ⟨w1.heap.size, 1, none⟩ (.int .i64 a)).setCell ⟨w1.heap.size, 2, none⟩ (.string ⟨#[]⟩)).setCell ⟨w1.heap.size, 3, none⟩ (.int .i64 0) = w3 at *
     obtain ⟨zd, ⟨d0', d1', d2', d3'⟩, df0, df1, df2, df3⟩ := H3.out.2.2
     go_wp2_with fail
     refine (cO _ H3.out.1).mono ?_
     rintro e w4 ⟨rfl, E4⟩
     have H4 : Hid (Ext W w4 ∧ Blk w4 W.heap.size (.int .i64 0) (.int .i64 0) (.string ⟨#[]⟩) (.int .i64 0) ∧ True) := ⟨H3.out.1.trans E4, H3.out.2.1.ext E4, trivial⟩
     clear E4 zd d0' d1' d2' d3' df0 df1 df2 df3
     obtain ⟨zr, ⟨r0, r1, r2, r3⟩, rf0, rf1, rf2, rf3⟩ := H4.out.2.1
     go_wp2_with fail
     exact fin4 r0 r1 r2 r3 rfl (by simp) H4.out.1 (fun W g0 g1 g2 g3 => by simp [results, Tryz.results12, go_sem, g0, g1, g2, g3]) (fun W h => ⟨rfl, h⟩)
   · have HX : ansV (xCall [82, 79, 85, 78, 68] l) = V.err x := by
       show ansV (xRound l) = _
       unfold xRound
       rw [sg_of h0, nuR_ok hx, sg_of h1, show whR (sgl a1) = .error x by unfold whR; rw [nuR_no hy]; rfl]
       exact mkErr_is ho
     rw [HX]
     rw [hx] at cX
     simp only [V.dat] at cX
     have cO := fun V (e : Ext W V) => rof_round_err s hs a x p n c V l a1 h1 (hF.ext e) hy
     generalize sgl a0 = v0 at *
     clear hn hz hk k2 k3 hF h0 o0 hs HX hx h1 o1
     clear hI hC hy c1 ho
     go_enter Tryz.func12, Tryz.ntmps12
     go_wp2_with fail
     refine (cK _).mono ?_
     rintro e wk ⟨rfl, rfl⟩
     go_wp2_with fail
     refine (c0 _ ((Ext.refl _).alloc _)).mono ?_
     rintro e w1 ⟨rfl, E1⟩
     have H1 : Hid (Ext W w1 ∧ Blk w1 W.heap.size (.int .i64 0) (.int .i64 0) (.string ⟨#[]⟩) (.int .i64 0)) := ⟨((Ext.refl _).alloc _).trans E1, blk_top (by simp) E1⟩
     clear E1
     have HW : Hid (W.heap.size < w1.heap.size) := H1.out.2.1
     go_wp2_with fail
     refine (cX _).mono ?_
     rintro e w2 ⟨rfl, E2⟩
     have H2 : Hid (Ext W w2 ∧ Blk w2 W.heap.size (.int .i64 0) (.int .i64 0) (.string ⟨#[]⟩) (.int .i64 0) ∧ Blk w2 w1.heap.size (.int .i64 v0.k) (.int .i64 v0.n) (.string v0.s) (.int .i64 v0.e)) := ⟨(H1.out.1.alloc _).trans E2, (H1.out.2.al _).ext E2, blk_top (by simp) E2⟩
     clear E2
     obtain ⟨zd, ⟨d0', d1', d2', d3'⟩, df0, df1, df2, df3⟩ := H2.out.2.2
     go_upto_region 23 with fail
     have H3 : Hid (Ext W ((((w2.setCell ⟨w1.heap.size, 0, none⟩ (.int .i64 2)).setCell ⟨w1.heap.size, 1, none⟩ (.int .i64 a)).setCell ⟨w1.heap.size, 2, none⟩ (.string ⟨#[]⟩)).setCell ⟨w1.heap.size, 3, none⟩ (.int .i64 0)) ∧ Blk ((((w2.setCell ⟨w1.heap.size, 0, none⟩ (.int .i64 2)).setCell ⟨w1.heap.size, 1, none⟩ (.int .i64 a)).setCell ⟨w1.heap.size, 2, none⟩ (.string ⟨#[]⟩)).setCell ⟨w1.heap.size, 3, none⟩ (.int .i64 0)) W.heap.size (.int .i64 0) (.int .i64 0) (.string ⟨#[]⟩) (.int .i64 0) ∧ Blk ((((w2.setCell ⟨w1.heap.size, 0, none⟩ (.int .i64 2)).setCell ⟨w1.heap.size, 1, none⟩ (.int .i64 a)).setCell ⟨w1.heap.size, 2, none⟩ (.string ⟨#[]⟩)).setCell ⟨w1.heap.size, 3, none⟩ (.int .i64 0)) w1.heap.size (.int .i64 2) (.int .i64 a) (.string ⟨#[]⟩) (.int .i64 0)) := ⟨(((H2.out.1.setCell (p := ⟨w1.heap.size, 0, none⟩) (Nat.le_of_lt HW.out) _).setCell (p := ⟨w1.heap.size, 1, none⟩) (Nat.le_of_lt HW.out) _).setCell (p := ⟨w1.heap.size, 2, none⟩) (Nat.le_of_lt HW.out) _).setCell (p := ⟨w1.heap.size, 3, none⟩) (Nat.le_of_lt HW.out) _, H2.out.2.1.far (Ne.symm (Nat.ne_of_lt HW.out)) _ _ _ _, H2.out.2.2.set _ _ _ _⟩
     clear zd d0' d1' d2' d3' df0 df1 df2 df3
     generalize (((w2.setCell ⟨w1.heap.size, 0, none⟩ (.int .i64 2)).setCell ⟨w1.heap.size, 1, none⟩ (.int .i64 a)).setCell ⟨w1.heap.size, 2, none⟩ (.string ⟨#[]⟩)).setCell ⟨w1.heap.size, 3, none⟩ (.int .i64 0) = w3 at *
     obtain ⟨zd, ⟨d0', d1', d2', d3'⟩, df0, df1, df2, df3⟩ := H3.out.2.2
     go_wp2_with fail
     refine (cO _ H3.out.1).mono ?_
     rintro e w4 ⟨rfl, E4⟩
     have H4 : Hid (Ext W w4 ∧ Blk w4 W.heap.size (.int .i64 0) (.int .i64 0) (.string ⟨#[]⟩) (.int .i64 0) ∧ True) := ⟨H3.out.1.trans E4, H3.out.2.1.ext E4, trivial⟩
     clear E4 zd d0' d1' d2' d3' df0 df1 df2 df3
     obtain ⟨zr, ⟨r0, r1, r2, r3⟩, rf0, rf1, rf2, rf3⟩ := H4.out.2.1
     go_wp2_with fail
     exact fin4 r0 r1 r2 r3 rfl (by simp) H4.out.1 (fun W g0 g1 g2 g3 => by simp [results, Tryz.results12, go_sem, g0, g1, g2, g3]) (fun W h => ⟨rfl, h⟩)
 · have HX : ansV (xCall [82, 79, 85, 78, 68] l) = .err x := by
     show ansV (xRound l) = _
     unfold xRound
     rw [sg_of h0, nuR_no hx]
     exact mkErr_is ho
   rw [HX]
   rw [hx] at cX
   simp only [V.dat] at cX
   generalize sgl a0 = v0 at *
   clear hn hz hk k2 k3 hF h0 o0 hs HX hx h1 o1
   clear c1
   clear ho
   go_enter Tryz.func12, Tryz.ntmps12
   go_wp2_with fail
   refine (cK _).mono ?_
   rintro e wk ⟨rfl, rfl⟩
   go_wp2_with fail
   refine (c0 _ ((Ext.refl _).alloc _)).mono ?_
   rintro e w1 ⟨rfl, E1⟩
   have H1 : Hid (Ext W w1 ∧ Blk w1 W.heap.size (.int .i64 0) (.int .i64 0) (.string ⟨#[]⟩) (.int .i64 0)) := ⟨((Ext.refl _).alloc _).trans E1, blk_top (by simp) E1⟩
   clear E1
   have HW : Hid (W.heap.size < w1.heap.size) := H1.out.2.1
   go_wp2_with fail
   refine (cX _).mono ?_
   rintro e w2 ⟨rfl, E2⟩
   have H2 : Hid (Ext W w2 ∧ Blk w2 W.heap.size (.int .i64 0) (.int .i64 0) (.string ⟨#[]⟩) (.int .i64 0) ∧ Blk w2 w1.heap.size (.int .i64 v0.k) (.int .i64 v0.n) (.string v0.s) (.int .i64 v0.e)) := ⟨(H1.out.1.alloc _).trans E2, (H1.out.2.al _).ext E2, blk_top (by simp) E2⟩
   clear E2
   obtain ⟨zd, ⟨d0', d1', d2', d3'⟩, df0, df1, df2, df3⟩ := H2.out.2.2
   go_upto_region 23 with fail
   have H3 : Hid (Ext W ((((w2.setCell ⟨w1.heap.size, 0, none⟩ (.int .i64 4)).setCell ⟨w1.heap.size, 1, none⟩ (.int .i64 0)).setCell ⟨w1.heap.size, 2, none⟩ (.string ⟨#[]⟩)).setCell ⟨w1.heap.size, 3, none⟩ (.int .i64 x)) ∧ Blk ((((w2.setCell ⟨w1.heap.size, 0, none⟩ (.int .i64 4)).setCell ⟨w1.heap.size, 1, none⟩ (.int .i64 0)).setCell ⟨w1.heap.size, 2, none⟩ (.string ⟨#[]⟩)).setCell ⟨w1.heap.size, 3, none⟩ (.int .i64 x)) W.heap.size (.int .i64 0) (.int .i64 0) (.string ⟨#[]⟩) (.int .i64 0) ∧ Blk ((((w2.setCell ⟨w1.heap.size, 0, none⟩ (.int .i64 4)).setCell ⟨w1.heap.size, 1, none⟩ (.int .i64 0)).setCell ⟨w1.heap.size, 2, none⟩ (.string ⟨#[]⟩)).setCell ⟨w1.heap.size, 3, none⟩ (.int .i64 x)) w1.heap.size (.int .i64 4) (.int .i64 0) (.string ⟨#[]⟩) (.int .i64 x)) := ⟨(((H2.out.1.setCell (p := ⟨w1.heap.size, 0, none⟩) (Nat.le_of_lt HW.out) _).setCell (p := ⟨w1.heap.size, 1, none⟩) (Nat.le_of_lt HW.out) _).setCell (p := ⟨w1.heap.size, 2, none⟩) (Nat.le_of_lt HW.out) _).setCell (p := ⟨w1.heap.size, 3, none⟩) (Nat.le_of_lt HW.out) _, H2.out.2.1.far (Ne.symm (Nat.ne_of_lt HW.out)) _ _ _ _, H2.out.2.2.set _ _ _ _⟩
   clear zd d0' d1' d2' d3' df0 df1 df2 df3
   generalize (((w2.setCell ⟨w1.heap.size, 0, none⟩ (.int .i64 4)).setCell ⟨w1.heap.size, 1, none⟩ (.int .i64 0)).setCell ⟨w1.heap.size, 2, none⟩ (.string ⟨#[]⟩)).setCell ⟨w1.heap.size, 3, none⟩ (.int .i64 x) = w3 at *
   obtain ⟨zd, ⟨d0', d1', d2', d3'⟩, df0, df1, df2, df3⟩ := H3.out.2.2
   obtain ⟨zr, ⟨r0, r1, r2, r3⟩, rf0, rf1, rf2, rf3⟩ := H3.out.2.1
   go_wp2_with fail
   exact fin4 r0 r1 r2 r3 rfl (by simp) H3.out.1 (fun W g0 g1 g2 g3 => by simp [results, Tryz.results12, go_sem, g0, g1, g2, g3]) (fun W h => ⟨rfl, h⟩)

set_option maxRecDepth 100000 in
theorem rc_MOD (s : ByteArray) (hs : s.data.toList = [77, 79, 68]) (l : List Bg) (hk : okN [77, 79, 68] l.length = true) (p : Option Addr) (n c : Nat) (W : World) (hF : FitB W (.slice p n c) l) :
   Calls Tryz.prog 12 #[.string s, .slice p n c] W fun e w' => e = .returned (.agg #[.int .i64 (ansV (xCall [77, 79, 68] l)).k, .int .i64 (ansV (xCall [77, 79, 68] l)).n, .string (ansV (xCall [77, 79, 68] l)).s, .int .i64 (ansV (xCall [77, 79, 68] l)).e]) ∧ Ext W w' := by
 have cK : ∀ W, Calls Tryz.prog 23 #[.string s] W fun e w' => e = .returned (.tuple #[.int .i64 2, .int .i64 2, .bool true]) ∧ w' = W := fun W => by
   have := rknown_any s W
   rw [hs] at this
   exact this
 have hn := hF.rd.len
 have hz := hF.z
 obtain ⟨_, k2, k3⟩ := okN_is hk
 rw [show knA [77, 79, 68] = 2 from rfl] at k2
 rw [show knB [77, 79, 68] = 2 from rfl] at k3
 have n2 : (n : Int) ≤ 1500000 := by omega
 have d1 : ¬ (n : Int) < 2 := by omega
 have d2 : ¬ (n : Int) > 2 := by omega
 have d3 : ((2 : Int) == 20) = false := rfl
 obtain ⟨a0, h0⟩ := at_some (l := l) (i := 0) (by omega)
 have o0 : (sgl a0).ok := by have := hF.ok 0; rwa [sg_of h0] at this
 have c0 := fun V (e : Ext W V) => rarg_any l 0 a0 h0 p n c V (hF.ext e)
 obtain ⟨a1, h1⟩ := at_some (l := l) (i := 1) (by omega)
 have o1 : (sgl a1).ok := by have := hF.ok 1; rwa [sg_of h1] at this
 have c1 := fun V (e : Ext W V) => rarg_any l 1 a1 h1 p n c V (hF.ext e)
 have cX := fun V => rtonum_any (sgl a0).k (sgl a0).n (sgl a0).s (sgl a0).e V (nm_of _ o0).2
 rw [(nm_of _ o0).1] at cX
 have hl : s.toList = [77, 79, 68] := by rw [ByteArray.toList_eq]; exact hs
 have e0 : (s.toList == [73, 78, 68, 69, 88]) = false := by rw [hl]; decide
 have e1 : (s.toList == [73, 83, 69, 82, 82, 79, 82]) = false := by rw [hl]; decide
 have e2 : (s.toList == [73, 70, 69, 82, 82, 79, 82]) = false := by rw [hl]; decide
 have e3 : (s.toList == [73, 70]) = false := by rw [hl]; decide
 have e4 : (s.toList == [78, 79, 84]) = false := by rw [hl]; decide
 have e5 : (s.toList == [76, 69, 78]) = false := by rw [hl]; decide
 have e6 : (s.toList == [76, 69, 70, 84]) = false := by rw [hl]; decide
 clear hl
 rcases toNum_cases (sgl a0) o0 with ⟨a, hx, hI, hC⟩ | ⟨x, hx, ho⟩
 · have cD := toNum_cases (sgl a1) o1
   rcases cD with ⟨d, hy, hdI, hdC⟩ | ⟨x, hy, ho⟩
   · by_cases hd0 : d = 0
     · subst hd0
       have HX : ansV (xCall [77, 79, 68] l) = V.err 3 := by
         show ansV (xMod l) = _
         unfold xMod
         rw [sg_of h0, nuR_ok hx, sg_of h1, nuR_ok hy]
         rfl
       rw [HX]
       rw [hx] at cX
       simp only [V.dat] at cX
       have cO := fun V (e : Ext W V) => rof_mod_zero s hs a p n c V l a1 h1 (hF.ext e) hy
       generalize sgl a0 = v0 at *
       clear hn hz hk k2 k3 hF h0 o0 hs HX hx h1 o1
       clear hI hC hy c1 hdI hdC
       go_enter Tryz.func12, Tryz.ntmps12
       go_wp2_with fail
       refine (cK _).mono ?_
       rintro e wk ⟨rfl, rfl⟩
       go_wp2_with fail
       refine (c0 _ ((Ext.refl _).alloc _)).mono ?_
       rintro e w1 ⟨rfl, E1⟩
       have H1 : Hid (Ext W w1 ∧ Blk w1 W.heap.size (.int .i64 0) (.int .i64 0) (.string ⟨#[]⟩) (.int .i64 0)) := ⟨((Ext.refl _).alloc _).trans E1, blk_top (by simp) E1⟩
       clear E1
       have HW : Hid (W.heap.size < w1.heap.size) := H1.out.2.1
       go_wp2_with fail
       refine (cX _).mono ?_
       rintro e w2 ⟨rfl, E2⟩
       have H2 : Hid (Ext W w2 ∧ Blk w2 W.heap.size (.int .i64 0) (.int .i64 0) (.string ⟨#[]⟩) (.int .i64 0) ∧ Blk w2 w1.heap.size (.int .i64 v0.k) (.int .i64 v0.n) (.string v0.s) (.int .i64 v0.e)) := ⟨(H1.out.1.alloc _).trans E2, (H1.out.2.al _).ext E2, blk_top (by simp) E2⟩
       clear E2
       obtain ⟨zd, ⟨d0', d1', d2', d3'⟩, df0, df1, df2, df3⟩ := H2.out.2.2
       go_upto_region 23 with fail
       have H3 : Hid (Ext W ((((w2.setCell ⟨w1.heap.size, 0, none⟩ (.int .i64 2)).setCell ⟨w1.heap.size, 1, none⟩ (.int .i64 a)).setCell ⟨w1.heap.size, 2, none⟩ (.string ⟨#[]⟩)).setCell ⟨w1.heap.size, 3, none⟩ (.int .i64 0)) ∧ Blk ((((w2.setCell ⟨w1.heap.size, 0, none⟩ (.int .i64 2)).setCell ⟨w1.heap.size, 1, none⟩ (.int .i64 a)).setCell ⟨w1.heap.size, 2, none⟩ (.string ⟨#[]⟩)).setCell ⟨w1.heap.size, 3, none⟩ (.int .i64 0)) W.heap.size (.int .i64 0) (.int .i64 0) (.string ⟨#[]⟩) (.int .i64 0) ∧ Blk ((((w2.setCell ⟨w1.heap.size, 0, none⟩ (.int .i64 2)).setCell ⟨w1.heap.size, 1, none⟩ (.int .i64 a)).setCell ⟨w1.heap.size, 2, none⟩ (.string ⟨#[]⟩)).setCell ⟨w1.heap.size, 3, none⟩ (.int .i64 0)) w1.heap.size (.int .i64 2) (.int .i64 a) (.string ⟨#[]⟩) (.int .i64 0)) := ⟨(((H2.out.1.setCell (p := ⟨w1.heap.size, 0, none⟩) (Nat.le_of_lt HW.out) _).setCell (p := ⟨w1.heap.size, 1, none⟩) (Nat.le_of_lt HW.out) _).setCell (p := ⟨w1.heap.size, 2, none⟩) (Nat.le_of_lt HW.out) _).setCell (p := ⟨w1.heap.size, 3, none⟩) (Nat.le_of_lt HW.out) _, H2.out.2.1.far (Ne.symm (Nat.ne_of_lt HW.out)) _ _ _ _, H2.out.2.2.set _ _ _ _⟩
       clear zd d0' d1' d2' d3' df0 df1 df2 df3
       generalize (((w2.setCell ⟨w1.heap.size, 0, none⟩ (.int .i64 2)).setCell ⟨w1.heap.size, 1, none⟩ (.int .i64 a)).setCell ⟨w1.heap.size, 2, none⟩ (.string ⟨#[]⟩)).setCell ⟨w1.heap.size, 3, none⟩ (.int .i64 0) = w3 at *
       obtain ⟨zd, ⟨d0', d1', d2', d3'⟩, df0, df1, df2, df3⟩ := H3.out.2.2
       go_wp2_with fail
       refine (cO _ H3.out.1).mono ?_
       rintro e w4 ⟨rfl, E4⟩
       have H4 : Hid (Ext W w4 ∧ Blk w4 W.heap.size (.int .i64 0) (.int .i64 0) (.string ⟨#[]⟩) (.int .i64 0) ∧ True) := ⟨H3.out.1.trans E4, H3.out.2.1.ext E4, trivial⟩
       clear E4 zd d0' d1' d2' d3' df0 df1 df2 df3
       obtain ⟨zr, ⟨r0, r1, r2, r3⟩, rf0, rf1, rf2, rf3⟩ := H4.out.2.1
       go_wp2_with fail
       exact fin4 r0 r1 r2 r3 rfl (by simp) H4.out.1 (fun W g0 g1 g2 g3 => by simp [results, Tryz.results12, go_sem, g0, g1, g2, g3]) (fun W h => ⟨rfl, h⟩)
     · have HX : ansV (xCall [77, 79, 68] l) = toldR (modB a d) (modV a d) := by
         show ansV (xMod l) = _
         unfold xMod
         rw [sg_of h0, nuR_ok hx, sg_of h1, nuR_ok hy]
         show ansV (if d = 0 then _ else _) = _
         rw [if_neg hd0]
         exact tol_ans _ _ (modV_i a d hI hdI)
       rw [HX]
       rw [hx] at cX
       simp only [V.dat] at cX
       have cO := fun V (e : Ext W V) => rof_mod_ok s hs a hI d hdI hd0 p n c V l a1 h1 (hF.ext e) hy
       generalize toldR (modB a d) (modV a d) = v at *
       generalize sgl a0 = v0 at *
       clear hn hz hk k2 k3 hF h0 o0 hs HX hx h1 o1
       clear hI hC hy c1 hdI hdC
       go_enter Tryz.func12, Tryz.ntmps12
       go_wp2_with fail
       refine (cK _).mono ?_
       rintro e wk ⟨rfl, rfl⟩
       go_wp2_with fail
       refine (c0 _ ((Ext.refl _).alloc _)).mono ?_
       rintro e w1 ⟨rfl, E1⟩
       have H1 : Hid (Ext W w1 ∧ Blk w1 W.heap.size (.int .i64 0) (.int .i64 0) (.string ⟨#[]⟩) (.int .i64 0)) := ⟨((Ext.refl _).alloc _).trans E1, blk_top (by simp) E1⟩
       clear E1
       have HW : Hid (W.heap.size < w1.heap.size) := H1.out.2.1
       go_wp2_with fail
       refine (cX _).mono ?_
       rintro e w2 ⟨rfl, E2⟩
       have H2 : Hid (Ext W w2 ∧ Blk w2 W.heap.size (.int .i64 0) (.int .i64 0) (.string ⟨#[]⟩) (.int .i64 0) ∧ Blk w2 w1.heap.size (.int .i64 v0.k) (.int .i64 v0.n) (.string v0.s) (.int .i64 v0.e)) := ⟨(H1.out.1.alloc _).trans E2, (H1.out.2.al _).ext E2, blk_top (by simp) E2⟩
       clear E2
       obtain ⟨zd, ⟨d0', d1', d2', d3'⟩, df0, df1, df2, df3⟩ := H2.out.2.2
       go_upto_region 23 with fail
       have H3 : Hid (Ext W ((((w2.setCell ⟨w1.heap.size, 0, none⟩ (.int .i64 2)).setCell ⟨w1.heap.size, 1, none⟩ (.int .i64 a)).setCell ⟨w1.heap.size, 2, none⟩ (.string ⟨#[]⟩)).setCell ⟨w1.heap.size, 3, none⟩ (.int .i64 0)) ∧ Blk ((((w2.setCell ⟨w1.heap.size, 0, none⟩ (.int .i64 2)).setCell ⟨w1.heap.size, 1, none⟩ (.int .i64 a)).setCell ⟨w1.heap.size, 2, none⟩ (.string ⟨#[]⟩)).setCell ⟨w1.heap.size, 3, none⟩ (.int .i64 0)) W.heap.size (.int .i64 0) (.int .i64 0) (.string ⟨#[]⟩) (.int .i64 0) ∧ Blk ((((w2.setCell ⟨w1.heap.size, 0, none⟩ (.int .i64 2)).setCell ⟨w1.heap.size, 1, none⟩ (.int .i64 a)).setCell ⟨w1.heap.size, 2, none⟩ (.string ⟨#[]⟩)).setCell ⟨w1.heap.size, 3, none⟩ (.int .i64 0)) w1.heap.size (.int .i64 2) (.int .i64 a) (.string ⟨#[]⟩) (.int .i64 0)) := ⟨(((H2.out.1.setCell (p := ⟨w1.heap.size, 0, none⟩) (Nat.le_of_lt HW.out) _).setCell (p := ⟨w1.heap.size, 1, none⟩) (Nat.le_of_lt HW.out) _).setCell (p := ⟨w1.heap.size, 2, none⟩) (Nat.le_of_lt HW.out) _).setCell (p := ⟨w1.heap.size, 3, none⟩) (Nat.le_of_lt HW.out) _, H2.out.2.1.far (Ne.symm (Nat.ne_of_lt HW.out)) _ _ _ _, H2.out.2.2.set _ _ _ _⟩
       clear zd d0' d1' d2' d3' df0 df1 df2 df3
       generalize (((w2.setCell ⟨w1.heap.size, 0, none⟩ (.int .i64 2)).setCell ⟨w1.heap.size, 1, none⟩ (.int .i64 a)).setCell ⟨w1.heap.size, 2, none⟩ (.string ⟨#[]⟩)).setCell ⟨w1.heap.size, 3, none⟩ (.int .i64 0) = w3 at *
       obtain ⟨zd, ⟨d0', d1', d2', d3'⟩, df0, df1, df2, df3⟩ := H3.out.2.2
       go_wp2_with fail
       refine (cO _ H3.out.1).mono ?_
       rintro e w4 ⟨rfl, E4⟩
       have H4 : Hid (Ext W w4 ∧ Blk w4 W.heap.size (.int .i64 0) (.int .i64 0) (.string ⟨#[]⟩) (.int .i64 0) ∧ True) := ⟨H3.out.1.trans E4, H3.out.2.1.ext E4, trivial⟩
       clear E4 zd d0' d1' d2' d3' df0 df1 df2 df3
       obtain ⟨zr, ⟨r0, r1, r2, r3⟩, rf0, rf1, rf2, rf3⟩ := H4.out.2.1
       go_wp2_with fail
       exact fin4 r0 r1 r2 r3 rfl (by simp) H4.out.1 (fun W g0 g1 g2 g3 => by simp [results, Tryz.results12, go_sem, g0, g1, g2, g3]) (fun W h => ⟨rfl, h⟩)
   · have HX : ansV (xCall [77, 79, 68] l) = V.err x := by
       show ansV (xMod l) = _
       unfold xMod
       rw [sg_of h0, nuR_ok hx, sg_of h1, nuR_no hy]
       exact mkErr_is ho
     rw [HX]
     rw [hx] at cX
     simp only [V.dat] at cX
     have cO := fun V (e : Ext W V) => rof_mod_err s hs a x p n c V l a1 h1 (hF.ext e) hy
     generalize sgl a0 = v0 at *
     clear hn hz hk k2 k3 hF h0 o0 hs HX hx h1 o1
     clear hI hC hy c1 ho
     go_enter Tryz.func12, Tryz.ntmps12
     go_wp2_with fail
     refine (cK _).mono ?_
     rintro e wk ⟨rfl, rfl⟩
     go_wp2_with fail
     refine (c0 _ ((Ext.refl _).alloc _)).mono ?_
     rintro e w1 ⟨rfl, E1⟩
     have H1 : Hid (Ext W w1 ∧ Blk w1 W.heap.size (.int .i64 0) (.int .i64 0) (.string ⟨#[]⟩) (.int .i64 0)) := ⟨((Ext.refl _).alloc _).trans E1, blk_top (by simp) E1⟩
     clear E1
     have HW : Hid (W.heap.size < w1.heap.size) := H1.out.2.1
     go_wp2_with fail
     refine (cX _).mono ?_
     rintro e w2 ⟨rfl, E2⟩
     have H2 : Hid (Ext W w2 ∧ Blk w2 W.heap.size (.int .i64 0) (.int .i64 0) (.string ⟨#[]⟩) (.int .i64 0) ∧ Blk w2 w1.heap.size (.int .i64 v0.k) (.int .i64 v0.n) (.string v0.s) (.int .i64 v0.e)) := ⟨(H1.out.1.alloc _).trans E2, (H1.out.2.al _).ext E2, blk_top (by simp) E2⟩
     clear E2
     obtain ⟨zd, ⟨d0', d1', d2', d3'⟩, df0, df1, df2, df3⟩ := H2.out.2.2
     go_upto_region 23 with fail
     have H3 : Hid (Ext W ((((w2.setCell ⟨w1.heap.size, 0, none⟩ (.int .i64 2)).setCell ⟨w1.heap.size, 1, none⟩ (.int .i64 a)).setCell ⟨w1.heap.size, 2, none⟩ (.string ⟨#[]⟩)).setCell ⟨w1.heap.size, 3, none⟩ (.int .i64 0)) ∧ Blk ((((w2.setCell ⟨w1.heap.size, 0, none⟩ (.int .i64 2)).setCell ⟨w1.heap.size, 1, none⟩ (.int .i64 a)).setCell ⟨w1.heap.size, 2, none⟩ (.string ⟨#[]⟩)).setCell ⟨w1.heap.size, 3, none⟩ (.int .i64 0)) W.heap.size (.int .i64 0) (.int .i64 0) (.string ⟨#[]⟩) (.int .i64 0) ∧ Blk ((((w2.setCell ⟨w1.heap.size, 0, none⟩ (.int .i64 2)).setCell ⟨w1.heap.size, 1, none⟩ (.int .i64 a)).setCell ⟨w1.heap.size, 2, none⟩ (.string ⟨#[]⟩)).setCell ⟨w1.heap.size, 3, none⟩ (.int .i64 0)) w1.heap.size (.int .i64 2) (.int .i64 a) (.string ⟨#[]⟩) (.int .i64 0)) := ⟨(((H2.out.1.setCell (p := ⟨w1.heap.size, 0, none⟩) (Nat.le_of_lt HW.out) _).setCell (p := ⟨w1.heap.size, 1, none⟩) (Nat.le_of_lt HW.out) _).setCell (p := ⟨w1.heap.size, 2, none⟩) (Nat.le_of_lt HW.out) _).setCell (p := ⟨w1.heap.size, 3, none⟩) (Nat.le_of_lt HW.out) _, H2.out.2.1.far (Ne.symm (Nat.ne_of_lt HW.out)) _ _ _ _, H2.out.2.2.set _ _ _ _⟩
     clear zd d0' d1' d2' d3' df0 df1 df2 df3
     generalize (((w2.setCell ⟨w1.heap.size, 0, none⟩ (.int .i64 2)).setCell ⟨w1.heap.size, 1, none⟩ (.int .i64 a)).setCell ⟨w1.heap.size, 2, none⟩ (.string ⟨#[]⟩)).setCell ⟨w1.heap.size, 3, none⟩ (.int .i64 0) = w3 at *
     obtain ⟨zd, ⟨d0', d1', d2', d3'⟩, df0, df1, df2, df3⟩ := H3.out.2.2
     go_wp2_with fail
     refine (cO _ H3.out.1).mono ?_
     rintro e w4 ⟨rfl, E4⟩
     have H4 : Hid (Ext W w4 ∧ Blk w4 W.heap.size (.int .i64 0) (.int .i64 0) (.string ⟨#[]⟩) (.int .i64 0) ∧ True) := ⟨H3.out.1.trans E4, H3.out.2.1.ext E4, trivial⟩
     clear E4 zd d0' d1' d2' d3' df0 df1 df2 df3
     obtain ⟨zr, ⟨r0, r1, r2, r3⟩, rf0, rf1, rf2, rf3⟩ := H4.out.2.1
     go_wp2_with fail
     exact fin4 r0 r1 r2 r3 rfl (by simp) H4.out.1 (fun W g0 g1 g2 g3 => by simp [results, Tryz.results12, go_sem, g0, g1, g2, g3]) (fun W h => ⟨rfl, h⟩)
 · have HX : ansV (xCall [77, 79, 68] l) = .err x := by
     show ansV (xMod l) = _
     unfold xMod
     rw [sg_of h0, nuR_no hx]
     exact mkErr_is ho
   rw [HX]
   rw [hx] at cX
   simp only [V.dat] at cX
   generalize sgl a0 = v0 at *
   clear hn hz hk k2 k3 hF h0 o0 hs HX hx h1 o1
   clear c1
   clear ho
   go_enter Tryz.func12, Tryz.ntmps12
   go_wp2_with fail
   refine (cK _).mono ?_
   rintro e wk ⟨rfl, rfl⟩
   go_wp2_with fail
   refine (c0 _ ((Ext.refl _).alloc _)).mono ?_
   rintro e w1 ⟨rfl, E1⟩
   have H1 : Hid (Ext W w1 ∧ Blk w1 W.heap.size (.int .i64 0) (.int .i64 0) (.string ⟨#[]⟩) (.int .i64 0)) := ⟨((Ext.refl _).alloc _).trans E1, blk_top (by simp) E1⟩
   clear E1
   have HW : Hid (W.heap.size < w1.heap.size) := H1.out.2.1
   go_wp2_with fail
   refine (cX _).mono ?_
   rintro e w2 ⟨rfl, E2⟩
   have H2 : Hid (Ext W w2 ∧ Blk w2 W.heap.size (.int .i64 0) (.int .i64 0) (.string ⟨#[]⟩) (.int .i64 0) ∧ Blk w2 w1.heap.size (.int .i64 v0.k) (.int .i64 v0.n) (.string v0.s) (.int .i64 v0.e)) := ⟨(H1.out.1.alloc _).trans E2, (H1.out.2.al _).ext E2, blk_top (by simp) E2⟩
   clear E2
   obtain ⟨zd, ⟨d0', d1', d2', d3'⟩, df0, df1, df2, df3⟩ := H2.out.2.2
   go_upto_region 23 with fail
   have H3 : Hid (Ext W ((((w2.setCell ⟨w1.heap.size, 0, none⟩ (.int .i64 4)).setCell ⟨w1.heap.size, 1, none⟩ (.int .i64 0)).setCell ⟨w1.heap.size, 2, none⟩ (.string ⟨#[]⟩)).setCell ⟨w1.heap.size, 3, none⟩ (.int .i64 x)) ∧ Blk ((((w2.setCell ⟨w1.heap.size, 0, none⟩ (.int .i64 4)).setCell ⟨w1.heap.size, 1, none⟩ (.int .i64 0)).setCell ⟨w1.heap.size, 2, none⟩ (.string ⟨#[]⟩)).setCell ⟨w1.heap.size, 3, none⟩ (.int .i64 x)) W.heap.size (.int .i64 0) (.int .i64 0) (.string ⟨#[]⟩) (.int .i64 0) ∧ Blk ((((w2.setCell ⟨w1.heap.size, 0, none⟩ (.int .i64 4)).setCell ⟨w1.heap.size, 1, none⟩ (.int .i64 0)).setCell ⟨w1.heap.size, 2, none⟩ (.string ⟨#[]⟩)).setCell ⟨w1.heap.size, 3, none⟩ (.int .i64 x)) w1.heap.size (.int .i64 4) (.int .i64 0) (.string ⟨#[]⟩) (.int .i64 x)) := ⟨(((H2.out.1.setCell (p := ⟨w1.heap.size, 0, none⟩) (Nat.le_of_lt HW.out) _).setCell (p := ⟨w1.heap.size, 1, none⟩) (Nat.le_of_lt HW.out) _).setCell (p := ⟨w1.heap.size, 2, none⟩) (Nat.le_of_lt HW.out) _).setCell (p := ⟨w1.heap.size, 3, none⟩) (Nat.le_of_lt HW.out) _, H2.out.2.1.far (Ne.symm (Nat.ne_of_lt HW.out)) _ _ _ _, H2.out.2.2.set _ _ _ _⟩
   clear zd d0' d1' d2' d3' df0 df1 df2 df3
   generalize (((w2.setCell ⟨w1.heap.size, 0, none⟩ (.int .i64 4)).setCell ⟨w1.heap.size, 1, none⟩ (.int .i64 0)).setCell ⟨w1.heap.size, 2, none⟩ (.string ⟨#[]⟩)).setCell ⟨w1.heap.size, 3, none⟩ (.int .i64 x) = w3 at *
   obtain ⟨zd, ⟨d0', d1', d2', d3'⟩, df0, df1, df2, df3⟩ := H3.out.2.2
   obtain ⟨zr, ⟨r0, r1, r2, r3⟩, rf0, rf1, rf2, rf3⟩ := H3.out.2.1
   go_wp2_with fail
   exact fin4 r0 r1 r2 r3 rfl (by simp) H3.out.1 (fun W g0 g1 g2 g3 => by simp [results, Tryz.results12, go_sem, g0, g1, g2, g3]) (fun W h => ⟨rfl, h⟩)

set_option maxRecDepth 100000 in
theorem rc_FLOOR (s : ByteArray) (hs : s.data.toList = [70, 76, 79, 79, 82]) (l : List Bg) (hk : okN [70, 76, 79, 79, 82] l.length = true) (p : Option Addr) (n c : Nat) (W : World) (hF : FitB W (.slice p n c) l) :
   Calls Tryz.prog 12 #[.string s, .slice p n c] W fun e w' => e = .returned (.agg #[.int .i64 (ansV (xCall [70, 76, 79, 79, 82] l)).k, .int .i64 (ansV (xCall [70, 76, 79, 79, 82] l)).n, .string (ansV (xCall [70, 76, 79, 79, 82] l)).s, .int .i64 (ansV (xCall [70, 76, 79, 79, 82] l)).e]) ∧ Ext W w' := by
 have cK : ∀ W, Calls Tryz.prog 23 #[.string s] W fun e w' => e = .returned (.tuple #[.int .i64 1, .int .i64 1, .bool true]) ∧ w' = W := fun W => by
   have := rknown_any s W
   rw [hs] at this
   exact this
 have hn := hF.rd.len
 have hz := hF.z
 obtain ⟨_, k2, k3⟩ := okN_is hk
 rw [show knA [70, 76, 79, 79, 82] = 1 from rfl] at k2
 rw [show knB [70, 76, 79, 79, 82] = 1 from rfl] at k3
 have n2 : (n : Int) ≤ 1500000 := by omega
 have d1 : ¬ (n : Int) < 1 := by omega
 have d2 : ¬ (n : Int) > 1 := by omega
 have d3 : ((1 : Int) == 20) = false := rfl
 obtain ⟨a0, h0⟩ := at_some (l := l) (i := 0) (by omega)
 have o0 : (sgl a0).ok := by have := hF.ok 0; rwa [sg_of h0] at this
 have c0 := fun V (e : Ext W V) => rarg_any l 0 a0 h0 p n c V (hF.ext e)
 have cX := fun V => rtonum_any (sgl a0).k (sgl a0).n (sgl a0).s (sgl a0).e V (nm_of _ o0).2
 rw [(nm_of _ o0).1] at cX
 have hl : s.toList = [70, 76, 79, 79, 82] := by rw [ByteArray.toList_eq]; exact hs
 have e0 : (s.toList == [73, 78, 68, 69, 88]) = false := by rw [hl]; decide
 have e1 : (s.toList == [73, 83, 69, 82, 82, 79, 82]) = false := by rw [hl]; decide
 have e2 : (s.toList == [73, 70, 69, 82, 82, 79, 82]) = false := by rw [hl]; decide
 have e3 : (s.toList == [73, 70]) = false := by rw [hl]; decide
 have e4 : (s.toList == [78, 79, 84]) = false := by rw [hl]; decide
 have e5 : (s.toList == [76, 69, 78]) = false := by rw [hl]; decide
 have e6 : (s.toList == [76, 69, 70, 84]) = false := by rw [hl]; decide
 clear hl
 rcases toNum_cases (sgl a0) o0 with ⟨a, hx, hI, hC⟩ | ⟨x, hx, ho⟩
 · have HX : ansV (xCall [70, 76, 79, 79, 82] l) = toldR (floorB a) (floorV a) := by
     show ansV (xFloor l) = _
     unfold xFloor
     rw [sg_of h0, nuR_ok hx]
     exact tol_ans _ _ (floorV_i a hI)
   rw [HX]
   rw [hx] at cX
   simp only [V.dat] at cX
   have cO := fun V => rof_floor s hs a hI p n c V
   generalize toldR (floorB a) (floorV a) = v at *
   generalize sgl a0 = v0 at *
   clear hn hz hk k2 k3 hF h0 o0 hs HX hx
   clear hI hC
   go_enter Tryz.func12, Tryz.ntmps12
   go_wp2_with fail
   refine (cK _).mono ?_
   rintro e wk ⟨rfl, rfl⟩
   go_wp2_with fail
   refine (c0 _ ((Ext.refl _).alloc _)).mono ?_
   rintro e w1 ⟨rfl, E1⟩
   have H1 : Hid (Ext W w1 ∧ Blk w1 W.heap.size (.int .i64 0) (.int .i64 0) (.string ⟨#[]⟩) (.int .i64 0)) := ⟨((Ext.refl _).alloc _).trans E1, blk_top (by simp) E1⟩
   clear E1
   have HW : Hid (W.heap.size < w1.heap.size) := H1.out.2.1
   go_wp2_with fail
   refine (cX _).mono ?_
   rintro e w2 ⟨rfl, E2⟩
   have H2 : Hid (Ext W w2 ∧ Blk w2 W.heap.size (.int .i64 0) (.int .i64 0) (.string ⟨#[]⟩) (.int .i64 0) ∧ Blk w2 w1.heap.size (.int .i64 v0.k) (.int .i64 v0.n) (.string v0.s) (.int .i64 v0.e)) := ⟨(H1.out.1.alloc _).trans E2, (H1.out.2.al _).ext E2, blk_top (by simp) E2⟩
   clear E2
   obtain ⟨zd, ⟨d0', d1', d2', d3'⟩, df0, df1, df2, df3⟩ := H2.out.2.2
   go_upto_region 23 with fail
   have H3 : Hid (Ext W ((((w2.setCell ⟨w1.heap.size, 0, none⟩ (.int .i64 2)).setCell ⟨w1.heap.size, 1, none⟩ (.int .i64 a)).setCell ⟨w1.heap.size, 2, none⟩ (.string ⟨#[]⟩)).setCell ⟨w1.heap.size, 3, none⟩ (.int .i64 0)) ∧ Blk ((((w2.setCell ⟨w1.heap.size, 0, none⟩ (.int .i64 2)).setCell ⟨w1.heap.size, 1, none⟩ (.int .i64 a)).setCell ⟨w1.heap.size, 2, none⟩ (.string ⟨#[]⟩)).setCell ⟨w1.heap.size, 3, none⟩ (.int .i64 0)) W.heap.size (.int .i64 0) (.int .i64 0) (.string ⟨#[]⟩) (.int .i64 0) ∧ Blk ((((w2.setCell ⟨w1.heap.size, 0, none⟩ (.int .i64 2)).setCell ⟨w1.heap.size, 1, none⟩ (.int .i64 a)).setCell ⟨w1.heap.size, 2, none⟩ (.string ⟨#[]⟩)).setCell ⟨w1.heap.size, 3, none⟩ (.int .i64 0)) w1.heap.size (.int .i64 2) (.int .i64 a) (.string ⟨#[]⟩) (.int .i64 0)) := ⟨(((H2.out.1.setCell (p := ⟨w1.heap.size, 0, none⟩) (Nat.le_of_lt HW.out) _).setCell (p := ⟨w1.heap.size, 1, none⟩) (Nat.le_of_lt HW.out) _).setCell (p := ⟨w1.heap.size, 2, none⟩) (Nat.le_of_lt HW.out) _).setCell (p := ⟨w1.heap.size, 3, none⟩) (Nat.le_of_lt HW.out) _, H2.out.2.1.far (Ne.symm (Nat.ne_of_lt HW.out)) _ _ _ _, H2.out.2.2.set _ _ _ _⟩
   clear zd d0' d1' d2' d3' df0 df1 df2 df3
   generalize (((w2.setCell ⟨w1.heap.size, 0, none⟩ (.int .i64 2)).setCell ⟨w1.heap.size, 1, none⟩ (.int .i64 a)).setCell ⟨w1.heap.size, 2, none⟩ (.string ⟨#[]⟩)).setCell ⟨w1.heap.size, 3, none⟩ (.int .i64 0) = w3 at *
   obtain ⟨zd, ⟨d0', d1', d2', d3'⟩, df0, df1, df2, df3⟩ := H3.out.2.2
   go_wp2_with fail
   refine (cO _).mono ?_
   rintro e w4 ⟨rfl, E4⟩
   have H4 : Hid (Ext W w4 ∧ Blk w4 W.heap.size (.int .i64 0) (.int .i64 0) (.string ⟨#[]⟩) (.int .i64 0) ∧ True) := ⟨H3.out.1.trans E4, H3.out.2.1.ext E4, trivial⟩
   clear E4 zd d0' d1' d2' d3' df0 df1 df2 df3
   obtain ⟨zr, ⟨r0, r1, r2, r3⟩, rf0, rf1, rf2, rf3⟩ := H4.out.2.1
   go_wp2_with fail
   exact fin4 r0 r1 r2 r3 rfl (by simp) H4.out.1 (fun W g0 g1 g2 g3 => by simp [results, Tryz.results12, go_sem, g0, g1, g2, g3]) (fun W h => ⟨rfl, h⟩)
 · have HX : ansV (xCall [70, 76, 79, 79, 82] l) = .err x := by
     show ansV (xFloor l) = _
     unfold xFloor
     rw [sg_of h0, nuR_no hx]
     exact mkErr_is ho
   rw [HX]
   rw [hx] at cX
   simp only [V.dat] at cX
   generalize sgl a0 = v0 at *
   clear hn hz hk k2 k3 hF h0 o0 hs HX hx
   clear ho
   go_enter Tryz.func12, Tryz.ntmps12
   go_wp2_with fail
   refine (cK _).mono ?_
   rintro e wk ⟨rfl, rfl⟩
   go_wp2_with fail
   refine (c0 _ ((Ext.refl _).alloc _)).mono ?_
   rintro e w1 ⟨rfl, E1⟩
   have H1 : Hid (Ext W w1 ∧ Blk w1 W.heap.size (.int .i64 0) (.int .i64 0) (.string ⟨#[]⟩) (.int .i64 0)) := ⟨((Ext.refl _).alloc _).trans E1, blk_top (by simp) E1⟩
   clear E1
   have HW : Hid (W.heap.size < w1.heap.size) := H1.out.2.1
   go_wp2_with fail
   refine (cX _).mono ?_
   rintro e w2 ⟨rfl, E2⟩
   have H2 : Hid (Ext W w2 ∧ Blk w2 W.heap.size (.int .i64 0) (.int .i64 0) (.string ⟨#[]⟩) (.int .i64 0) ∧ Blk w2 w1.heap.size (.int .i64 v0.k) (.int .i64 v0.n) (.string v0.s) (.int .i64 v0.e)) := ⟨(H1.out.1.alloc _).trans E2, (H1.out.2.al _).ext E2, blk_top (by simp) E2⟩
   clear E2
   obtain ⟨zd, ⟨d0', d1', d2', d3'⟩, df0, df1, df2, df3⟩ := H2.out.2.2
   go_upto_region 23 with fail
   have H3 : Hid (Ext W ((((w2.setCell ⟨w1.heap.size, 0, none⟩ (.int .i64 4)).setCell ⟨w1.heap.size, 1, none⟩ (.int .i64 0)).setCell ⟨w1.heap.size, 2, none⟩ (.string ⟨#[]⟩)).setCell ⟨w1.heap.size, 3, none⟩ (.int .i64 x)) ∧ Blk ((((w2.setCell ⟨w1.heap.size, 0, none⟩ (.int .i64 4)).setCell ⟨w1.heap.size, 1, none⟩ (.int .i64 0)).setCell ⟨w1.heap.size, 2, none⟩ (.string ⟨#[]⟩)).setCell ⟨w1.heap.size, 3, none⟩ (.int .i64 x)) W.heap.size (.int .i64 0) (.int .i64 0) (.string ⟨#[]⟩) (.int .i64 0) ∧ Blk ((((w2.setCell ⟨w1.heap.size, 0, none⟩ (.int .i64 4)).setCell ⟨w1.heap.size, 1, none⟩ (.int .i64 0)).setCell ⟨w1.heap.size, 2, none⟩ (.string ⟨#[]⟩)).setCell ⟨w1.heap.size, 3, none⟩ (.int .i64 x)) w1.heap.size (.int .i64 4) (.int .i64 0) (.string ⟨#[]⟩) (.int .i64 x)) := ⟨(((H2.out.1.setCell (p := ⟨w1.heap.size, 0, none⟩) (Nat.le_of_lt HW.out) _).setCell (p := ⟨w1.heap.size, 1, none⟩) (Nat.le_of_lt HW.out) _).setCell (p := ⟨w1.heap.size, 2, none⟩) (Nat.le_of_lt HW.out) _).setCell (p := ⟨w1.heap.size, 3, none⟩) (Nat.le_of_lt HW.out) _, H2.out.2.1.far (Ne.symm (Nat.ne_of_lt HW.out)) _ _ _ _, H2.out.2.2.set _ _ _ _⟩
   clear zd d0' d1' d2' d3' df0 df1 df2 df3
   generalize (((w2.setCell ⟨w1.heap.size, 0, none⟩ (.int .i64 4)).setCell ⟨w1.heap.size, 1, none⟩ (.int .i64 0)).setCell ⟨w1.heap.size, 2, none⟩ (.string ⟨#[]⟩)).setCell ⟨w1.heap.size, 3, none⟩ (.int .i64 x) = w3 at *
   obtain ⟨zd, ⟨d0', d1', d2', d3'⟩, df0, df1, df2, df3⟩ := H3.out.2.2
   obtain ⟨zr, ⟨r0, r1, r2, r3⟩, rf0, rf1, rf2, rf3⟩ := H3.out.2.1
   go_wp2_with fail
   exact fin4 r0 r1 r2 r3 rfl (by simp) H3.out.1 (fun W g0 g1 g2 g3 => by simp [results, Tryz.results12, go_sem, g0, g1, g2, g3]) (fun W h => ⟨rfl, h⟩)

set_option maxRecDepth 100000 in
theorem rc_SQRT (s : ByteArray) (hs : s.data.toList = [83, 81, 82, 84]) (l : List Bg) (hk : okN [83, 81, 82, 84] l.length = true) (p : Option Addr) (n c : Nat) (W : World) (hF : FitB W (.slice p n c) l) :
   Calls Tryz.prog 12 #[.string s, .slice p n c] W fun e w' => e = .returned (.agg #[.int .i64 (ansV (xCall [83, 81, 82, 84] l)).k, .int .i64 (ansV (xCall [83, 81, 82, 84] l)).n, .string (ansV (xCall [83, 81, 82, 84] l)).s, .int .i64 (ansV (xCall [83, 81, 82, 84] l)).e]) ∧ Ext W w' := by
 have cK : ∀ W, Calls Tryz.prog 23 #[.string s] W fun e w' => e = .returned (.tuple #[.int .i64 1, .int .i64 1, .bool true]) ∧ w' = W := fun W => by
   have := rknown_any s W
   rw [hs] at this
   exact this
 have hn := hF.rd.len
 have hz := hF.z
 obtain ⟨_, k2, k3⟩ := okN_is hk
 rw [show knA [83, 81, 82, 84] = 1 from rfl] at k2
 rw [show knB [83, 81, 82, 84] = 1 from rfl] at k3
 have n2 : (n : Int) ≤ 1500000 := by omega
 have d1 : ¬ (n : Int) < 1 := by omega
 have d2 : ¬ (n : Int) > 1 := by omega
 have d3 : ((1 : Int) == 20) = false := rfl
 obtain ⟨a0, h0⟩ := at_some (l := l) (i := 0) (by omega)
 have o0 : (sgl a0).ok := by have := hF.ok 0; rwa [sg_of h0] at this
 have c0 := fun V (e : Ext W V) => rarg_any l 0 a0 h0 p n c V (hF.ext e)
 have cX := fun V => rtonum_any (sgl a0).k (sgl a0).n (sgl a0).s (sgl a0).e V (nm_of _ o0).2
 rw [(nm_of _ o0).1] at cX
 have hl : s.toList = [83, 81, 82, 84] := by rw [ByteArray.toList_eq]; exact hs
 have e0 : (s.toList == [73, 78, 68, 69, 88]) = false := by rw [hl]; decide
 have e1 : (s.toList == [73, 83, 69, 82, 82, 79, 82]) = false := by rw [hl]; decide
 have e2 : (s.toList == [73, 70, 69, 82, 82, 79, 82]) = false := by rw [hl]; decide
 have e3 : (s.toList == [73, 70]) = false := by rw [hl]; decide
 have e4 : (s.toList == [78, 79, 84]) = false := by rw [hl]; decide
 have e5 : (s.toList == [76, 69, 78]) = false := by rw [hl]; decide
 have e6 : (s.toList == [76, 69, 70, 84]) = false := by rw [hl]; decide
 clear hl
 rcases toNum_cases (sgl a0) o0 with ⟨a, hx, hI, hC⟩ | ⟨x, hx, ho⟩
 · have HX : ansV (xCall [83, 81, 82, 84] l) = toldR (rootB a) (rootV a) := by
     show ansV (xSqrt l) = _
     unfold xSqrt
     rw [sg_of h0, nuR_ok hx]
     exact tol_ans _ _ (rootV_i a hI)
   rw [HX]
   rw [hx] at cX
   simp only [V.dat] at cX
   have cO := fun V => rof_sqrt s hs a hI p n c V
   generalize toldR (rootB a) (rootV a) = v at *
   generalize sgl a0 = v0 at *
   clear hn hz hk k2 k3 hF h0 o0 hs HX hx
   clear hI hC
   go_enter Tryz.func12, Tryz.ntmps12
   go_wp2_with fail
   refine (cK _).mono ?_
   rintro e wk ⟨rfl, rfl⟩
   go_wp2_with fail
   refine (c0 _ ((Ext.refl _).alloc _)).mono ?_
   rintro e w1 ⟨rfl, E1⟩
   have H1 : Hid (Ext W w1 ∧ Blk w1 W.heap.size (.int .i64 0) (.int .i64 0) (.string ⟨#[]⟩) (.int .i64 0)) := ⟨((Ext.refl _).alloc _).trans E1, blk_top (by simp) E1⟩
   clear E1
   have HW : Hid (W.heap.size < w1.heap.size) := H1.out.2.1
   go_wp2_with fail
   refine (cX _).mono ?_
   rintro e w2 ⟨rfl, E2⟩
   have H2 : Hid (Ext W w2 ∧ Blk w2 W.heap.size (.int .i64 0) (.int .i64 0) (.string ⟨#[]⟩) (.int .i64 0) ∧ Blk w2 w1.heap.size (.int .i64 v0.k) (.int .i64 v0.n) (.string v0.s) (.int .i64 v0.e)) := ⟨(H1.out.1.alloc _).trans E2, (H1.out.2.al _).ext E2, blk_top (by simp) E2⟩
   clear E2
   obtain ⟨zd, ⟨d0', d1', d2', d3'⟩, df0, df1, df2, df3⟩ := H2.out.2.2
   go_upto_region 23 with fail
   have H3 : Hid (Ext W ((((w2.setCell ⟨w1.heap.size, 0, none⟩ (.int .i64 2)).setCell ⟨w1.heap.size, 1, none⟩ (.int .i64 a)).setCell ⟨w1.heap.size, 2, none⟩ (.string ⟨#[]⟩)).setCell ⟨w1.heap.size, 3, none⟩ (.int .i64 0)) ∧ Blk ((((w2.setCell ⟨w1.heap.size, 0, none⟩ (.int .i64 2)).setCell ⟨w1.heap.size, 1, none⟩ (.int .i64 a)).setCell ⟨w1.heap.size, 2, none⟩ (.string ⟨#[]⟩)).setCell ⟨w1.heap.size, 3, none⟩ (.int .i64 0)) W.heap.size (.int .i64 0) (.int .i64 0) (.string ⟨#[]⟩) (.int .i64 0) ∧ Blk ((((w2.setCell ⟨w1.heap.size, 0, none⟩ (.int .i64 2)).setCell ⟨w1.heap.size, 1, none⟩ (.int .i64 a)).setCell ⟨w1.heap.size, 2, none⟩ (.string ⟨#[]⟩)).setCell ⟨w1.heap.size, 3, none⟩ (.int .i64 0)) w1.heap.size (.int .i64 2) (.int .i64 a) (.string ⟨#[]⟩) (.int .i64 0)) := ⟨(((H2.out.1.setCell (p := ⟨w1.heap.size, 0, none⟩) (Nat.le_of_lt HW.out) _).setCell (p := ⟨w1.heap.size, 1, none⟩) (Nat.le_of_lt HW.out) _).setCell (p := ⟨w1.heap.size, 2, none⟩) (Nat.le_of_lt HW.out) _).setCell (p := ⟨w1.heap.size, 3, none⟩) (Nat.le_of_lt HW.out) _, H2.out.2.1.far (Ne.symm (Nat.ne_of_lt HW.out)) _ _ _ _, H2.out.2.2.set _ _ _ _⟩
   clear zd d0' d1' d2' d3' df0 df1 df2 df3
   generalize (((w2.setCell ⟨w1.heap.size, 0, none⟩ (.int .i64 2)).setCell ⟨w1.heap.size, 1, none⟩ (.int .i64 a)).setCell ⟨w1.heap.size, 2, none⟩ (.string ⟨#[]⟩)).setCell ⟨w1.heap.size, 3, none⟩ (.int .i64 0) = w3 at *
   obtain ⟨zd, ⟨d0', d1', d2', d3'⟩, df0, df1, df2, df3⟩ := H3.out.2.2
   go_wp2_with fail
   refine (cO _).mono ?_
   rintro e w4 ⟨rfl, E4⟩
   have H4 : Hid (Ext W w4 ∧ Blk w4 W.heap.size (.int .i64 0) (.int .i64 0) (.string ⟨#[]⟩) (.int .i64 0) ∧ True) := ⟨H3.out.1.trans E4, H3.out.2.1.ext E4, trivial⟩
   clear E4 zd d0' d1' d2' d3' df0 df1 df2 df3
   obtain ⟨zr, ⟨r0, r1, r2, r3⟩, rf0, rf1, rf2, rf3⟩ := H4.out.2.1
   go_wp2_with fail
   exact fin4 r0 r1 r2 r3 rfl (by simp) H4.out.1 (fun W g0 g1 g2 g3 => by simp [results, Tryz.results12, go_sem, g0, g1, g2, g3]) (fun W h => ⟨rfl, h⟩)
 · have HX : ansV (xCall [83, 81, 82, 84] l) = .err x := by
     show ansV (xSqrt l) = _
     unfold xSqrt
     rw [sg_of h0, nuR_no hx]
     exact mkErr_is ho
   rw [HX]
   rw [hx] at cX
   simp only [V.dat] at cX
   generalize sgl a0 = v0 at *
   clear hn hz hk k2 k3 hF h0 o0 hs HX hx
   clear ho
   go_enter Tryz.func12, Tryz.ntmps12
   go_wp2_with fail
   refine (cK _).mono ?_
   rintro e wk ⟨rfl, rfl⟩
   go_wp2_with fail
   refine (c0 _ ((Ext.refl _).alloc _)).mono ?_
   rintro e w1 ⟨rfl, E1⟩
   have H1 : Hid (Ext W w1 ∧ Blk w1 W.heap.size (.int .i64 0) (.int .i64 0) (.string ⟨#[]⟩) (.int .i64 0)) := ⟨((Ext.refl _).alloc _).trans E1, blk_top (by simp) E1⟩
   clear E1
   have HW : Hid (W.heap.size < w1.heap.size) := H1.out.2.1
   go_wp2_with fail
   refine (cX _).mono ?_
   rintro e w2 ⟨rfl, E2⟩
   have H2 : Hid (Ext W w2 ∧ Blk w2 W.heap.size (.int .i64 0) (.int .i64 0) (.string ⟨#[]⟩) (.int .i64 0) ∧ Blk w2 w1.heap.size (.int .i64 v0.k) (.int .i64 v0.n) (.string v0.s) (.int .i64 v0.e)) := ⟨(H1.out.1.alloc _).trans E2, (H1.out.2.al _).ext E2, blk_top (by simp) E2⟩
   clear E2
   obtain ⟨zd, ⟨d0', d1', d2', d3'⟩, df0, df1, df2, df3⟩ := H2.out.2.2
   go_upto_region 23 with fail
   have H3 : Hid (Ext W ((((w2.setCell ⟨w1.heap.size, 0, none⟩ (.int .i64 4)).setCell ⟨w1.heap.size, 1, none⟩ (.int .i64 0)).setCell ⟨w1.heap.size, 2, none⟩ (.string ⟨#[]⟩)).setCell ⟨w1.heap.size, 3, none⟩ (.int .i64 x)) ∧ Blk ((((w2.setCell ⟨w1.heap.size, 0, none⟩ (.int .i64 4)).setCell ⟨w1.heap.size, 1, none⟩ (.int .i64 0)).setCell ⟨w1.heap.size, 2, none⟩ (.string ⟨#[]⟩)).setCell ⟨w1.heap.size, 3, none⟩ (.int .i64 x)) W.heap.size (.int .i64 0) (.int .i64 0) (.string ⟨#[]⟩) (.int .i64 0) ∧ Blk ((((w2.setCell ⟨w1.heap.size, 0, none⟩ (.int .i64 4)).setCell ⟨w1.heap.size, 1, none⟩ (.int .i64 0)).setCell ⟨w1.heap.size, 2, none⟩ (.string ⟨#[]⟩)).setCell ⟨w1.heap.size, 3, none⟩ (.int .i64 x)) w1.heap.size (.int .i64 4) (.int .i64 0) (.string ⟨#[]⟩) (.int .i64 x)) := ⟨(((H2.out.1.setCell (p := ⟨w1.heap.size, 0, none⟩) (Nat.le_of_lt HW.out) _).setCell (p := ⟨w1.heap.size, 1, none⟩) (Nat.le_of_lt HW.out) _).setCell (p := ⟨w1.heap.size, 2, none⟩) (Nat.le_of_lt HW.out) _).setCell (p := ⟨w1.heap.size, 3, none⟩) (Nat.le_of_lt HW.out) _, H2.out.2.1.far (Ne.symm (Nat.ne_of_lt HW.out)) _ _ _ _, H2.out.2.2.set _ _ _ _⟩
   clear zd d0' d1' d2' d3' df0 df1 df2 df3
   generalize (((w2.setCell ⟨w1.heap.size, 0, none⟩ (.int .i64 4)).setCell ⟨w1.heap.size, 1, none⟩ (.int .i64 0)).setCell ⟨w1.heap.size, 2, none⟩ (.string ⟨#[]⟩)).setCell ⟨w1.heap.size, 3, none⟩ (.int .i64 x) = w3 at *
   obtain ⟨zd, ⟨d0', d1', d2', d3'⟩, df0, df1, df2, df3⟩ := H3.out.2.2
   obtain ⟨zr, ⟨r0, r1, r2, r3⟩, rf0, rf1, rf2, rf3⟩ := H3.out.2.1
   go_wp2_with fail
   exact fin4 r0 r1 r2 r3 rfl (by simp) H3.out.1 (fun W g0 g1 g2 g3 => by simp [results, Tryz.results12, go_sem, g0, g1, g2, g3]) (fun W h => ⟨rfl, h⟩)
end Go.Proofs.YtalejeknigbhjaaGreatDoor

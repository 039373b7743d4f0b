/-
  RealMeans is proved: for every slice of uint64 the call returns true and the argument reads as it did. No condition but the form's own reach.
-/
import Derived.Test.YtbonaldlljdaoaaMeanF
import Derived.ProofKit
import Derived.OpenShut
import Derived.ChangeOld
import Derived.SizedLaws
import Derived.Lib.SmallJoins
namespace Go.Proofs.Ytbonaldlljdaoaa.realMeans
open Go.ChangeShapes Go.WideShapes Go.ChangeAt Go.RowKit Go.Joins
set_option maxHeartbeats 2000000

theorem own : ownKnob Try.prog.godebug = none := by kernel_rfl
theorem laidOut : laidOutB Try.prog = true := by kernel_rfl
theorem bytesInt : Try.prog.bytesOf 22 = 8 := by kernel_rfl
/-- What the walk is told of a slice of integers that came in. -/
def IsRow (k : IntKind) (w : World) (a : Option Addr) (len cap : Nat) (zs : List Int) : Prop :=
  (a = none ∧ len = 0 ∧ cap = 0 ∧ zs = []) ∨
  ∃ x, a = some x ∧ len ≤ cap ∧ cap ≤ maxLen ∧ zs.length = cap ∧ (∀ i, i < zs.length → w.cell? (x.add i) = some (.int k (zs.getD i 0))) ∧ ∀ n ∈ zs, (Lit.int k n).wf = true

theorem walk_some (b o n c : Nat) (l : List Nat) (w : World) (hn0 : 0 < n) (hn : n ≤ 140737488351232) (hc : n ≤ c) (hb : b < w.heap.size) (hlen : l.length = min n 60) (hw : ∀ x ∈ l, x < 18446744073709551616)
    (hcell : ∀ i x, l[i]? = some x → w.cell? ⟨b, o + i, none⟩ = some (.int .u64 (x : Nat))) :
    Calls Try.prog 7 #[.slice (some ⟨b, o, none⟩) n c] w fun e w' => e = .returned (.bool true) ∧ Ext w w' := by
  have hl60 : l.length ≤ 60 := by omega
  have HR : Hid (∀ W, Ext w W → RowN W (.slice (some ⟨b, o, none⟩) l.length c) l) := fun W e => RowN.ext (.inr ⟨b, o, c, rfl, hb, hcell⟩) e
  have HC : Hid (∀ W, Ext w W → ∀ i x, l[i]? = some x → W.cell? ⟨b, o + i, none⟩ = some (wordV x)) := fun W e i x hx => (e.cell.1 b (o + i) hb).trans (hcell i x hx)
  have HP : Hid (∀ W v, RowN W v l → Calls Try.prog 20 #[v] W fun e w' => e = .returned (.int .u64 (meanW l : Nat)) ∧ Ext W w') := fun W v h => mean_any l v W h (by omega)
  have HQ : Hid (∀ W v, RowN W v l → Calls Try.prog 21 #[v] W fun e w' => e = .returned (.int .u64 (meanW l : Nat)) ∧ Ext W w') := fun W v h => rmean_any l v W h hl60 hw
  generalize meanW l = M at *
  have hnI : (n : Int) ≤ 140737488351232 := by omega
  have hcI : (n : Int) ≤ (c : Int) := by omega
  clear hcell hw
  by_cases g : (60 : Int) < (n : Int)
  · have hL : l.length = 60 := by omega
    have HL : Hid (l.length = 60) := hL
    have h60 : (60 : Int) ≤ (c : Int) := by omega
    rw [hL] at HR
    clear hlen hL hl60
    go_enter Try.func7, Try.ntmps7
    go_wp2_with (at_builtin; refine ownN_append _ w _ _ _ (.slice (some ⟨b, o, none⟩) 60 c) [] l rfl rfl (by rfl) (by rfl) (ownN_new w w (Nat.le_refl _)) b o c (by rw [HL.out]) (HC.out _ ((Ext.refl _).alloc _)) (by have := HL.out; simp; omega) ((Ext.refl _).alloc _) ?_; intro v' W' hO' hE')
    have cP := HP.out W' v' hO'.row
    clear hO'
    go_wp2_with fail
    refine cP.mono ?_
    rintro e w1 ⟨rfl, E1⟩
    have cQ := HQ.out w1 _ (HR.out w1 (hE'.trans E1))
    clear cP
    go_wp2_with fail
    refine cQ.mono ?_
    rintro e w2 ⟨rfl, E2⟩
    clear cQ
    go_wp2_with fail
    refine (lives_any _).mono ?_
    rintro e w3 ⟨rfl, E3⟩
    go_wp2
    go_ret
    exact ⟨rfl, hE'.trans (E1.trans (E2.trans E3))⟩
  · have hL : l.length = n := by omega
    have HL : Hid (l.length = n ∧ n ≤ 60) := ⟨hL, by omega⟩
    have hn60 : (n : Int) ≤ 60 := by omega
    rw [hL] at HR
    clear hlen hL hl60 g
    go_enter Try.func7, Try.ntmps7
    go_wp2_with (at_builtin; refine ownN_append _ w _ _ _ (.slice (some ⟨b, o, none⟩) n c) [] l rfl rfl (by rfl) (by rfl) (ownN_new w w (Nat.le_refl _)) b o c (by rw [HL.out.1]) (HC.out _ ((Ext.refl _).alloc _)) (by have := HL.out; simp; omega) ((Ext.refl _).alloc _) ?_; intro v' W' hO' hE')
    have cP := HP.out W' v' hO'.row
    clear hO'
    go_wp2_with fail
    refine cP.mono ?_
    rintro e w1 ⟨rfl, E1⟩
    have cQ := HQ.out w1 _ (HR.out w1 (hE'.trans E1))
    clear cP
    go_wp2_with fail
    refine cQ.mono ?_
    rintro e w2 ⟨rfl, E2⟩
    clear cQ
    go_wp2_with fail
    refine (lives_any _).mono ?_
    rintro e w3 ⟨rfl, E3⟩
    go_wp2
    go_ret
    exact ⟨rfl, hE'.trans (E1.trans (E2.trans E3))⟩
theorem walk_none (a : Option Addr) (c : Nat) (w : World) : Calls Try.prog 7 #[.slice a 0 c] w fun e w' => e = .returned (.bool true) ∧ Ext w w' := by
  have HR : Hid (∀ W, RowN W (.slice a 0 c) []) := fun W => .inl ⟨rfl, a, c, rfl⟩
  have HP : Hid (∀ W v, RowN W v [] → Calls Try.prog 20 #[v] W fun e w' => e = .returned (.int .u64 (meanW [] : Nat)) ∧ Ext W w') := fun W v h => mean_any [] v W h (by decide)
  have HQ : Hid (∀ W v, RowN W v [] → Calls Try.prog 21 #[v] W fun e w' => e = .returned (.int .u64 (meanW [] : Nat)) ∧ Ext W w') := fun W v h => rmean_any [] v W h (by decide) (by simp)
  generalize meanW [] = M at *
  cases a with
  | none =>
    go_enter Try.func7, Try.ntmps7
    go_wp2_with fail
    have cP := HP.out (w.alloc (.cells #[] 22)) (.slice (some ⟨w.heap.size, 0, none⟩) 0 0) (.inl ⟨rfl, _, _, rfl⟩)
    refine cP.mono ?_
    rintro e w1 ⟨rfl, E1⟩
    have cQ := HQ.out w1 _ (HR.out w1)
    clear cP
    go_wp2_with fail
    refine cQ.mono ?_
    rintro e w2 ⟨rfl, E2⟩
    clear cQ
    go_wp2_with fail
    refine (lives_any _).mono ?_
    rintro e w3 ⟨rfl, E3⟩
    go_wp2
    go_ret
    exact ⟨rfl, ((Ext.refl _).alloc _).trans (E1.trans (E2.trans E3))⟩
  | some p =>
    go_enter Try.func7, Try.ntmps7
    go_wp2_with fail
    have cP := HP.out (w.alloc (.cells #[] 22)) (.slice (some ⟨w.heap.size, 0, none⟩) 0 0) (.inl ⟨rfl, _, _, rfl⟩)
    refine cP.mono ?_
    rintro e w1 ⟨rfl, E1⟩
    have cQ := HQ.out w1 _ (HR.out w1)
    clear cP
    go_wp2_with fail
    refine cQ.mono ?_
    rintro e w2 ⟨rfl, E2⟩
    clear cQ
    go_wp2_with fail
    refine (lives_any _).mono ?_
    rintro e w3 ⟨rfl, E3⟩
    go_wp2
    go_ret
    exact ⟨rfl, ((Ext.refl _).alloc _).trans (E1.trans (E2.trans E3))⟩
theorem walk (a : Option Addr) (n c : Nat) (zs : List Int) (w : World) (h2 : IsRow .u64 w a n c zs) (hn : n ≤ 140737488351232) :
    Calls Try.prog 7 #[.slice a n c] w fun e w' => e = .returned (.bool true) ∧ Ext w w' := by
  rcases Nat.eq_zero_or_pos n with rfl | h0
  · exact walk_none a c w
  rcases h2 with ⟨rfl, rfl, rfl, rfl⟩ | ⟨x, rfl, hl, hm, hz, hcell, hwz⟩
  · omega
  · obtain ⟨b, off, spot⟩ := x
    have hc := hcell 0 (by omega)
    have hspot : spot = none := by simpa [Addr.add] using World.cell?_spot hc
    subst hspot
    have hc0 : w.cell? ⟨b, off, none⟩ = some (.int .u64 (zs.getD 0 0)) := by simpa [Addr.add] using hc
    have hcl : ∀ i, i < zs.length → w.cell? ⟨b, off + i, none⟩ = some (.int .u64 (zs.getD i 0)) := by
      intro i hi
      have := hcell i hi
      rcases Nat.eq_zero_or_pos i with rfl | hp
      · simpa [Addr.add] using this
      · simpa [Addr.add, Nat.ne_of_gt hp] using this
    have hu : ∀ i, i < zs.length → U64 (zs.getD i 0) := by
      intro i hi
      have : zs.getD i 0 ∈ zs := by rw [List.getD_eq_getElem?_getD, List.getElem?_eq_getElem hi]; exact List.getElem_mem hi
      exact u64_of_wf (hwz _ this)
    refine walk_some b off n c ((List.range (min n 60)).map fun i => (zs.getD i 0).toNat) w h0 hn hl (World.block_lt_of_cell? w _ hc0) (by simp) ?_ ?_
    · intro x hx
      rw [List.mem_map] at hx
      obtain ⟨i, hi, rfl⟩ := hx
      rw [List.mem_range] at hi
      have := hu i (by omega)
      obtain ⟨_, _⟩ := this
      omega
    · intro i x hx
      rw [List.getElem?_map] at hx
      by_cases hi : i < min n 60
      · rw [List.getElem?_range hi] at hx
        simp only [Option.map_some, Option.some.injEq] at hx
        subst hx
        have hi2 : i < zs.length := by omega
        rw [hcl i hi2]
        have := hu i hi2
        obtain ⟨_, _⟩ := this
        rw [Int.toNat_of_nonneg (by assumption)]
      · rw [List.getElem?_eq_none (by simp; omega)] at hx
        cases hx
set_option maxRecDepth 100000 in
theorem lifted (os : Os) (started : os.Started) (H : Type) (enc : TypeId × Value → H) :
    ReturnsInHanded {} Try.checked os 7 .any (Rows.realMeansSpec.pre6 enc Try.prog Try.f7 Rows.realMeansRow.domain false) (Rows.realMeansSpec.post enc Try.prog Try.f7 false true false false) := by
  refine returnsInHanded_of_change_sized (C := Try.checked) own started (by kernel_rfl) Try.func7
    (ChangeSpec.witness6 (enc := enc) (C := Try.checked) false ⟨#[], #[.slice none 0 0], []⟩ 8 (by kernel_rfl) (by kernel_rfl) (by kernel_rfl) (by kernel_rfl)) ?_
  intro W base args ds gs before hval0 hW hcnd hsz0 _
  have hval : ∀ (j : Nat) t v, Try.f7.params[j]? = some t → args[j]? = some v → Value.okWide Try.prog W .any base t v := hval0
  have hsz : (DataW.weightsEach Try.prog (Try.f7.params.toList ++ Rows.realMeansSpec.plain.varTypes Try.prog) (ds ++ gs)).all (· ≤ reachBytes) = true := hsz0
  have hW' := hW
  obtain ⟨p, q, hA0, hV, rfl, hfz, hnd⟩ := hW
  have hA : DataW.TrodAll enc Try.prog W 0 (fun _ => true) true Try.f7.params.toList args.toList ds p := hA0
  rw [Try.params7] at hA hval hsz
  obtain ⟨v1, vs1, d1, ds1, p1, q1, hargs, rfl, rfl, h1, r1⟩ := trodAll_cons hA
  obtain ⟨rfl, rfl, rfl⟩ := trodAll_nil r1
  obtain rfl : args = #[v1] := by cases args; simp_all
  obtain ⟨rfl, rfl⟩ := trodVars_none hV
  have k1 := h1
  have lt1 : ∀ x ∈ p1, x.block < W.heap.size := by obtain ⟨m, hm⟩ := k1; exact DataW.trod_lt m _ _ _ hm
  obtain ⟨a1, len1, cap1, rfl⟩ := okWide_slice Try.underlying39 (hval 0 39 v1 rfl rfl)
  obtain ⟨z1, w1, hn⟩ : ∃ zs, IsRow .u64 W a1 len1 cap1 zs ∧ len1 ≤ 140737488351232 := by
    obtain ⟨fuel, hf⟩ := h1
    rcases open_ints Try.underlying39 Try.underlying22 (by kernel_rfl) hf with ⟨hcs, _⟩ | ⟨x, l, c, zs, hcs, _, hl, hm, hz, hx, hcell, hwz⟩
    · simp [Value.cells] at hcs
      obtain ⟨rfl, rfl, rfl⟩ := hcs
      exact ⟨[], .inl ⟨rfl, rfl, rfl, rfl⟩, by omega⟩
    · simp [Value.cells] at hcs
      obtain ⟨rfl, rfl, rfl⟩ := hcs
      refine ⟨zs, .inr ⟨_, rfl, hl, hm, by simpa using hz, hcell, hwz⟩, ?_⟩
      simp only [Prod.mk.injEq] at hx
      obtain ⟨hd, _⟩ := hx
      rw [hd] at hsz
      have hby := sized_slice hsz (j := 0) (t := 39) (e := 22) rfl rfl Try.underlying39
      rw [bytesInt] at hby
      simp only [lits, List.length_map, List.length_take, List.length_drop, reachBytes] at hby
      simp only [if_true] at hz
      omega
  clear hA0 hval0
  refine (walk a1 len1 cap1 z1 W w1 hn).mono fun e W' ⟨he, bel⟩ => ?_
  subst he
  exact ⟨_, rfl, _, _, _, [], _, [], hW', trodAll_mk1 (shut_bool Try.underlying4 _), (trodAll_cons_mk (Below.trod laidOut (by kernel_rfl) (of_decide_eq_true (by kernel_rfl)) k1 bel lt1) trodAll_mk0), rfl, Below.frame bel _, fun h => by cases h⟩

theorem over : Rows.realMeansRow.holds Try.pinned (OpenSpec.ofChange Rows.realMeansSpec) :=
  OpenClaim.holds_of_wide 7 Try.f7 rfl rfl rfl rfl rfl rfl rfl ⟨rfl, rfl, rfl, rfl, rfl⟩ rfl rfl rfl rfl rfl (by kernel_rfl) Try.func7 (by kernel_rfl)
    (of_decide_eq_true (by kernel_rfl)) (by unfold Func.isWrapper; first | (rw [if_pos (by decide +kernel)]; kernel_rfl) | (rw [if_neg (by decide +kernel)]; exact ⟨rfl, rfl⟩))
    (fun os started H enc _ => lifted os started H enc)

theorem proved : Rows.RealMeansSaid := over
end Go.Proofs.Ytbonaldlljdaoaa.realMeans
namespace Go.Proofs.Ytbonaldlljdaoaa
theorem realMeans_holds : Rows.RealMeansSaid := realMeans.proved
end Go.Proofs.Ytbonaldlljdaoaa

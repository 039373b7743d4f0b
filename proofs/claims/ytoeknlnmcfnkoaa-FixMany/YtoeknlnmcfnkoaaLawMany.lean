/-
  FixMany is proved: for every sum, every slice of int64 and every uint8 the call returns true and the arguments read as they did. No condition but the form's own reach.
-/
import Derived.Test.YtoeknlnmcfnkoaaMany
import Derived.ProofKit
import Derived.OpenShut
import Derived.ChangeOld
import Derived.SizedLaws
import Derived.Lib.SmallJoins
namespace Go.Proofs.Ytoeknlnmcfnkoaa.fixMany
open Go.ChangeShapes Go.WideShapes Go.ChangeAt Go.RowKit Go.Joins
set_option maxHeartbeats 1000000

theorem own : ownKnob Try.prog.godebug = none := by kernel_rfl
theorem laidOut : laidOutB Try.prog = true := by kernel_rfl
theorem cellsAcc : Try.prog.cellsOf 33 = 2 := by kernel_rfl
theorem bytesInt : Try.prog.bytesOf 2 = 8 := by kernel_rfl

theorem getD_wf (zs : List Int) (h : ∀ n ∈ zs, (Lit.int .i64 n).wf = true) (i : Nat) : I64 (zs.getD i 0) := by
  by_cases hi : i < zs.length
  · have : zs.getD i 0 ∈ zs := by rw [List.getD_eq_getElem?_getD, List.getElem?_eq_getElem hi]; exact List.getElem_mem hi
    exact i64_of_wf (h _ this)
  · have : zs.getD i 0 = 0 := by rw [List.getD_eq_getElem?_getD, List.getElem?_eq_none (by omega)]; rfl
    rw [this]
    exact ⟨by omega, by omega⟩

theorem walk (hi lo : Int) (a : Option Addr) (n c : Nat) (zs : List Int) (g : Int) (w : World) (h0 : (Lit.int .i64 hi).wf = true) (h1 : (Lit.int .u64 lo).wf = true) (h2 : IsRow .i64 w a n c zs) (h3 : (Lit.int .u8 g).wf = true) (hn : n ≤ 140737488351232) :
    Calls Try.prog 8 #[.agg #[.int .i64 hi, .int .u64 lo], .slice a n c, .int .u8 g] w fun e w' => e = .returned (.bool true) ∧ Ext w w' := by
  have e1 := hiOf_mk hi lo (i64_of_wf h0) (u64_of_wf h1)
  have e2 := loOf_mk hi lo (u64_of_wf h1)
  have key := many_walk (hi * 18446744073709551616 + lo) a n c zs g w hn (u8_of_wf h3)
  rw [e1, e2] at key
  rcases h2 with ⟨rfl, rfl, rfl, rfl⟩ | ⟨x, rfl, hl, hm, hz, hcell, hwz⟩
  · exact key (fun i => ⟨by simp, by simp⟩) (fun h => absurd h (by omega))
  · refine key (getD_wf zs hwz) (fun h => ?_)
    obtain ⟨b, off, spot⟩ := x
    have hc := hcell 0 (by omega)
    have hspot : spot = none := by simpa [Addr.add] using World.cell?_spot hc
    subst hspot
    have hc0 : w.cell? ⟨b, off, none⟩ = some (.int .i64 (zs.getD 0 0)) := by simpa [Addr.add] using hc
    refine ⟨b, off, rfl, World.block_lt_of_cell? w _ hc0, fun i hi' => ?_⟩
    have := hcell i (by omega)
    rcases Nat.eq_zero_or_pos i with rfl | hp
    · simpa [Addr.add] using this
    · simpa [Addr.add, Nat.ne_of_gt hp] using this

set_option maxRecDepth 100000 in
theorem lifted (os : Os) (started : os.Started) (H : Type) (enc : TypeId × Value → H) :
    ReturnsInHanded {} Try.checked os 8 .any (Rows.fixManySpec.pre6 enc Try.prog Try.f8 Rows.fixManyRow.domain false) (Rows.fixManySpec.post enc Try.prog Try.f8 false true false false) := by
  refine returnsInHanded_of_change_sized (C := Try.checked) own started (by kernel_rfl) Try.func8
    (ChangeSpec.witness6 (enc := enc) (C := Try.checked) false ⟨#[], #[.agg #[.int .i64 0, .int .u64 0], .slice none 0 0, .int .u8 0], []⟩ 8 (by kernel_rfl) (by kernel_rfl) (by kernel_rfl) (by kernel_rfl)) ?_
  intro W base args ds gs before hval0 hW hcnd hsz0 _
  have hval : ∀ (j : Nat) t v, Try.f8.params[j]? = some t → args[j]? = some v → Value.okWide Try.prog W .any base t v := hval0
  have hsz : (DataW.weightsEach Try.prog (Try.f8.params.toList ++ Rows.fixManySpec.plain.varTypes Try.prog) (ds ++ gs)).all (· ≤ reachBytes) = true := hsz0
  have hW' := hW
  obtain ⟨p, q, hA0, hV, rfl, hfz, hnd⟩ := hW
  have hA : DataW.TrodAll enc Try.prog W 0 (fun _ => true) true Try.f8.params.toList args.toList ds p := hA0
  rw [Try.params8] at hA hval hsz
  obtain ⟨v0, vs0, d0, ds0, p0, q0, hargs, rfl, rfl, h0, r0⟩ := trodAll_cons hA
  obtain ⟨v1, vs1, d1, ds1, p1, q1, rfl, rfl, rfl, h1, r1⟩ := trodAll_cons r0
  obtain ⟨v2, vs2, d2, ds2, p2, q2, rfl, rfl, rfl, h2, r2⟩ := trodAll_cons r1
  obtain ⟨rfl, rfl, rfl⟩ := trodAll_nil r2
  obtain rfl : args = #[v0, v1, v2] := by cases args; simp_all
  obtain ⟨rfl, rfl⟩ := trodVars_none hV
  have k0 := h0
  have k1 := h1
  have lt0 : ∀ x ∈ p0, x.block < W.heap.size := by obtain ⟨m, hm⟩ := k0; exact DataW.trod_lt m _ _ _ hm
  have lt1 : ∀ x ∈ p1, x.block < W.heap.size := by obtain ⟨m, hm⟩ := k1; exact DataW.trod_lt m _ _ _ hm
  obtain ⟨c0, c1, y0, y1, m0, rfl, hd0, hp0, hy0, hy1⟩ := open_agg2 Try.underlying33 (by kernel_rfl) cellsAcc (hval 0 33 v0 rfl rfl) h0
  obtain ⟨x0, e0, hx0, wx0⟩ := DataW.trod_int Try.underlying2 hy0
  obtain ⟨x1, e1, hx1, wx1⟩ := DataW.trod_int Try.underlying30 hy1
  simp at e0 e1
  subst e0 e1
  obtain ⟨a1, len1, cap1, rfl⟩ := okWide_slice Try.underlying34 (hval 1 34 v1 rfl rfl)
  obtain ⟨z1, w1, hn⟩ : ∃ zs, IsRow .i64 W a1 len1 cap1 zs ∧ len1 ≤ 140737488351232 := by
    obtain ⟨fuel, hf⟩ := h1
    rcases open_ints Try.underlying34 Try.underlying2 (by kernel_rfl) hf with ⟨hcs, _⟩ | ⟨x, l, c, zs, hcs, _, hl, hm, hz, hx, hcell, hwz⟩
    · simp [Value.cells] at hcs
      obtain ⟨rfl, rfl, rfl⟩ := hcs
      exact ⟨[], .inl ⟨rfl, rfl, rfl, rfl⟩, by omega⟩
    · simp [Value.cells] at hcs
      obtain ⟨rfl, rfl, rfl⟩ := hcs
      refine ⟨zs, .inr ⟨_, rfl, hl, hm, by simpa using hz, hcell, hwz⟩, ?_⟩
      simp only [Prod.mk.injEq] at hx
      obtain ⟨hd, _⟩ := hx
      rw [hd] at hsz
      have hby := sized_slice hsz (j := 1) (t := 34) (e := 2) rfl rfl Try.underlying34
      rw [bytesInt] at hby
      simp only [lits, List.length_map, List.length_take, List.length_drop, reachBytes] at hby
      simp only [if_true] at hz
      omega
  obtain ⟨a2, rfl, rfl, rfl, w2⟩ := open_int Try.underlying5 (hval 2 5 v2 rfl rfl) h2
  clear hA0 hval0
  refine (walk x0 x1 a1 len1 cap1 z1 a2 W wx0 wx1 w1 w2 hn).mono fun e W' ⟨he, bel⟩ => ?_
  subst he
  exact ⟨_, rfl, _, _, _, [], _, [], hW', trodAll_mk1 (shut_bool Try.underlying4 _), (trodAll_cons_mk (Below.trod laidOut (by kernel_rfl) (of_decide_eq_true (by kernel_rfl)) k0 bel lt0) (trodAll_cons_mk (Below.trod laidOut (by kernel_rfl) (of_decide_eq_true (by kernel_rfl)) k1 bel lt1) (trodAll_cons_mk (shut_int Try.underlying5 w2) trodAll_mk0))), rfl, Below.frame bel _, fun h => by cases h⟩

theorem over : Rows.fixManyRow.holds Try.pinned (OpenSpec.ofChange Rows.fixManySpec) :=
  OpenClaim.holds_of_wide 8 Try.f8 rfl rfl rfl rfl rfl rfl rfl ⟨rfl, rfl, rfl, rfl, rfl⟩ rfl rfl rfl rfl rfl (by kernel_rfl) Try.func8 (by kernel_rfl)
    (of_decide_eq_true (by kernel_rfl)) (by unfold Func.isWrapper; first | (rw [if_pos (by decide +kernel)]; kernel_rfl) | (rw [if_neg (by decide +kernel)]; exact ⟨rfl, rfl⟩))
    (fun os started H enc _ => lifted os started H enc)

theorem proved : Rows.FixManySaid := over
end Go.Proofs.Ytoeknlnmcfnkoaa.fixMany
namespace Go.Proofs.Ytoeknlnmcfnkoaa
theorem fixMany_holds : Rows.FixManySaid := fixMany.proved
end Go.Proofs.Ytoeknlnmcfnkoaa

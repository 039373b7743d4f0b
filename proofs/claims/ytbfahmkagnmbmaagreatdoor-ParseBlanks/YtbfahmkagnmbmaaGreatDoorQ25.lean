/-
  The document's Words.
  From a list that lays the library's tables, the errors' names and the signs to their cells; a world in which they lie. No condition.
-/
import Derived.Test.YtbfahmkagnmbmaaGreatDoorQ24
import Derived.Test.YtbfahmkagnmbmaaGreatDoorQ21
import Derived.Test.YtbfahmkagnmbmaaGreatDoorQ10
import Derived.Test.YtbfahmkagnmbmaaGreatDoorQ4
import Derived.Test.YtbfahmkagnmbmaaGreatDoorRows
import Derived.ProofKit
import Derived.OpenShut
import Derived.Deep.DeepHandedRow
import Derived.Stop.LaidErr
import Derived.Lib.LaidTab
import Derived.Lib.SmallJoins
import Derived.MakeChecks
namespace Go.Proofs.YtbfahmkagnmbmaaGreatDoor
open Go.RowKit
set_option maxHeartbeats 1000000

theorem owt_new (W : World) (base : Nat) (h : base ≤ W.heap.size) : OwT (W.alloc (.cells #[] 40)) base (.slice (some ⟨W.heap.size, 0, none⟩) 0 0) [] :=
  World.ownsRow_made W #[] 0 h (by unfold maxLen; omega) (by simp)
theorem W_spz (l : List UInt8) (j : Nat) (h : j < l.length) (hc : l[j] = 32) : W j (l.drop j) = W (j + 1) (l.drop (j + 1)) := by
  rw [List.drop_eq_getElem_cons h, hc, W_blank]
theorem qwords_any (s : ByteArray) (w : World) (hs : s.size ≤ maxLen) :
    Calls Tryz.prog 19 #[.string s] w (WordsQ w s.data.toList) := by
  unfold maxLen at hs
  have hl := size_list s
  by_cases h : 300 < s.size
  · have hI : (300 : Int) < (s.size : Int) := by omega
    have HX : Hid (lexR s.data.toList = ([], 0, 2)) := by show _ = _; unfold lexR; rw [if_pos (by omega)]
    go_enter Tryz.func19, Tryz.ntmps19
    go_wp2_with fail
    go_ret3
    unfold WordsQ
    rw [HX.out]
    exact ⟨_, rfl, RdT.nil _, Ext.refl _⟩
  have hI : ¬ (300 : Int) < (s.size : Int) := by omega
  have hs3 : s.size ≤ 300 := by omega
  obtain ⟨l, hll⟩ : ∃ l, s.data.toList = l := ⟨_, rfl⟩
  have HL : Hid (l.length = s.size) := by show _ = _; rw [← hll]; exact hl
  have HG : Hid (∀ i (h : i < s.size) (h' : i < l.length), l[i] = s[i]) := by intro i h h'; subst hll; rfl
  have cN := fun k W h => qword_any s k W h hs3
  have HN : Hid (∀ k W (h : k < s.size), Calls Tryz.prog 37 #[.string s, .int .i64 (k : Int)] W fun e w' => RxR (nxt (l.drop k)) k e ∧ Ext W w') := by intro k W h; have := cN k W h; rwa [hll] at this
  have HR : Hid (∀ ts, W 0 l = .ok ts → lexR l = (ts, 0, 0)) := by intro ts h; unfold lexR; rw [if_neg (by rw [← hll]; omega), h]
  have HF : Hid (∀ p c, W 0 l = .error (p, c) → lexR l = ([], (p : Int), c)) := by intro p c h; unfold lexR; rw [if_neg (by rw [← hll]; omega), h]
  rw [hll]
  clear hl hll cN h hs
  go_enter Tryz.func19, Tryz.ntmps19
  go_wp2_with fail
  go_loopw [5, 6] (fun v x wr => ∃ (j : Nat) (acc : List Tk), x = .int .i64 (j : Int) ∧ j ≤ s.size ∧ W 0 l = (W j (l.drop j)).map (fun ts => acc ++ ts) ∧ acc.length ≤ j ∧ OwT wr w.heap.size v acc ∧ Ext w wr) (fun _ x _ => s.size - (intOf x).toNat)
  case atStart => exact ⟨0, [], rfl, Nat.zero_le _, map_nil _, Nat.le_refl _, owt_new w _ (Nat.le_refl _), (Ext.refl _).alloc _⟩
  case round =>
    obtain ⟨j, acc, rfl, hj, hW, ha, hO, hE⟩ := hrel
    have HW : Hid (W 0 l = (W j (l.drop j)).map (fun ts => acc ++ ts)) := hW
    have HA : Hid (acc.length ≤ j) := ha
    have HO : Hid (OwT wr w.heap.size u5 acc ∧ Ext w wr) := ⟨hO, hE⟩
    clear hW ha hO hE
    by_cases hlt : j < s.size
    · have hltI : (j : Int) < (s.size : Int) := by omega
      have wk : wrap64 ((j : Int) + 1) = ((j + 1 : Nat) : Int) := by unfold wrap64; omega
      have hb := byte_ne (c := s[j]) 32 (by omega)
      by_cases h1 : s[j] = 32
      · have tb : (((s[j]).toNat : Int) == 32) = true := by rw [show (32 : Int) = ((32 : Nat) : Int) from rfl, hb, h1]; rfl
        have HX : Hid (W 0 l = (W (j + 1) (l.drop (j + 1))).map (fun ts => acc ++ ts)) := by
          show _ = _; rw [HW.out, W_spz l j (by have := HL.out; omega) (by rw [HG.out j hlt]; exact h1)]
        clear hb h1
        go_wp2_with fail
        go_roundw
        case rel => exact ⟨j + 1, acc, by go_num, by omega, HX.out, by have := HA.out; omega, HO.out.1, HO.out.2⟩
        case measure => simp [intOf]; omega
      have tb : (((s[j]).toNat : Int) == 32) = false := by rw [show (32 : Int) = ((32 : Nat) : Int) from rfl, hb]; simpa using h1
      have hW2 := W_at l j (by have := HL.out; omega) (by rw [HG.out j hlt]; exact h1)
      have c1 := HN.out j wr hlt
      cases hx : nxt (l.drop j) with
      | error c =>
        have HX : Hid (lexR l = ([], (j : Int), c)) := HF.out j c (by rw [HW.out, hW2, hx]; rfl)
        have hc0 : (c != 0) = true := by
          have := nxt_code hx
          rcases this with rfl | rfl <;> rfl
        have C : Calls Tryz.prog 37 #[.string s, .int .i64 (j : Int)] wr fun e w' => e = .returned (.tuple #[.agg #[.int .i64 0, .int .i64 0, .string ⟨#[]⟩, .int .i64 0, .int .i64 0], .int .i64 (j : Int), .int .i64 c]) ∧ Ext wr w' := by rw [hx] at c1; exact c1
        clear hx c1 hW2 hb h1
        go_wp2_with fail
        refine C.mono ?_
        rintro e w1 ⟨rfl, E1⟩
        have HE1 : Hid (Ext w w1) := HO.out.2.trans E1
        clear E1
        go_wp2_with fail
        go_ret3
        unfold WordsQ
        rw [HX.out]
        exact ⟨_, rfl, RdT.nil _, HE1.out.alloc _⟩
      | ok x =>
        have hpos := nxt_pos hx
        have HX : Hid (W 0 l = (W (j + x.2.2.2.2) (l.drop (j + x.2.2.2.2))).map (fun ts => acc ++ [tkOf x j] ++ ts)) := by
          show _ = _
          rw [HW.out, hW2, hx]
          simp only []
          cases W (j + x.2.2.2.2) (l.drop (j + x.2.2.2.2)) <;> simp [Except.map]
        have hmS : j + x.2.2.2.2 ≤ s.size := by have := hpos.2; have := HL.out; simp at *; omega
        have hmJ : 1 ≤ x.2.2.2.2 := hpos.1
        have C : Calls Tryz.prog 37 #[.string s, .int .i64 (j : Int)] wr fun e w' => e = .returned (.tuple #[.agg #[.int .i64 x.1, .int .i64 (j : Int), .string (bs x.2.1), .int .i64 x.2.2.1, .int .i64 x.2.2.2.1], .int .i64 ((j + x.2.2.2.2 : Nat) : Int), .int .i64 0]) ∧ Ext wr w' := by rw [hx] at c1; exact c1
        obtain ⟨x0, x1, x2, x3, x4⟩ := x
        simp only [] at C HX hmS hmJ
        obtain ⟨m, hm⟩ : ∃ m, j + x4 = m := ⟨_, rfl⟩
        obtain ⟨q1, hq1⟩ : ∃ q1, bs x1 = q1 := ⟨_, rfl⟩
        rw [hm] at C HX hmS
        rw [hq1] at C
        have HJ : Hid (j < m ∧ m ≤ s.size) := ⟨by omega, hmS⟩
        have HQ : Hid (bs x1 = q1) := hq1
        have HA2 : Hid (acc.length ≤ 100000) := by have := HA.out; show _ ≤ _; omega
        clear hx c1 hpos hm hq1 hmJ hW2 hb h1
        go_wp2_with fail
        refine C.mono ?_
        rintro e w1 ⟨rfl, E1⟩
        have HO1 : Hid (OwT w1 w.heap.size u5 acc ∧ Ext w w1) := ⟨HO.out.1.ext E1, HO.out.2.trans E1⟩
        clear E1
        go_wp2_with (at_builtin; refine tk_append _ w.heap.size _ _ _ _ acc (x0, (j : Int), x1, x2, x3) rfl rfl (by rfl) (by rfl) (HO1.out.1.ext (((Ext.refl _).alloc _).alloc _)) ?cR HA2.out (by have := HO1.out.2.sz; simp; omega) ?_)
        case cR => exact new_tk (by simp) HQ.out
        intro v' w2 k1 k2 g cap hv
        have hE2 := grown_ext k2 (HO1.out.1.ext (((Ext.refl _).alloc _).alloc _)) ((HO1.out.2.alloc _).alloc _) (Nat.le_refl _)
        have HO2 : Hid (OwT w2 w.heap.size v' (acc ++ [(x0, (j : Int), x1, x2, x3)]) ∧ Ext w w2) := ⟨k1, hE2⟩
        clear k1 k2 hE2
        subst hv
        go_wp2_with fail
        go_roundw
        case rel =>
          have h4 := HJ.out
          have h7 := HA.out
          exact ⟨m, acc ++ [(x0, (j : Int), x1, x2, x3)], rfl, h4.2, HX.out, by simp; omega, HO2.out.1, HO2.out.2⟩
        case measure => have h4 := HJ.out; simp [intOf]; omega
    · have hltI : ¬ (j : Int) < (s.size : Int) := by omega
      have hjs : j = s.size := by omega
      have HX : Hid (lexR l = (acc ++ [endT s.size], 0, 0)) := HR.out _ (by rw [HW.out, List.drop_eq_nil_of_le (by have := HL.out; omega), W_nil, hjs]; rfl)
      have HA2 : Hid (acc.length ≤ 100000) := by have := HA.out; show _ ≤ _; omega
      clear hjs
      go_wp2_with (at_builtin; refine tk_append _ w.heap.size _ _ _ _ acc (endT s.size) rfl rfl (by rfl) (by rfl) (HO.out.1.ext ((Ext.refl _).alloc _)) ?cR HA2.out (by have := HO.out.2.sz; simp; omega) ?_)
      case cR => exact fun _ _ h => h
      intro v' w2 k1 k2 g cap hv
      have hE2 := grown_ext k2 (HO.out.1.ext ((Ext.refl _).alloc _)) (HO.out.2.alloc _) (Nat.le_refl _)
      have HO2 : Hid (OwT w2 w.heap.size v' (acc ++ [endT s.size]) ∧ Ext w w2) := ⟨k1, hE2⟩
      clear k1 k2 hE2
      subst hv
      go_wp2_with fail
      go_ret3
      unfold WordsQ
      rw [HX.out]
      exact ⟨_, rfl, HO2.out.1.rd, HO2.out.2⟩
end Go.Proofs.YtbfahmkagnmbmaaGreatDoor

namespace Go.Proofs.YtbfahmkagnmbmaaGreatDoor
open Go.ChangeShapes Go.WideShapes Go.ChangeAt Go.RowKit

theorem ownK : ownKnob Tryz.prog.godebug = none := by kernel_rfl
/-- A datum's cells. -/
def flat : Nat → DataW Unit → List Value
  | _ + 1, .lit (.int k z) => [.int k z]
  | _ + 1, .lit (.string l) => [.string ⟨l.toArray⟩]
  | n + 1, .agg ds => ds.flatMap (flat n)
  | _, _ => []
def layIn (cs : List Value) : Obj → Obj
  | .cells _ t frozen => .cells cs.toArray t frozen
  | o => o
theorem cellsStr : Tryz.prog.cellsOf 9 = 1 := by kernel_rfl
/-- A listed array of strings: its cells. -/
theorem strs_of {W : World} {rest : List (String × DataW Unit)} {name : String} {g : Nat} {T : TypeId} {n : Nat} (ls : List (List UInt8)) (gN : Tryz.prog.globalNamed name = some g) (gT : (Tryz.prog.globals[g]?).map (·.type) = some T)
    (uT : Tryz.prog.underlying T = some (.array n 9)) (cT : Tryz.prog.cellsOf T = n)
    (h : laidMet Tryz.prog ((name, .agg (ls.map fun l => .lit (.string l))) :: rest) W) : g < W.heap.size ∧ ∀ i l, i < n → ls[i]? = some l → W.cell? ⟨g, i, none⟩ = some (.string (bs l)) := by
  obtain ⟨ps, ⟨g', t', cs, fuel, p, q, hg', ht', hvar, hd, _, _⟩, _⟩ := h
  obtain rfl := Option.some.inj (gN.symm.trans hg')
  obtain rfl := Option.some.inj (gT.symm.trans ht')
  have hcell := World.var?_cell gN hvar
  have hsz : g < W.heap.size := by
    have h0 := hvar
    simp only [World.var?, gN, Option.bind_some] at h0
    cases hb : W.heap[g]? with
    | none => rw [hb] at h0; cases h0
    | some o => exact (Array.getElem?_eq_some_iff.1 hb).1
  refine ⟨hsz, ?_⟩
  cases fuel with
  | zero => simp [DataW.trod] at hd
  | succ fuel =>
    simp only [DataW.trod, uT, cellsStr, cT, Nat.mul_one] at hd
    split at hd
    · obtain ⟨xs, hm, hx⟩ := Option.map_eq_some_iff.1 hd
      have hxs : xs.map (·.1) = (ls.map fun l => (.lit (.string l) : DataW Unit)) := by
        have := congrArg Prod.fst hx
        simpa using this
      intro i l hi hl
      obtain ⟨b, hb, hf⟩ := Lib.mapM_at hm i i (by simp [hi])
      obtain ⟨s, hc, rfl, _⟩ := DataW.trod_string Tryz.underlying9 hf
      have h1 : cs.toList[i]? = some (.string s) := by
        have := congrArg (·[0]?) hc
        simpa [List.getElem?_take, List.getElem?_drop] using this
      have h2 : (xs.map (·.1))[i]? = some (DataW.lit (.string s.data.toList) : DataW Unit) := by simp [hb]
      rw [hxs, List.getElem?_map, hl] at h2
      simp only [Option.map_some, Option.some.injEq, DataW.lit.injEq, Lit.string.injEq] at h2
      rw [hcell i, h2, bs_of]
      simpa using h1
    · cases hd
def nmL8 : List (List UInt8) := [[], [35, 82, 69, 70, 33], [35, 86, 65, 76, 85, 69, 33], [35, 68, 73, 86, 47, 48, 33], [35, 78, 85, 77, 33], [35, 67, 89, 67, 76, 69, 33]]
/-- The tables that the program reads. -/
def Tab8 (w : World) : Prop := Tab w ∧ Tab7 w
theorem Tab8.ext {w w' : World} (h : Tab8 w) (e : Ext w w') : Tab8 w' := ⟨h.1.ext e, h.2.ext e⟩
def laidList : List (String × DataW Unit) := Rows.parseBracketsRow.laid
def layAll (h : Array Obj) : Array Obj := [(4, flat 4 Rows.laid_math_bits_deBruijn32tab), (5, flat 4 Rows.laid_math_bits_deBruijn64tab), (3, flat 4 Rows.laid_internal_strconv_uint64pow10), (1, flat 4 Rows.laid_cadastre_value_names), (0, flat 4 Rows.laid_cadastre_lex_signs)].foldl (fun h x => h.modify x.1 (layIn x.2)) h
noncomputable def laidWorld (os : Os) : World :=
  { World.holding Tryz.prog os ⟨#[], #[], []⟩ with heap := layAll (World.holding Tryz.prog os ⟨#[], #[], []⟩).heap }
theorem gPow : Tryz.prog.globalNamed "internal/strconv.uint64pow10" = some 3 := by kernel_rfl
theorem gPowType : (Tryz.prog.globals[3]?).map (·.type) = some 150 := by kernel_rfl
theorem cellsPow : Tryz.prog.cellsOf 150 = 20 := by kernel_rfl
theorem cellsU64 : Tryz.prog.cellsOf 91 = 1 := by kernel_rfl
theorem tab_of {W : World} (h : laidMetH Tryz.prog laidList W) : Tab8 W := by
  rw [MakeChecks.laidMetH_plain _ _ _ (by kernel_rfl)] at h
  have h3 : laidMet Tryz.prog (("internal/strconv.uint64pow10", Rows.laid_internal_strconv_uint64pow10) :: ("cadastre/value.names", .agg (nmL8.map fun l => .lit (.string l))) :: [("cadastre/lex.signs", .agg (sgsL.map fun l => .lit (.string l)))]) W := laidMet.tail (laidMet.tail (show laidMet Tryz.prog (_ :: _ :: _ :: _ :: _ :: _) W from h))
  have h1 := h3.tail
  obtain ⟨z, k⟩ := strs_of nmL8 (g := 1) (T := 112) (n := 6) (by kernel_rfl) (by kernel_rfl) Tryz.underlying112 (by kernel_rfl) h1
  obtain ⟨z', k'⟩ := strs_of sgsL (g := 0) (T := 104) (n := 15) (by kernel_rfl) (by kernel_rfl) Tryz.underlying104 (by kernel_rfl) h1.tail
  refine ⟨Lib.tabIs_of_head gPow gPowType Tryz.underlying150 Tryz.underlying91 cellsU64 cellsPow h3, ⟨z, k 0 _ (by decide) rfl, k 1 _ (by decide) rfl, k 2 _ (by decide) rfl, k 3 _ (by decide) rfl, k 4 _ (by decide) rfl, k 5 _ (by decide) rfl⟩, z', fun i p hp => k' i p ?_ hp⟩
  exact (List.getElem?_eq_some_iff.mp hp).1
end Go.Proofs.YtbfahmkagnmbmaaGreatDoor

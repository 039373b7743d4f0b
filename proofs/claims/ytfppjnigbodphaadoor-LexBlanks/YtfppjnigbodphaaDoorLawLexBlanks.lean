/-
  LexBlanks is proved: for every text and every number of blanks the call returns true and the arguments read as they did. Its condition: the listed tables (the errors and the signs) lie as the program text lays them (the card ties them).
-/
import Derived.Test.YtfppjnigbodphaaDoorLexS
import Derived.Test.YtfppjnigbodphaaDoorLexM
import Derived.Test.YtfppjnigbodphaaDoorLaid7
import Derived.Test.YtfppjnigbodphaaDoorCards
import Derived.Test.YtfppjnigbodphaaDoorTie
import Derived.ChangeMaps5
import Derived.SizedLaws
import Derived.Lib.SmallJoins
namespace Go.Proofs.YtfppjnigbodphaaDoor.lexBlanks
open Go.ChangeShapes Go.WideShapes Go.ChangeAt Go.RowKit
open Go.ChangeMaps (open_string shut_string)
open Go.Joins
set_option maxHeartbeats 1000000

theorem around (l : List UInt8) (a b : Nat) (ts : List Tk) (h : W 0 l = .ok ts) : W 0 (bl a ++ l ++ bl b) = .ok ((ts.dropLast ++ [endT (l.length + b)]).map (mvT a)) := by
  rw [List.append_assoc, W_ahead, W_move a (l ++ bl b).length _ 0 (Nat.le_refl _), (W_app (bl b) (bl_Bl b) l.length l 0 ts (Nat.le_refl _) h).2, W_bl, Nat.zero_add]; rfl
theorem around_err (l : List UInt8) (a b p : Nat) (c : Int) (h : W 0 l = .error (p, c)) : W 0 (bl a ++ l ++ bl b) = .error (p + a, c) := by
  rw [List.append_assoc, W_ahead, W_move a (l ++ bl b).length _ 0 (Nat.le_refl _), W_app_err (bl b) (fun _ h => bl_all _ h) (bl_Bl b) l.length l 0 (p, c) (Nat.le_refl _) h]; rfl
theorem W_where (n : Nat) : ∀ (l : List UInt8) (p : Nat) (y : Nat × Int), l.length ≤ n → W p l = .error y → y.1 ≤ p + l.length := by
  induction n with
  | zero =>
    intro l p y hl h
    have : l = [] := List.eq_nil_of_length_eq_zero (by omega)
    subst this
    rw [W_nil] at h; cases h
  | succ n ih =>
    intro l p y hl h
    cases l with
    | nil => rw [W_nil] at h; cases h
    | cons c t =>
      by_cases hc : c = 32
      · subst hc
        rw [W_blank] at h
        have := ih t (p + 1) y (by simpa using hl) h
        simp; omega
      · rw [W_cons p c t hc] at h
        cases hx : nxt (c :: t) with
        | error e => rw [hx] at h; cases h; simp
        | ok x =>
          rw [hx] at h
          have hm := nxt_pos hx
          simp only [List.length_cons] at hm
          have := ih _ _ y (by simp at hl ⊢; omega) (map_err h)
          simp at this ⊢; omega
theorem joined (a b : ByteArray) : (a ++ b).data.toList = a.data.toList ++ b.data.toList := by
  rw [ByteArray.data_append]; simp
theorem bl_more (j : Nat) : [32] ++ bl j = bl (j + 1) := rfl
theorem bl_last (j : Nat) : bl j ++ [32] = bl (j + 1) := by unfold bl; rw [← List.replicate_succ']
theorem small_wrap {x : Int} (m : Nat) (h : m ≤ 100000) (e : x = (m : Int)) : wrap64 x = (m : Int) := by subst e; unfold wrap64; omega
set_option maxHeartbeats 8000000 in
set_option maxRecDepth 100000 in
theorem walk (a0 : ByteArray) (a1 a2 : Int) (_h0 : a0.size ≤ maxLen) (h1 : (Lit.int .u8 a1).wf = true) (h2 : (Lit.int .u8 a2).wf = true) (w : World) (hT : Tab7 w) (g0 : a0.size ≤ 140737488351232) :
    Calls Tryd.prog 5 #[.string a0, .int .u8 a1, .int .u8 a2] w fun e w' => e = .returned (.bool true) ∧ Ext w w' := by
  have hb1 := u8_of_wf h1
  have hb2 := u8_of_wf h2
  obtain ⟨A, rfl⟩ : ∃ A : Nat, a1 = (A : Int) := ⟨a1.toNat, by omega⟩
  obtain ⟨B, rfl⟩ : ∃ B : Nat, a2 = (B : Int) := ⟨a2.toNat, by omega⟩
  have hA : A ≤ 255 := by omega
  have hB : B ≤ 255 := by omega
  have hl := size_list a0
  have HT : Hid (Tab7 w) := hT
  obtain ⟨l, hll⟩ : ∃ l, a0.data.toList = l := ⟨_, rfl⟩
  have HD : Hid (a0.data.toList = l) := hll
  have HL : Hid (l.length = a0.size) := by show _ = _; rw [← hll]; exact hl
  clear hb1 hb2 h1 h2 hl hll hT
  go_enter Tryd.func5, Tryd.ntmps5
  go_wp2_with fail
  go_loop [7, 8] (fun x i => ∃ j : Nat, j ≤ A ∧ i = .int .i64 (j : Int) ∧ ∃ q : ByteArray, x = .string q ∧ q.size ≤ a0.size + j ∧ Hid (q.data.toList = bl j ++ l)) (fun _ i => A - (intOf i).toNat)
  case atStart => exact ⟨0, Nat.zero_le _, rfl, a0, rfl, Nat.le_refl _, HD.out⟩
  case round =>
    obtain ⟨j, hj, rfl, q, rfl, hq, HQ⟩ := hrel
    have hq2 : q.size ≤ 140737488352000 := by omega
    have wk : wrap64 ((j : Int) + 1) = ((j + 1 : Nat) : Int) := small_wrap (j + 1) (by omega) (by omega)
    by_cases hlt : j < A
    · have hltI : (j : Int) < (A : Int) := by omega
      have e1 : (⟨#[32]⟩ : ByteArray).size = 1 := rfl
      go_wp2_with fail
      go_round
      case rel =>
        refine ⟨j + 1, hlt, by go_num, _, rfl, ?_, ?_⟩
        · rw [ByteArray.size_append, e1]; omega
        · show _ = _
          rw [joined, HQ.out, ← bl_more, List.append_assoc]
      case measure => simp [intOf]; omega
    · have hltI : ¬ (j : Int) < (A : Int) := by omega
      obtain rfl : j = A := by omega
      clear wk
      go_wp2_with fail
      go_loop [7, 9] (fun x i => ∃ k : Nat, k ≤ B ∧ i = .int .i64 (k : Int) ∧ ∃ q : ByteArray, x = .string q ∧ q.size ≤ a0.size + j + k ∧ Hid (q.data.toList = bl j ++ l ++ bl k)) (fun _ i => B - (intOf i).toNat)
      case atStart => exact ⟨0, Nat.zero_le _, rfl, q, rfl, by omega, by show _ = _; rw [HQ.out]; simp [bl]⟩
      case round =>
        clear HQ hq hq2 hltI
        obtain ⟨k, hk, rfl, t, rfl, ht, HQ⟩ := hrel
        have ht2 : t.size ≤ 140737488352000 := by omega
        have wk : wrap64 ((k : Int) + 1) = ((k + 1 : Nat) : Int) := small_wrap (k + 1) (by omega) (by omega)
        by_cases hlt2 : k < B
        · have hltI : (k : Int) < (B : Int) := by omega
          have e1 : (⟨#[32]⟩ : ByteArray).size = 1 := rfl
          go_wp2_with fail
          go_round
          case rel =>
            refine ⟨k + 1, hlt2, by go_num, _, rfl, ?_, ?_⟩
            · rw [ByteArray.size_append, e1]; omega
            · show _ = _
              rw [joined, HQ.out, ← bl_last, ← List.append_assoc]
          case measure => simp [intOf]; omega
        · have hltI : ¬ (k : Int) < (B : Int) := by omega
          obtain rfl : k = B := by omega
          clear wk
          have htl := size_list t
          by_cases h3 : 300 < t.size
          · have h3I : (300 : Int) < (t.size : Int) := by omega
            have c4 := llives_any w HT.out
            clear htl
            go_wp2_with fail
            refine c4.mono ?_
            rintro e4 w4 ⟨rfl, E4⟩
            have HE4 : Hid (Ext w w4) := (Ext.refl w).trans E4
            clear E4
            go_wp2_with fail
            go_ret
            exact ⟨rfl, HE4.out⟩
          · have h3I : ¬ (300 : Int) < (t.size : Int) := by omega
            have hsz : t.size = a0.size + j + k := by
              rw [← htl, HQ.out]; simp [bl, HL.out]; omega
            have c1 := words_any a0 w (by unfold maxLen; omega) HT.out
            have c2 := fun W h => words_any t W (by unfold maxLen; omega) h
            unfold WordsQ at c1 c2
            rw [HD.out] at c1
            rw [HQ.out] at c2
            have hlen : l.length ≤ 300 := by have := HL.out; omega
            have hlt3 : (bl j ++ l ++ bl k).length ≤ 300 := by rw [← HQ.out, htl]; omega
            rcases lexR_cases l with ⟨ts, hz0, hW, hr⟩ | ⟨p, c, hr, hc, hx | ⟨hz0, q, rfl, hW⟩⟩
            · have hr2 : lexR (bl j ++ l ++ bl k) = ((ts.dropLast ++ [endT (l.length + k)]).map (mvT j), 0, 0) := by
                unfold lexR; rw [if_neg (by omega), around l j k ts hW]
              rw [hr] at c1
              rw [hr2] at c2
              simp only [] at c1 c2
              have hcnt := W_count l.length l 0 ts (Nat.le_refl _) hW
              obtain ⟨n, hn⟩ : ∃ n, ts.length = n + 1 := ⟨ts.length - 1, by omega⟩
              have hdl : ts.dropLast.length = n := by rw [List.length_dropLast]; omega
              have hus : ((ts.dropLast ++ [endT (l.length + k)]).map (mvT j)).length = n + 1 := by simp; omega
              have hat : ∀ i t, i < n → ts[i]? = some t → ((ts.dropLast ++ [endT (l.length + k)]).map (mvT j))[i]? = some (mvT j t) := by
                intro i t hi ht
                rw [List.getElem?_map, List.getElem?_append_left (by omega), List.getElem?_dropLast, if_pos (by omega), ht]; rfl
              have HO : Hid (Ord7 l 0 ts) := W_good l l.length 0 ts (Nat.sub_le _ _) (Nat.zero_le _) hW
              have HN : Hid (ts.length = n + 1 ∧ n ≤ 1000) := ⟨hn, by omega⟩
              generalize (ts.dropLast ++ [endT (l.length + k)]).map (mvT j) = us at c2 hus hat
              have HU : Hid (us.length = n + 1) := hus
              have HL3 : Hid (l.length ≤ 300) := hz0
              have HX : Hid (∀ i t, i < n → ts[i]? = some t → us[i]? = some (mvT j t)) := hat
              have hn1 : (n : Int) ≤ 1000 := by omega
              clear hr hr2 hcnt hdl hus hat hn htl hsz hlen hlt3 hW hz0
              go_wp2_with fail
              refine c1.mono ?_
              rintro e1 w1 ⟨v, rfl, R1, E1⟩
              obtain ⟨p1, cc1, rfl, hy1⟩ := R1.form
              clear hy1
              rw [HN.out.1] at R1 ⊢
              have HR1 : Hid (RdT w1 (.slice p1 (n + 1) cc1) ts ∧ Ext w w1) := ⟨R1, E1⟩
              have HJ : Hid (j ≤ 255) := hA
              have hjI : (j : Int) ≤ 255 := by omega
              clear R1 E1 g0 ht ht2 h3 h3I hltI hlt hlt2 hj hk hA hB
              go_wp2_with fail
              refine (c2 _ (HT.out.ext HR1.out.2)).mono ?_
              rintro e2 w2 ⟨u, rfl, R2, E2⟩
              obtain ⟨p2, cc2, rfl, hy2⟩ := R2.form
              clear hy2
              rw [HU.out] at R2 ⊢
              have HR2 : Hid (RdT w2 (.slice p1 (n + 1) cc1) ts ∧ RdT w2 (.slice p2 (n + 1) cc2) us ∧ Ext w w2) := ⟨HR1.out.1.ext E2, R2, HR1.out.2.trans E2⟩
              clear R2 E2 c1 c2
              go_wp2_with fail
              go_loopw [16] (fun x wr => ∃ i : Nat, x = .int .i64 (i : Int) ∧ i ≤ n ∧ Ext w2 wr) (fun x _ => n - (intOf x).toNat)
              case atStart => exact ⟨0, rfl, Nat.zero_le _, Ext.refl _⟩
              case round =>
                obtain ⟨i, rfl, hi, hE⟩ := hrel
                have HE : Hid (Ext w2 wr) := hE
                clear hE
                by_cases hin : i < n
                · have hiI : (i : Int) + 1 < (n : Int) + 1 := by omega
                  have HI : Hid (i + 1 ≤ n ∧ i + 1 ≤ 100000 ∧ n - (i + 1) < n - i) := ⟨hin, by omega, by omega⟩
                  obtain ⟨b, off, t, rfl, ht, hle, hc⟩ := HR2.out.1.at (k := i) (by rw [HN.out.1]; omega)
                  obtain ⟨b', off', u, rfl, hu, hle', hc'⟩ := HR2.out.2.1.at (k := i) (by rw [HU.out]; omega)
                  clear hle hle'
                  have hu2 := HX.out i t hin ht
                  rw [hu] at hu2
                  cases hu2
                  obtain ⟨a, hq0, ⟨ga, gb, hq1, hq2⟩, hq3⟩ := HO.out.at ts 0 i t ht
                  clear hq0 hq1 hq2 hq3
                  obtain ⟨t0, t1, t2, t3, t4⟩ := t
                  simp only [] at ga
                  subst ga
                  obtain ⟨d0, d1, d2, d3, d4⟩ := hc _ HE.out
                  have HC : Hid (∀ W, Ext w2 W → W.cell? ⟨b', off' + i * 5, none⟩ = some (.int .i64 t0) ∧ W.cell? ⟨b', off' + i * 5 + 1, none⟩ = some (.int .i64 ((a : Int) + (j : Int))) ∧ W.cell? ⟨b', off' + i * 5 + 2, none⟩ = some (.string (bs t2)) ∧ W.cell? ⟨b', off' + i * 5 + 3, none⟩ = some (.int .i64 t3) ∧ W.cell? ⟨b', off' + i * 5 + 4, none⟩ = some (.int .i64 t4)) := hc'
                  have HG : Hid (a ≤ 1000) := by have := HL3.out; show _ ≤ _; omega
                  have ha1 : (a : Int) ≤ 1000 := by have := HG.out; omega
                  have ha0 : (0 : Int) ≤ (a : Int) := by omega
                  have wa : wrap64 ((a : Int) + (j : Int)) = (a : Int) + (j : Int) := by rw [small_wrap (a + j) (by have := HG.out; have := HJ.out; omega) (by omega)]; omega
                  have wi : wrap64 ((i : Int) + 1) = ((i + 1 : Nat) : Int) := small_wrap (i + 1) HI.out.2.1 (by clear wa; omega)
                  have qE := eq_tk (t0, (a : Int) + (j : Int), t2, t3, t4) (t0, (a : Int) + (j : Int), t2, t3, t4)
                  have qG := gd_tk
                  simp only [decide_true] at qE
                  simp only [] at d0 d1 d2 d3 d4
                  clear ht hu hc hc' gb
                  go_upto_region 21 with fail
                  have B5 : Blk5 (wr.alloc (.cells #[.int .i64 t0, .int .i64 ((a : Int) + (j : Int)), .string (bs t2), .int .i64 t3, .int .i64 t4] 30)) wr.heap.size (.int .i64 t0) (.int .i64 ((a : Int) + (j : Int))) (.string (bs t2)) (.int .i64 t3) (.int .i64 t4) := blk5_top rfl (Ext.refl _)
                  have HW : Hid (Ext w2 (wr.alloc (.cells #[.int .i64 t0, .int .i64 ((a : Int) + (j : Int)), .string (bs t2), .int .i64 t3, .int .i64 t4] 30))) := HE.out.alloc _
                  obtain ⟨c0, c1, c2, c3, c4⟩ := HC.out _ HW.out
                  clear d0 d1 d2 d3 d4
                  obtain ⟨hzz, ⟨d0, d1, d2, d3, d4⟩, hzf⟩ := B5
                  clear hzz hzf
                  generalize wr.alloc (.cells #[.int .i64 t0, .int .i64 ((a : Int) + (j : Int)), .string (bs t2), .int .i64 t3, .int .i64 t4] 30) = w7 at *
                  have hiJ : (i : Int) < (n : Int) + 1 := by clear wa wi; omega
                  go_quiet (fail)
                  go_wp2_with fail
                  go_roundw
                  case rel => exact ⟨i + 1, by go_num, HI.out.1, HW.out.drewN _⟩
                  case measure => have := HI.out.2.2; simpa [intOf] using this
                · have hiI : ¬ (i : Int) + 1 < (n : Int) + 1 := by omega
                  have wi : wrap64 ((i : Int) + 1) = ((i + 1 : Nat) : Int) := small_wrap (i + 1) (by omega) (by omega)
                  have HY : Hid (Ext w wr) := HR2.out.2.2.trans HE.out
                  have c4 := llives_any wr (HT.out.ext HY.out)
                  go_wp2_with fail
                  refine c4.mono ?_
                  rintro e4 w4 ⟨rfl, E4⟩
                  have HE4 : Hid (Ext w w4) := HY.out.trans E4
                  clear E4
                  go_wp2_with fail
                  go_ret
                  exact ⟨rfl, HE4.out⟩
            · omega
            · have hr2 : lexR (bl j ++ l ++ bl k) = ([], ((q + j : Nat) : Int), c) := by
                unfold lexR; rw [if_neg (by omega), around_err l j k q c hW]
              have hq : q ≤ 300 := Nat.le_trans (W_where l.length l 0 (q, c) (Nat.le_refl _) hW) (by omega)
              rw [hr] at c1
              rw [hr2] at c2
              simp only [] at c1 c2
              have hc0 : (c != 0) = true := by rcases hc with rfl | rfl <;> rfl
              have hc1 : (c != c) = false := by simp
              have wa : wrap64 ((q : Int) + (j : Int)) = ((q + j : Nat) : Int) := small_wrap (q + j) (by omega) (by omega)
              have HQ3 : Hid (q ≤ 300 ∧ j ≤ 255) := ⟨hq, hA⟩
              clear hr hr2 htl hsz hlen hlt3 hW hc hz0
              go_wp2_with fail
              refine c1.mono ?_
              rintro e1 w1 ⟨v, rfl, R1, E1⟩
              obtain ⟨p1, cc1, rfl, hy1⟩ := R1.form
              clear hy1
              have HR1 : Hid (Ext w w1) := E1
              have hqI : (q : Int) ≤ 300 := by clear wa; omega
              have hjI : (j : Int) ≤ 255 := by clear wa; omega
              clear R1 E1 hq ht ht2 g0 h3 h3I hlt hlt2 hltI hj hk hA hB
              go_wp2_with fail
              refine (c2 _ (HT.out.ext HR1.out)).mono ?_
              rintro e2 w2 ⟨u, rfl, R2, E2⟩
              obtain ⟨p2, cc2, rfl, hy2⟩ := R2.form
              clear hy2
              have HR2 : Hid (Ext w w2) := HR1.out.trans E2
              clear R2 E2 c1 c2
              have c4 := llives_any w2 (HT.out.ext HR2.out)
              go_wp2_with fail
              go_loopw [16] (fun x wr => x = .int .i64 0 ∧ wr = w2) (fun _ _ => 0)
              case atStart => exact ⟨rfl, rfl⟩
              case round =>
                obtain ⟨rfl, rfl⟩ := hrel
                go_wp2_with fail
                refine c4.mono ?_
                rintro e4 w4 ⟨rfl, E4⟩
                have HE4 : Hid (Ext w w4) := HR2.out.trans E4
                clear E4
                go_wp2_with fail
                go_ret
                exact ⟨rfl, HE4.out⟩

theorem contract (H : Type) (enc : TypeId × Value → H) (W : World) (base : Nat) (args : Array Value) (ds gs : List (DataW H)) (before : List MemPlace)
    (hval0 : ∀ (j : Nat) t v, Tryd.f5.params[j]? = some t → args[j]? = some v → Value.okWide Tryd.prog W .any base t v)
    (hW : DataW.Whole enc Tryd.prog Tryd.f5.params.toList Rows.lexBlanksSpec.vars false W args.toList ds gs before) (hsz0 : (DataW.weightsEach Tryd.prog (Tryd.f5.params.toList ++ (OpenSpec.ofChange Rows.lexBlanksSpec).bare.plain.varTypes Tryd.prog) (ds ++ gs)).all (· ≤ reachBytes) = true) (hL : laidMetH Tryd.prog Rows.lexBlanksRow.laid W) :
    Calls Tryd.prog 5 args W fun e W' => ∃ v, e = .returned v ∧ Rows.lexBlanksSpec.post enc Tryd.prog Tryd.f5 false true false false W args v W' := by
  have hval : ∀ (j : Nat) t v, Tryd.f5.params[j]? = some t → args[j]? = some v → Value.okWide Tryd.prog W .any base t v := hval0
  have hW' := hW
  obtain ⟨p, q, hA0, hV, rfl, hfz, hnd⟩ := hW
  have hA : DataW.TrodAll enc Tryd.prog W 0 (fun _ => true) true Tryd.f5.params.toList args.toList ds p := hA0
  rw [Tryd.params5] at hA hval
  obtain ⟨v0, vs0, d0, ds0, p0, q0, hargs, rfl, rfl, h0, r0⟩ := trodAll_cons hA
  obtain ⟨v1, vs1, d1, ds1, p1, q1, rfl, rfl, rfl, h1, r1⟩ := trodAll_cons r0
  obtain ⟨v2, vs2, d2, ds2, p2, q2, rfl, rfl, rfl, h2, r2⟩ := trodAll_cons r1
  obtain ⟨rfl, rfl, rfl⟩ := trodAll_nil r2
  obtain rfl : args = #[v0, v1, v2] := by cases args; simp_all
  obtain ⟨rfl, rfl⟩ := trodVars_none hV
  obtain ⟨a0, rfl, rfl, rfl, w0⟩ := open_string Tryd.underlying9 (hval 0 9 v0 rfl rfl) h0
  obtain ⟨a1, rfl, rfl, rfl, w1⟩ := open_int Tryd.underlying5 (hval 1 5 v1 rfl rfl) h1
  obtain ⟨a2, rfl, rfl, rfl, w2⟩ := open_int Tryd.underlying5 (hval 2 5 v2 rfl rfl) h2
  have g0 : a0.size ≤ 140737488351232 := by
    have h := sized_string hsz0 (j := 0) (t := 9) rfl rfl
    rw [size_list] at h
    exact h
  clear hA0 hval0 hsz0
  simp only [List.append_nil] at hW'
  refine (walk a0 a1 a2 w0 w1 w2 W (tab_of hL) g0).mono fun e W' ⟨he, bel⟩ => ?_
  subst he
  exact ⟨_, rfl, _, _, _, [], [], [], hW', trodAll_mk1 (shut_bool Tryd.underlying4 _), (trodAll_cons_mk (shut_string Tryd.underlying9 w0) (trodAll_cons_mk (shut_int Tryd.underlying5 w1) (trodAll_cons_mk (shut_int Tryd.underlying5 w2) trodAll_mk0))), rfl, Below.frame bel _, fun h => by cases h⟩

theorem laid_met (os : Os) : laidMet Tryd.prog Rows.lexBlanksRow.laid ((laidWorld os).forCall (fun _ _ => 0) ⟨#[], #[.string ⟨#[]⟩, .int .u8 0, .int .u8 0], []⟩).memory :=
  laidMet_of_run' 8 (by kernel_rfl) (by kernel_rfl)
theorem reads (os : Os) {H : Type} (enc : TypeId × Value → H) : ∃ places, DataW.whole enc Tryd.prog ((laidWorld os).forCall (fun _ _ => 0) ⟨#[], #[.string ⟨#[]⟩, .int .u8 0, .int .u8 0], []⟩).memory Tryd.f5.params.toList Rows.lexBlanksSpec.vars false (#[.string ⟨#[]⟩, .int .u8 0, .int .u8 0] : Array Value).toList 8 = some ([.lit (.string []), .lit (.int .u8 0), .lit (.int .u8 0)], [], places) :=
  ⟨[], by kernel_rfl⟩

set_option maxRecDepth 100000 in
theorem lifted (os : Os) (started : os.Started) (H : Type) (enc : TypeId × Value → H) (F : Stop.Interp) :
    ReturnsInHanded {} Tryd.checked os 5 .any ((OpenSpec.ofChange Rows.lexBlanksSpec).preRow enc Tryd.prog Tryd.f5 Rows.lexBlanksRow.domain false Rows.lexBlanksRow.laid) (((OpenSpec.ofChange Rows.lexBlanksSpec).at F).post enc Tryd.prog Tryd.f5 false true false false) := by
  obtain ⟨places, hx⟩ := reads os enc
  refine returnsInHanded_of_row (C := Tryd.checked) (s := OpenSpec.ofChange Rows.lexBlanksSpec) ownK started (by kernel_rfl) Tryd.func5
    (witness_row_at (enc := enc) (C := Tryd.checked) false (laidWorld os) #[.string ⟨#[]⟩, .int .u8 0, .int .u8 0] rfl (by kernel_rfl) (by kernel_rfl) (by kernel_rfl)
      (OpenSpec.preRow_of_cond 8 hx (by kernel_rfl) (fun k hk => by cases hk) (by kernel_rfl) (by
        rw [MakeChecks.laidMetH_plain _ _ _ (by kernel_rfl)]
        exact laid_met os))) ?_
  intro W base args ds gs before hval hW _ _ hsz hL _ _
  exact contract H enc W base args ds gs before hval hW hsz hL

theorem said : Rows.LexBlanksSaid :=
  OpenClaim.holds_of_cond 5 Tryd.f5 rfl rfl rfl rfl rfl rfl rfl ⟨rfl, rfl, rfl, rfl, rfl⟩ rfl rfl rfl rfl rfl (by kernel_rfl) Tryd.func5 (by kernel_rfl)
    (of_decide_eq_true (by kernel_rfl)) (by unfold Func.isWrapper; first | (rw [if_pos (by decide +kernel)]; kernel_rfl) | (rw [if_neg (by decide +kernel)]; exact ⟨rfl, rfl⟩))
    (fun os started H enc _ F => by rw [OpenClaim.pre_eq_preRow]; exact lifted os started H enc F)

theorem plain (f : FuncId) (fn : Func) (hf : Tryd.pinned.checked.prog.funcNamed Rows.lexBlanksRow.func = some f) (hfn : Tryd.pinned.checked.prog.funcs[f]? = some fn) :
    true = Tryd.pinned.checked.prog.looks [] ∧ ∀ (j : Nat) t, fn.params[j]? = some t → Tryd.pinned.checked.prog.wantsStandIn t = false := by
  obtain rfl : f = 5 := Option.some.inj ((show Tryd.prog.funcNamed Rows.lexBlanksRow.func = some 5 by kernel_rfl).symm.trans hf) |>.symm
  obtain rfl : fn = Tryd.f5 := (Option.some.inj (Tryd.func5.symm.trans hfn)).symm
  refine ⟨by kernel_rfl, fun j t ht => ?_⟩
  rw [Tryd.params5] at ht
  have hm : t ∈ [9, 5, 5] := by simpa using Array.mem_of_getElem? ht
  have hall : ([9, 5, 5].all fun u => !Tryd.prog.wantsStandIn u) = true := by kernel_rfl
  exact (show Tryd.prog.wantsStandIn t = false by simpa using List.all_eq_true.1 hall t hm)

theorem card : Rows.LexBlanksCardSaid :=
  Claim7.holds_tied_plain_at .later [] _ _ _ _ said (fun _ h => by cases h) (by kernel_rfl) (fun _ h => by cases h) lexBlanks_row_tie rfl ⟨rfl, rfl⟩ (by kernel_rfl) rfl plain (by kernel_rfl)
end Go.Proofs.YtfppjnigbodphaaDoor.lexBlanks
namespace Go.Proofs.YtfppjnigbodphaaDoor
theorem lexBlanks_card : Rows.LexBlanksCardSaid := lexBlanks.card
end Go.Proofs.YtfppjnigbodphaaDoor

/-
  LexJoins is proved: for every two texts the call returns true and the arguments read as they did. Its condition: the listed tables (the errors and the signs) lie as the program text lays them (the card ties them).
-/
import Derived.Test.YtfppjnigbodphaaDoorLexS
import Derived.Test.YtfppjnigbodphaaDoorLexM
import Derived.Test.YtfppjnigbodphaaDoorLaid7
import Derived.Test.YtfppjnigbodphaaDoorCards
import Derived.Test.YtfppjnigbodphaaDoorTie
import Derived.ChangeMaps5
import Derived.SizedLaws
import Derived.Lib.SmallJoins
namespace Go.Proofs.YtfppjnigbodphaaDoor.lexJoins
open Go.ChangeShapes Go.WideShapes Go.ChangeAt Go.RowKit
open Go.ChangeMaps (open_string shut_string)
open Go.Joins
set_option maxHeartbeats 1000000

theorem both (l r : List UInt8) (ts us : List Tk) (h : W 0 l = .ok ts) (g : W 0 r = .ok us) : W 0 (l ++ [32] ++ r) = .ok (ts.dropLast ++ us.map (mvT (l.length + 1))) := by
  rw [List.append_assoc, (W_app ([32] ++ r) (.inr ⟨r, rfl⟩) l.length l 0 ts (Nat.le_refl _) h).2, Nat.zero_add]
  show (W l.length (32 :: r)).map _ = _
  have e := W_move (l.length + 1) r.length r 0 (Nat.le_refl _)
  rw [Nat.zero_add] at e
  rw [W_blank, e, g]; rfl
theorem joined (a b : ByteArray) : (a ++ b).data.toList = a.data.toList ++ b.data.toList := by
  rw [ByteArray.data_append]; simp
theorem small_wrap {x : Int} (m : Nat) (h : m ≤ 100000) (e : x = (m : Int)) : wrap64 x = (m : Int) := by subst e; unfold wrap64; omega
theorem pre_rd {w : World} {b off n c k : Nat} {l : List Tk} (h : RdT w (.slice (some ⟨b, off, none⟩) n c) l) (hk : k ≤ l.length) : RdT w (.slice (some ⟨b, off, none⟩) k c) (l.take k) := by
  rcases h with ⟨h1, _⟩ | ⟨b', off', c', h1, h2, h3, h4⟩
  · cases h1
  · simp at h1
    obtain ⟨⟨rfl, rfl⟩, rfl, rfl⟩ := h1
    refine .inr ⟨b, off, c, by rw [List.length_take, Nat.min_eq_left hk], by rw [List.length_take]; omega, h3, fun j u hu => h4 j u ?_⟩
    have e : flatT l = flatT (l.take k) ++ flatT (l.drop k) := by rw [← flatT_append, List.take_append_drop]
    rw [e, List.getElem?_append_left (List.getElem?_eq_some_iff.mp hu).1]
    exact hu
set_option maxHeartbeats 8000000 in
set_option maxRecDepth 100000 in
theorem walk (a0 a1 : ByteArray) (_h0 : a0.size ≤ maxLen) (_h1 : a1.size ≤ maxLen) (w : World) (hT : Tab7 w) (g0 : a0.size ≤ 140737488351232) (g1 : a1.size ≤ 140737488351232) :
    Calls Tryd.prog 6 #[.string a0, .string a1] w fun e w' => e = .returned (.bool true) ∧ Ext w w' := by
  have hl0 := size_list a0
  have hl1 := size_list a1
  have HT : Hid (Tab7 w) := hT
  have c1 := words_any a0 w (by unfold maxLen; omega) hT
  have c2 := fun W h => words_any a1 W (by unfold maxLen; omega) h
  obtain ⟨l, hll⟩ : ∃ l, a0.data.toList = l := ⟨_, rfl⟩
  obtain ⟨r, hrr⟩ : ∃ r, a1.data.toList = r := ⟨_, rfl⟩
  have HD0 : Hid (a0.data.toList = l) := hll
  have HD1 : Hid (a1.data.toList = r) := hrr
  unfold WordsQ at c1 c2
  rw [hll] at c1 hl0
  rw [hrr] at c2 hl1
  have HL0 : Hid (l.length = a0.size) := hl0
  have HL1 : Hid (r.length = a1.size) := hl1
  clear hl0 hl1 hll hrr hT
  have hs0 : (a0.size : Int) ≤ 140737488351232 := by omega
  have hs1 : (a1.size : Int) ≤ 140737488351232 := by omega
  clear g0 g1
  rcases lexR_cases l with ⟨ts, hz0, hW, hr⟩ | ⟨p, c, hr, hc, hx⟩
  · rcases lexR_cases r with ⟨us, hz1, hV, hq⟩ | ⟨p, c, hq, hc, hx⟩
    · rw [hr] at c1
      rw [hq] at c2
      simp only [] at c1 c2
      by_cases h3 : 300 < a0.size + a1.size + 1
      · have h3I : (300 : Int) < (a0.size : Int) + (a1.size : Int) + 1 := by omega
        clear hr hq hW hV hz0 hz1 h3
        go_enter Tryd.func6, Tryd.ntmps6
        go_wp2_with fail
        refine c1.mono ?_
        rintro x1 w1 ⟨v, rfl, R1, E1⟩
        have HR1 : Hid (Ext w w1) := E1
        clear R1 E1
        go_wp2_with fail
        refine (c2 _ (HT.out.ext HR1.out)).mono ?_
        rintro x2 w2 ⟨u, rfl, R2, E2⟩
        have HR2 : Hid (Ext w w2) := HR1.out.trans E2
        clear R2 E2 c1 c2
        have c4 := llives_any w2 (HT.out.ext HR2.out)
        go_wp2_with fail
        refine c4.mono ?_
        rintro x4 w4 ⟨rfl, E4⟩
        have HE4 : Hid (Ext w w4) := HR2.out.trans E4
        clear E4
        go_wp2_with fail
        go_ret
        exact ⟨rfl, HE4.out⟩
      · have h3I : ¬ (300 : Int) < (a0.size : Int) + (a1.size : Int) + 1 := by omega
        have hsA : a0.size ≤ 300 := by omega
        have hsB : a1.size ≤ 300 := by omega
        have hcn0 := W_count l.length l 0 ts (Nat.le_refl _) hW
        have hcn1 := W_count r.length r 0 us (Nat.le_refl _) hV
        have hb := both l r ts us hW hV
        have hlen : (l ++ [32] ++ r).length ≤ 300 := by simp; have := HL0.out; have := HL1.out; omega
        have hrj : lexR (l ++ [32] ++ r) = (ts.dropLast ++ us.map (mvT (l.length + 1)), 0, 0) := by unfold lexR; rw [if_neg (by omega), hb]
        obtain ⟨n, hn⟩ : ∃ n, ts.length = n + 1 := ⟨ts.length - 1, by omega⟩
        obtain ⟨m, hm⟩ : ∃ m, us.length = m := ⟨_, rfl⟩
        have hdl : ts.dropLast.length = n := by rw [List.length_dropLast]; omega
        obtain ⟨vs, hvs⟩ : ∃ vs, ts.dropLast ++ us.map (mvT (l.length + 1)) = vs := ⟨_, rfl⟩
        have HV : Hid (vs.length = n + m ∧ vs.take n = ts.take n ∧ (∀ i t, us[i]? = some t → vs[n + i]? = some (mvT (a0.size + 1) t)) ∧ n ≤ 1000 ∧ m ≤ 1000 ∧ 1 ≤ m) := by
          refine ⟨by rw [← hvs]; simp; omega, ?_, ?_, by have := HL0.out; omega, by have := HL1.out; omega, by omega⟩
          · rw [← hvs, List.take_append_of_le_length (by omega), List.take_of_length_le (by omega), List.dropLast_eq_take]; congr 1; omega
          · intro i t ht
            rw [← hvs, List.getElem?_append_right (by omega), hdl, Nat.add_sub_cancel_left, List.getElem?_map, ht, HL0.out]; rfl
        have HN : Hid (ts.length = n + 1 ∧ us.length = m) := ⟨hn, hm⟩
        have HO : Hid (Ord7 r 0 us ∧ r.length ≤ 300) := ⟨W_good r r.length 0 us (Nat.sub_le _ _) (Nat.zero_le _) hV, hz1⟩
        have c3 : ∀ (q : ByteArray), q.data.toList = l ++ [32] ++ r → ∀ W, Tab7 W → Calls Tryd.prog 7 #[.string q] W fun e w' => ∃ v, e = .returned (.tuple #[v, .int .i64 0, .int .i64 0]) ∧ RdT w' v vs ∧ Ext W w' := by
          intro q hq W hT
          have h := words_any q W (by unfold maxLen; rw [← size_list, hq]; omega) hT
          unfold WordsQ at h
          rw [hq, hrj, hvs] at h
          exact h
        have HC3 : Hid (∀ (q : ByteArray), q.data.toList = l ++ [32] ++ r → ∀ W, Tab7 W → Calls Tryd.prog 7 #[.string q] W fun e w' => ∃ v, e = .returned (.tuple #[v, .int .i64 0, .int .i64 0]) ∧ RdT w' v vs ∧ Ext W w') := c3
        have hnI : (n : Int) ≤ 1000 := by have := HV.out.2.2.2.1; omega
        have hmI : (m : Int) ≤ 1000 := by have := HV.out.2.2.2.2.1; omega
        have hm0 : (1 : Int) ≤ (m : Int) := by have := HV.out.2.2.2.2.2; omega
        have e1 : (⟨#[32]⟩ : ByteArray).size = 1 := rfl
        have hq1 : (a0 ++ ⟨#[32]⟩ : ByteArray).size = a0.size + 1 := by rw [ByteArray.size_append, e1]
        obtain ⟨q1, hq1e⟩ : ∃ q1, a0 ++ ⟨#[32]⟩ = q1 := ⟨_, rfl⟩
        have HQ1 : Hid (q1.data.toList = l ++ [32]) := by show _ = _; rw [← hq1e, joined, HD0.out]
        have hq1s : q1.size ≤ 301 := by rw [← hq1e, hq1]; omega
        have HQ2 : Hid ((q1 ++ a1).data.toList = l ++ [32] ++ r) := by show _ = _; rw [joined, HQ1.out, HD1.out]
        clear hr hq hW hV hz0 hz1 h3 hcn0 hcn1 hb hlen hrj hn hm hdl hvs c3 hq1
        go_enter Tryd.func6, Tryd.ntmps6
        go_wp2_with fail
        refine c1.mono ?_
        rintro x1 w1 ⟨v, rfl, R1, E1⟩
        obtain ⟨p1, cc1, rfl, hy1⟩ := R1.form
        rw [HN.out.1] at R1 hy1 ⊢
        have HR1 : Hid (RdT w1 (.slice p1 (n + 1) cc1) ts ∧ Ext w w1 ∧ n + 1 ≤ cc1) := ⟨R1, E1, hy1⟩
        clear R1 E1 hy1 c1
        go_wp2_with fail
        refine (c2 _ (HT.out.ext HR1.out.2.1)).mono ?_
        rintro x2 w2 ⟨u, rfl, R2, E2⟩
        obtain ⟨p2, cc2, rfl, hy2⟩ := R2.form
        rw [HN.out.2] at R2 hy2 ⊢
        have HR2 : Hid (RdT w2 (.slice p1 (n + 1) cc1) ts ∧ RdT w2 (.slice p2 m cc2) us ∧ Ext w w2) := ⟨HR1.out.1.ext E2, R2, HR1.out.2.1.trans E2⟩
        clear R2 E2 hy2 c2
        have c3 := HC3.out (q1 ++ a1) HQ2.out w2 (HT.out.ext HR2.out.2.2)
        go_wp2_with fail
        refine c3.mono ?_
        rintro x3 w3 ⟨z, rfl, R3, E3⟩
        obtain ⟨p3, cc3, rfl, hy3⟩ := R3.form
        rw [HV.out.1] at R3 hy3 ⊢
        have HR3 : Hid (RdT w3 (.slice p1 (n + 1) cc1) ts ∧ RdT w3 (.slice p2 m cc2) us ∧ RdT w3 (.slice p3 (n + m) cc3) vs ∧ Ext w w3 ∧ n + m ≤ cc3 ∧ n + 1 ≤ cc1) := ⟨HR2.out.1.ext E3, HR2.out.2.1.ext E3, R3, HR2.out.2.2.trans E3, hy3, HR1.out.2.2⟩
        clear R3 E3 hy3 c3
        obtain ⟨b1, o1, z1, rfl, y1, y2, y3⟩ := HR3.out.1.at (k := 0) (by rw [HN.out.1]; omega)
        clear y1 y2 y3 z1
        obtain ⟨b2, o2, z2, rfl, y1, y2, y3⟩ := HR3.out.2.1.at (k := 0) (by rw [HN.out.2]; have := HV.out.2.2.2.2.2; omega)
        clear y1 y2 y3 z2
        obtain ⟨b3, o3, z3, rfl, y1, y2, y3⟩ := HR3.out.2.2.1.at (k := 0) (by rw [HV.out.1]; have := HV.out.2.2.2.2.2; omega)
        clear y1 y2 y3 z3
        have HS : Hid (∀ W, Ext w3 W → Calls Tryd.prog 9 #[.slice (some ⟨b3, o3, none⟩) n cc3, .slice (some ⟨b1, o1, none⟩) n cc1] W fun e w' => e = .returned (.bool true) ∧ Ext W w') := by
          intro W hW
          have h := same_any W _ _ _ _ ((pre_rd HR3.out.2.2.1 (k := n) (by rw [HV.out.1]; omega)).ext hW) ((pre_rd HR3.out.1 (k := n) (by rw [HN.out.1]; omega)).ext hW) (by have := HV.out.2.2.2.1; rw [List.length_take]; omega) (by have := HV.out.2.2.2.1; rw [List.length_take]; omega)
          rw [decide_eq_true HV.out.2.1] at h
          exact h
        have k1 : (n : Int) ≤ (cc3 : Int) := by have := HR3.out.2.2.2.2.1; omega
        have k2 : (n : Int) ≤ (cc1 : Int) := by have := HR3.out.2.2.2.2.2; omega
        have k3 : (0 : Int) ≤ (n : Int) := Int.natCast_nonneg _
        have k4 : (n : Int) + 1 - 1 = (n : Int) := by omega
        have k5 : (n : Int) + 1 + (m : Int) - 1 = (n : Int) + (m : Int) := by omega
        have k8 : wrap64 ((n : Int) + 1 + (m : Int)) = (n : Int) + 1 + (m : Int) := by rw [small_wrap (n + 1 + m) (by have := HV.out; omega) (by omega)]; omega
        have k9 : wrap64 ((n : Int) + 1 + (m : Int) - 1) = (n : Int) + (m : Int) := by clear k8; rw [small_wrap (n + m) (by have := HV.out; omega) (by omega)]; omega
        have k10 : ((n : Int) + (m : Int) != (n : Int) + (m : Int)) = false := by simp
        have k11 : IntKind.i64.wrap ((n : Int) + 1 + (m : Int)) = (n : Int) + 1 + (m : Int) := by clear k8 k9; rw [IntKind.wrap_i64]; omega
        have k12 : IntKind.i64.wrap ((n : Int) + (m : Int)) = (n : Int) + (m : Int) := by clear k8 k9 k11; rw [IntKind.wrap_i64]; omega
        have k13 : IntKind.i64.wrap (n : Int) = (n : Int) := by clear k8 k9 k11 k12; rw [IntKind.wrap_i64]; omega
        have k6 : n ≤ cc3 := by clear k8 k9 k11 k12 k13; omega
        have k7 : n ≤ cc1 := by clear k8 k9 k11 k12 k13; omega
        go_upto_region 6 with fail
        go_region_held3 (fun W => Ext w3 W)
          (first | assumption | exact Ext.refl _ | exact (Ext.refl _).drew)
          (first | (go_at_call 9; refine (HS.out _ (by first | assumption | exact Ext.refl _ | exact (Ext.refl _).drew)).mono ?_; rintro x5 w4 ⟨rfl, E4⟩; have X4 : Ext w3 w4 := (Ext.trans (by first | assumption | exact Ext.refl _ | exact (Ext.refl _).drew) E4)))
        have HX4 : Hid (Ext w3 w4) := X4
        have HB0 : Hid (a0.size ≤ 300) := hsA
        have hsI : (a0.size : Int) ≤ 300 := by clear k8 k9 k11 k12 k13; omega
        clear X4 E4 k5 k6 k7 k8 k9 k10 k11 k12 k13 hsA hsB HQ1 HQ2 hq1s hq1e e1
        go_wp2_with fail
        go_loopw [14] (fun x wr => ∃ i : Nat, x = .int .i64 (i : Int) ∧ i ≤ m ∧ Ext w3 wr) (fun x _ => m - (intOf x).toNat)
        case atStart => exact ⟨0, rfl, Nat.zero_le _, HX4.out⟩
        case round =>
          obtain ⟨i, rfl, hi, hE⟩ := hrel
          have HE : Hid (Ext w3 wr) := hE
          clear hE
          by_cases hin : i < m
          · have hiI : (i : Int) < (m : Int) := by omega
            have HI : Hid (i + 1 ≤ m ∧ i + 1 ≤ 100000 ∧ m - (i + 1) < m - i) := ⟨hin, by omega, by omega⟩
            obtain ⟨b2', o2', t, hpp, ht, y1, hc⟩ := HR3.out.2.1.at (k := i) (by rw [HN.out.2]; exact hin)
            simp at hpp
            obtain ⟨rfl, rfl⟩ := hpp
            obtain ⟨x, hx⟩ : ∃ x, n + i = x := ⟨_, rfl⟩
            have hu := HV.out.2.2.1 i t ht
            rw [hx] at hu
            obtain ⟨b3', o3', u, hpp, hu', y2, hc'⟩ := HR3.out.2.2.1.at (k := x) (by rw [HV.out.1]; omega)
            simp at hpp
            obtain ⟨rfl, rfl⟩ := hpp
            rw [hu] at hu'
            cases hu'
            obtain ⟨a, hq0, ⟨ga, gb, hq1, hq2⟩, hq3⟩ := HO.out.1.at us 0 i t ht
            clear hq0 hq1 hq2 hq3 y1 y2
            obtain ⟨t0, t1, t2, t3, t4⟩ := t
            simp only [] at ga
            subst ga
            obtain ⟨d0, d1, d2, d3, d4⟩ := hc _ HE.out
            have es : (a : Int) + ((a0.size + 1 : Nat) : Int) = (a : Int) + (a0.size : Int) + 1 := by omega
            have HC : Hid (∀ W, Ext w3 W → W.cell? ⟨b3, o3 + x * 5, none⟩ = some (.int .i64 t0) ∧ W.cell? ⟨b3, o3 + x * 5 + 1, none⟩ = some (.int .i64 ((a : Int) + (a0.size : Int) + 1)) ∧ W.cell? ⟨b3, o3 + x * 5 + 2, none⟩ = some (.string (bs t2)) ∧ W.cell? ⟨b3, o3 + x * 5 + 3, none⟩ = some (.int .i64 t3) ∧ W.cell? ⟨b3, o3 + x * 5 + 4, none⟩ = some (.int .i64 t4)) := by
              intro W hW
              have h := hc' W hW
              simp only [mvT] at h
              rw [es] at h
              exact h
            have HG : Hid (a ≤ 1000) := by have := HO.out.2; show _ ≤ _; omega
            have ha1 : (a : Int) ≤ 1000 := by have := HG.out; omega
            have ha0 : (0 : Int) ≤ (a : Int) := by omega
            have hxI : (n : Int) + (i : Int) = (x : Int) := by omega
            have hx1 : (x : Int) < (n : Int) + (m : Int) := by omega
            have hx0 : (0 : Int) ≤ (x : Int) := by omega
            have qE := eq_tk (t0, (a : Int) + (a0.size : Int) + 1, t2, t3, t4) (t0, (a : Int) + (a0.size : Int) + 1, t2, t3, t4)
            have qG := gd_tk
            simp only [decide_true] at qE
            simp only [] at d0 d1 d2 d3 d4
            have HXX : Hid (n + i = x) := hx
            clear ht hu hc hc' gb es hx hi hin
            go_upto_region 13 with fail
            have B5 : Blk5 (wr.alloc (.cells #[.int .i64 t0, .int .i64 ((a : Int) + (a0.size : Int) + 1), .string (bs t2), .int .i64 t3, .int .i64 t4] 30)) wr.heap.size (.int .i64 t0) (.int .i64 ((a : Int) + (a0.size : Int) + 1)) (.string (bs t2)) (.int .i64 t3) (.int .i64 t4) := blk5_top rfl (Ext.refl _)
            have HW : Hid (Ext w3 (wr.alloc (.cells #[.int .i64 t0, .int .i64 ((a : Int) + (a0.size : Int) + 1), .string (bs t2), .int .i64 t3, .int .i64 t4] 30))) := HE.out.alloc _
            obtain ⟨c0, c1, c2, c3, c4⟩ := HC.out _ HW.out
            clear d0 d1 d2 d3 d4
            obtain ⟨hzz, ⟨d0, d1, d2, d3, d4⟩, hzf⟩ := B5
            clear hzz hzf
            generalize wr.alloc (.cells #[.int .i64 t0, .int .i64 ((a : Int) + (a0.size : Int) + 1), .string (bs t2), .int .i64 t3, .int .i64 t4] 30) = w7 at *
            go_quiet (fail)
            go_wp2_with fail
            go_roundw
            case rel => exact ⟨i + 1, by go_num, HI.out.1, HW.out.drewN _⟩
            case measure => have := HI.out.2.2; simpa [intOf] using this
          · have hiI : ¬ (i : Int) < (m : Int) := by omega
            have HY : Hid (Ext w wr) := HR3.out.2.2.2.1.trans HE.out
            have c4 := llives_any wr (HT.out.ext HY.out)
            go_wp2_with fail
            refine c4.mono ?_
            rintro x4 w5 ⟨rfl, E5⟩
            have HE5 : Hid (Ext w w5) := HY.out.trans E5
            clear E5
            go_wp2_with fail
            go_ret
            exact ⟨rfl, HE5.out⟩
    · rw [hr] at c1
      rw [hq] at c2
      simp only [] at c1 c2
      have hc0 : (c != 0) = true := by rcases hc with rfl | rfl <;> rfl
      clear hr hq hW hz0 hc hx
      go_enter Tryd.func6, Tryd.ntmps6
      go_wp2_with fail
      refine c1.mono ?_
      rintro x1 w1 ⟨v, rfl, R1, E1⟩
      have HR1 : Hid (Ext w w1) := E1
      clear R1 E1
      go_wp2_with fail
      refine (c2 _ (HT.out.ext HR1.out)).mono ?_
      rintro x2 w2 ⟨u, rfl, R2, E2⟩
      have HR2 : Hid (Ext w w2) := HR1.out.trans E2
      clear R2 E2 c1 c2
      have c4 := llives_any w2 (HT.out.ext HR2.out)
      go_wp2_with fail
      refine c4.mono ?_
      rintro x4 w4 ⟨rfl, E4⟩
      have HE4 : Hid (Ext w w4) := HR2.out.trans E4
      clear E4
      go_wp2_with fail
      go_ret
      exact ⟨rfl, HE4.out⟩
  · rw [hr] at c1
    simp only [] at c1
    have hc0 : (c != 0) = true := by rcases hc with rfl | rfl <;> rfl
    clear hr hc hx
    obtain ⟨⟨us, p2, c5⟩, hq⟩ : ∃ x, lexR r = x := ⟨_, rfl⟩
    rw [hq] at c2
    simp only [] at c2
    clear hq
    go_enter Tryd.func6, Tryd.ntmps6
    go_wp2_with fail
    refine c1.mono ?_
    rintro x1 w1 ⟨v, rfl, R1, E1⟩
    have HR1 : Hid (Ext w w1) := E1
    clear R1 E1
    go_wp2_with fail
    refine (c2 _ (HT.out.ext HR1.out)).mono ?_
    rintro x2 w2 ⟨u, rfl, R2, E2⟩
    have HR2 : Hid (Ext w w2) := HR1.out.trans E2
    clear R2 E2 c1 c2
    have c4 := llives_any w2 (HT.out.ext HR2.out)
    go_wp2_with fail
    refine c4.mono ?_
    rintro x4 w4 ⟨rfl, E4⟩
    have HE4 : Hid (Ext w w4) := HR2.out.trans E4
    clear E4
    go_wp2_with fail
    go_ret
    exact ⟨rfl, HE4.out⟩

theorem contract (H : Type) (enc : TypeId × Value → H) (W : World) (base : Nat) (args : Array Value) (ds gs : List (DataW H)) (before : List MemPlace)
    (hval0 : ∀ (j : Nat) t v, Tryd.f6.params[j]? = some t → args[j]? = some v → Value.okWide Tryd.prog W .any base t v)
    (hW : DataW.Whole enc Tryd.prog Tryd.f6.params.toList Rows.lexJoinsSpec.vars false W args.toList ds gs before) (hsz0 : (DataW.weightsEach Tryd.prog (Tryd.f6.params.toList ++ (OpenSpec.ofChange Rows.lexJoinsSpec).bare.plain.varTypes Tryd.prog) (ds ++ gs)).all (· ≤ reachBytes) = true) (hL : laidMetH Tryd.prog Rows.lexJoinsRow.laid W) :
    Calls Tryd.prog 6 args W fun e W' => ∃ v, e = .returned v ∧ Rows.lexJoinsSpec.post enc Tryd.prog Tryd.f6 false true false false W args v W' := by
  have hval : ∀ (j : Nat) t v, Tryd.f6.params[j]? = some t → args[j]? = some v → Value.okWide Tryd.prog W .any base t v := hval0
  have hW' := hW
  obtain ⟨p, q, hA0, hV, rfl, hfz, hnd⟩ := hW
  have hA : DataW.TrodAll enc Tryd.prog W 0 (fun _ => true) true Tryd.f6.params.toList args.toList ds p := hA0
  rw [Tryd.params6] at hA hval
  obtain ⟨v0, vs0, d0, ds0, p0, q0, hargs, rfl, rfl, h0, r0⟩ := trodAll_cons hA
  obtain ⟨v1, vs1, d1, ds1, p1, q1, rfl, rfl, rfl, h1, r1⟩ := trodAll_cons r0
  obtain ⟨rfl, rfl, rfl⟩ := trodAll_nil r1
  obtain rfl : args = #[v0, v1] := by cases args; simp_all
  obtain ⟨rfl, rfl⟩ := trodVars_none hV
  obtain ⟨a0, rfl, rfl, rfl, w0⟩ := open_string Tryd.underlying9 (hval 0 9 v0 rfl rfl) h0
  obtain ⟨a1, rfl, rfl, rfl, w1⟩ := open_string Tryd.underlying9 (hval 1 9 v1 rfl rfl) h1
  have g0 : a0.size ≤ 140737488351232 := by
    have h := sized_string hsz0 (j := 0) (t := 9) rfl rfl
    rw [size_list] at h
    exact h
  have g1 : a1.size ≤ 140737488351232 := by
    have h := sized_string hsz0 (j := 1) (t := 9) rfl rfl
    rw [size_list] at h
    exact h
  clear hA0 hval0 hsz0
  simp only [List.append_nil] at hW'
  refine (walk a0 a1 w0 w1 W (tab_of hL) g0 g1).mono fun e W' ⟨he, bel⟩ => ?_
  subst he
  exact ⟨_, rfl, _, _, _, [], [], [], hW', trodAll_mk1 (shut_bool Tryd.underlying4 _), (trodAll_cons_mk (shut_string Tryd.underlying9 w0) (trodAll_cons_mk (shut_string Tryd.underlying9 w1) trodAll_mk0)), rfl, Below.frame bel _, fun h => by cases h⟩

theorem laid_met (os : Os) : laidMet Tryd.prog Rows.lexJoinsRow.laid ((laidWorld os).forCall (fun _ _ => 0) ⟨#[], #[.string ⟨#[]⟩, .string ⟨#[]⟩], []⟩).memory :=
  laidMet_of_run' 8 (by kernel_rfl) (by kernel_rfl)
theorem reads (os : Os) {H : Type} (enc : TypeId × Value → H) : ∃ places, DataW.whole enc Tryd.prog ((laidWorld os).forCall (fun _ _ => 0) ⟨#[], #[.string ⟨#[]⟩, .string ⟨#[]⟩], []⟩).memory Tryd.f6.params.toList Rows.lexJoinsSpec.vars false (#[.string ⟨#[]⟩, .string ⟨#[]⟩] : Array Value).toList 8 = some ([.lit (.string []), .lit (.string [])], [], places) :=
  ⟨[], by kernel_rfl⟩

set_option maxRecDepth 100000 in
theorem lifted (os : Os) (started : os.Started) (H : Type) (enc : TypeId × Value → H) (F : Stop.Interp) :
    ReturnsInHanded {} Tryd.checked os 6 .any ((OpenSpec.ofChange Rows.lexJoinsSpec).preRow enc Tryd.prog Tryd.f6 Rows.lexJoinsRow.domain false Rows.lexJoinsRow.laid) (((OpenSpec.ofChange Rows.lexJoinsSpec).at F).post enc Tryd.prog Tryd.f6 false true false false) := by
  obtain ⟨places, hx⟩ := reads os enc
  refine returnsInHanded_of_row (C := Tryd.checked) (s := OpenSpec.ofChange Rows.lexJoinsSpec) ownK started (by kernel_rfl) Tryd.func6
    (witness_row_at (enc := enc) (C := Tryd.checked) false (laidWorld os) #[.string ⟨#[]⟩, .string ⟨#[]⟩] rfl (by kernel_rfl) (by kernel_rfl) (by kernel_rfl)
      (OpenSpec.preRow_of_cond 8 hx (by kernel_rfl) (fun k hk => by cases hk) (by kernel_rfl) (by
        rw [MakeChecks.laidMetH_plain _ _ _ (by kernel_rfl)]
        exact laid_met os))) ?_
  intro W base args ds gs before hval hW _ _ hsz hL _ _
  exact contract H enc W base args ds gs before hval hW hsz hL

theorem said : Rows.LexJoinsSaid :=
  OpenClaim.holds_of_cond 6 Tryd.f6 rfl rfl rfl rfl rfl rfl rfl ⟨rfl, rfl, rfl, rfl, rfl⟩ rfl rfl rfl rfl rfl (by kernel_rfl) Tryd.func6 (by kernel_rfl)
    (of_decide_eq_true (by kernel_rfl)) (by unfold Func.isWrapper; first | (rw [if_pos (by decide +kernel)]; kernel_rfl) | (rw [if_neg (by decide +kernel)]; exact ⟨rfl, rfl⟩))
    (fun os started H enc _ F => by rw [OpenClaim.pre_eq_preRow]; exact lifted os started H enc F)

theorem plain (f : FuncId) (fn : Func) (hf : Tryd.pinned.checked.prog.funcNamed Rows.lexJoinsRow.func = some f) (hfn : Tryd.pinned.checked.prog.funcs[f]? = some fn) :
    true = Tryd.pinned.checked.prog.looks [] ∧ ∀ (j : Nat) t, fn.params[j]? = some t → Tryd.pinned.checked.prog.wantsStandIn t = false := by
  obtain rfl : f = 6 := Option.some.inj ((show Tryd.prog.funcNamed Rows.lexJoinsRow.func = some 6 by kernel_rfl).symm.trans hf) |>.symm
  obtain rfl : fn = Tryd.f6 := (Option.some.inj (Tryd.func6.symm.trans hfn)).symm
  refine ⟨by kernel_rfl, fun j t ht => ?_⟩
  rw [Tryd.params6] at ht
  have hm : t ∈ [9, 9] := by simpa using Array.mem_of_getElem? ht
  have hall : ([9, 9].all fun u => !Tryd.prog.wantsStandIn u) = true := by kernel_rfl
  exact (show Tryd.prog.wantsStandIn t = false by simpa using List.all_eq_true.1 hall t hm)

theorem card : Rows.LexJoinsCardSaid :=
  Claim7.holds_tied_plain_at .later [] _ _ _ _ said (fun _ h => by cases h) (by kernel_rfl) (fun _ h => by cases h) lexJoins_row_tie rfl ⟨rfl, rfl⟩ (by kernel_rfl) rfl plain (by kernel_rfl)
end Go.Proofs.YtfppjnigbodphaaDoor.lexJoins
namespace Go.Proofs.YtfppjnigbodphaaDoor
theorem lexJoins_card : Rows.LexJoinsCardSaid := lexJoins.card
end Go.Proofs.YtfppjnigbodphaaDoor

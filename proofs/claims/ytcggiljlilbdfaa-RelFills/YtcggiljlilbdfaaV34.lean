/-
 The contract of the document's Parse (references).
-/
import Derived.Test.YtcggiljlilbdfaaV13
import Derived.Deep.CutBlock
import Derived.Deep.DeepCutAuto
import Derived.Deep.Light
namespace Go.Proofs.Ytcggiljlilbdfaa
open Go.RowKit
set_option maxHeartbeats 1000000

/-- The state: nothing has turned, the result's block is as it was, and what has been read. -/
def CSt (w wx : World) (r c : Int) (ar ac : Bool) : Prop := Ext w wx ∧ Blk wx w.heap.size (.int .i64 0) (.int .i64 0) (.bool false) (.bool false) ∧ Blk wx (w.heap.size + 1) (.int .i64 r) (.int .i64 c) (.bool ar) (.bool ac)
theorem dl_at (s : ByteArray) (k : Nat) : (s.size ≤ k → dlB (s.data.toList.drop k) = false) ∧ (∀ h : k < s.size, dlB (s.data.toList.drop k) = decide ((s[k].toNat : Int) = 36)) := by
 constructor
 · intro h
   rw [List.drop_of_length_le (by rw [size_list]; exact h)]; rfl
 · intro h
   unfold dlB
   rw [List.drop_eq_getElem_cons (by rw [size_list]; exact h)]
   show (some (s.data.toList[k]'_) == some 36) = _
   rw [get_list s k h, Bool.eq_iff_iff]
   simp
   constructor
   · intro e; rw [e]; rfl
   · intro e; exact u8_eq (by show s[k].toNat = 36; omega)
theorem undl_drop (l : List UInt8) (k : Nat) : undl (l.drop k) = l.drop (k + if dlB (l.drop k) then 1 else 0) := by
 unfold undl
 split
 · rw [List.tail_drop]
 · rfl
theorem Blk.put0 {w : World} {b : Nat} {x0 x1 x2 x3 : Value} (h : Blk w b x0 x1 x2 x3) (v : Value) : Blk (w.setCell ⟨b, 0, none⟩ v) b v x1 x2 x3 := by
 obtain ⟨z, ⟨k0, k1, k2, k3⟩, f0, f1, f2, f3⟩ := h
 refine ⟨by simpa [World.setCell] using z, ⟨World.cell?_setCell_same w ⟨b, 0, none⟩ v (by rw [k0]), ?_, ?_, ?_⟩, ?_, ?_, ?_, ?_⟩
 · rw [World.cell?_setCell_other _ _ _ _ (by simp)]; exact k1
 · rw [World.cell?_setCell_other _ _ _ _ (by simp)]; exact k2
 · rw [World.cell?_setCell_other _ _ _ _ (by simp)]; exact k3
 all_goals (rw [World.frozen?_setCell]; assumption)
theorem Blk.put1 {w : World} {b : Nat} {x0 x1 x2 x3 : Value} (h : Blk w b x0 x1 x2 x3) (v : Value) : Blk (w.setCell ⟨b, 1, none⟩ v) b x0 v x2 x3 := by
 obtain ⟨z, ⟨k0, k1, k2, k3⟩, f0, f1, f2, f3⟩ := h
 refine ⟨by simpa [World.setCell] using z, ⟨?_, World.cell?_setCell_same w ⟨b, 1, none⟩ v (by rw [k1]), ?_, ?_⟩, ?_, ?_, ?_, ?_⟩
 · rw [World.cell?_setCell_other _ _ _ _ (by simp)]; exact k0
 · rw [World.cell?_setCell_other _ _ _ _ (by simp)]; exact k2
 · rw [World.cell?_setCell_other _ _ _ _ (by simp)]; exact k3
 all_goals (rw [World.frozen?_setCell]; assumption)
theorem Blk.put2 {w : World} {b : Nat} {x0 x1 x2 x3 : Value} (h : Blk w b x0 x1 x2 x3) (v : Value) : Blk (w.setCell ⟨b, 2, none⟩ v) b x0 x1 v x3 := by
 obtain ⟨z, ⟨k0, k1, k2, k3⟩, f0, f1, f2, f3⟩ := h
 refine ⟨by simpa [World.setCell] using z, ⟨?_, ?_, World.cell?_setCell_same w ⟨b, 2, none⟩ v (by rw [k2]), ?_⟩, ?_, ?_, ?_, ?_⟩
 · rw [World.cell?_setCell_other _ _ _ _ (by simp)]; exact k0
 · rw [World.cell?_setCell_other _ _ _ _ (by simp)]; exact k1
 · rw [World.cell?_setCell_other _ _ _ _ (by simp)]; exact k3
 all_goals (rw [World.frozen?_setCell]; assumption)
theorem Blk.put3 {w : World} {b : Nat} {x0 x1 x2 x3 : Value} (h : Blk w b x0 x1 x2 x3) (v : Value) : Blk (w.setCell ⟨b, 3, none⟩ v) b x0 x1 x2 v := by
 obtain ⟨z, ⟨k0, k1, k2, k3⟩, f0, f1, f2, f3⟩ := h
 refine ⟨by simpa [World.setCell] using z, ⟨?_, ?_, ?_, World.cell?_setCell_same w ⟨b, 3, none⟩ v (by rw [k3])⟩, ?_, ?_, ?_, ?_⟩
 · rw [World.cell?_setCell_other _ _ _ _ (by simp)]; exact k0
 · rw [World.cell?_setCell_other _ _ _ _ (by simp)]; exact k1
 · rw [World.cell?_setCell_other _ _ _ _ (by simp)]; exact k2
 all_goals (rw [World.frozen?_setCell]; assumption)
theorem CSt.set {w wx : World} {r c r' c' : Int} {ar ac ar' ac' : Bool} (h : CSt w wx r c ar ac) (o : Nat) (v : Value)
   (hB : Blk wx (w.heap.size + 1) (.int .i64 r) (.int .i64 c) (.bool ar) (.bool ac) → Blk (wx.setCell ⟨w.heap.size + 1, o, none⟩ v) (w.heap.size + 1) (.int .i64 r') (.int .i64 c') (.bool ar') (.bool ac')) :
   CSt w (wx.setCell ⟨w.heap.size + 1, o, none⟩ v) r' c' ar' ac' :=
 ⟨h.1.setCell (by simp) _, h.2.1.far1 (by omega) _ _, hB h.2.2⟩
theorem CSt.ext {w wx wy : World} {r c : Int} {ar ac : Bool} (h : CSt w wx r c ar ac) (e : Ext wx wy) : CSt w wy r c ar ac := ⟨h.1.trans e, h.2.1.ext e, h.2.2.ext e⟩
/-- Letters from a place on. -/
theorem run_facts (p : UInt8 → Bool) (s : ByteArray) (a : Nat) (ha : a ≤ s.size) :
   ∃ n : Nat, a + n ≤ s.size ∧ (s.data.toList.drop a).takeWhile p = (s.data.toList.drop a).take n ∧ (s.data.toList.drop a).dropWhile p = s.data.toList.drop (a + n) ∧
     (∀ j (h : j < s.size), a ≤ j → j < a + n → p (s[j]'h) = true) ∧ (∀ h : a + n < s.size, p (s[a + n]'h) = false) := by
 have e := List.takeWhile_append_dropWhile (p := p) (l := s.data.toList.drop a)
 have hl := size_list s
 refine ⟨((s.data.toList.drop a).takeWhile p).length, ?_, ?_, ?_, ?_, ?_⟩
 · have := congrArg List.length e
   rw [List.length_append, List.length_drop] at this
   omega
 · have := congrArg (List.take ((s.data.toList.drop a).takeWhile p).length) e
   rw [List.take_left' rfl] at this
   exact this
 · have := congrArg (List.drop ((s.data.toList.drop a).takeWhile p).length) e
   rw [List.drop_left' rfl, List.drop_drop] at this
   exact this
 · intro j h h1 h2
   have hm := List.all_eq_true.1 (List.all_takeWhile (p := p) (l := s.data.toList.drop a)) (s[j]'h)
   apply hm
   have : ((s.data.toList.drop a).takeWhile p)[j - a]? = some (s[j]'h) := by
     rw [← List.getElem?_append_left (l₂ := (s.data.toList.drop a).dropWhile p) (by omega), e, List.getElem?_drop, show a + (j - a) = j from by omega]
     exact at_get s j h
   exact List.mem_of_getElem? this
 · intro h
   apply dw_head (p := p) (s.data.toList.drop a)
   have : (s.data.toList.drop a).dropWhile p = s.data.toList.drop (a + ((s.data.toList.drop a).takeWhile p).length) := by
     have := congrArg (List.drop ((s.data.toList.drop a).takeWhile p).length) e
     rw [List.drop_left' rfl, List.drop_drop] at this
     exact this
   rw [this, List.head?_drop]
   exact at_get s _ h
theorem colN_long (l : List UInt8) (h : 2 < l.length) : colN l = 0 := by
 by_cases g : colN l = 0
 · exact g
 · have := name_colN l g
   have h2 := name_len (colN l)
   rw [this] at h2; omega
theorem row_bad {l : List UInt8} {k : Nat} {c : UInt8} (h : l[k]? = some c) (hc : dgB c = false) : rowOk l = false := by
 unfold rowOk
 have : l.all dgB = false := by
   rw [List.all_eq_false]; exact ⟨c, List.mem_of_getElem? h, by simp [hc]⟩
 rw [this]; rfl
theorem row_nought {l : List UInt8} (h : l.head? = some 48) : rowOk l = false := by
 unfold rowOk; rw [h]; simp
theorem row_long {l : List UInt8} (h : 4 < l.length) : rowOk l = false := by
 unfold rowOk
 rw [show decide (l.length ≤ 4) = false from decide_eq_false (by omega)]; simp
set_option maxRecDepth 100000 in
theorem rparse6_any (s : ByteArray) (w : World) (hs : s.size ≤ maxLen) :
   Calls Try.prog 121 #[.string s] w fun e w' => e = .returned (.tuple #[prV s.data.toList, .bool (okP s.data.toList)]) ∧ Ext w w' := by
 unfold maxLen at hs
 have hsI : (s.size : Int) ≤ 9223372036854775807 := by omega
 have hl := size_list s
 have HV : Hid (prV s.data.toList = if okR s.data.toList then refD (val (dgR s.data.toList)) (colN (nmR s.data.toList)) (dlB (rsR s.data.toList)) (dlB s.data.toList) else refD 0 0 false false) := prV_R _
 have HO : Hid (okP s.data.toList = okR s.data.toList) := ok_eq _
 have HD0 := dl_at s 0
 rw [List.drop_zero] at HD0
 obtain ⟨a, ha⟩ : ∃ a : Nat, a = if dlB s.data.toList then 1 else 0 := ⟨_, rfl⟩
 have HA : Hid (a = if dlB s.data.toList then 1 else 0) := ha
 have hu : undl s.data.toList = s.data.toList.drop a := by
   have := undl_drop s.data.toList 0
   rw [List.drop_zero, Nat.zero_add] at this
   rw [this, ha]
 have hal : a ≤ s.size := by
   rw [ha]; split
   · rename_i h
     by_cases g : s.size ≤ 0
     · rw [HD0.1 g] at h; cases h
     · omega
   · omega
 have ha1 : a ≤ 1 := by rw [ha]; split <;> omega
 have H1 : Hid (s.size ≤ 0 → dlB s.data.toList = false) := HD0.1
 have H2 : Hid (∀ h : 0 < s.size, dlB s.data.toList = decide ((s[0].toNat : Int) = 36)) := HD0.2
 clear HD0 ha
 go_enter Try.func121, Try.ntmps121
 go_upto_region 2 with fail
 obtain ⟨W0, hW0⟩ : ∃ W0, W0 = (w.alloc (.cells #[.int .i64 0, .int .i64 0, .bool false, .bool false] 23)).alloc (.cells #[.int .i64 0, .int .i64 0, .bool false, .bool false] 23) := ⟨_, rfl⟩
 have S0 : CSt w W0 0 0 false false := by
   rw [hW0]
   exact ⟨((Ext.refl _).alloc _).alloc _, (blk_top rfl (Ext.refl _)).al _, blk_top (by simp) (Ext.refl _)⟩
 rw [← hW0]
 clear hW0
 go_cut [18] (fun v wx => v = .bool (dlB s.data.toList) ∧ wx = W0)
 case first =>
   by_cases h0 : 0 < s.size
   · have h0I : (0 : Int) < s.size := by omega
     by_cases h1 : (s[0].toNat : Int) = 36
     · have HB : Hid (dlB s.data.toList = true) := by show _ = _; rw [H2.out h0]; simpa using h1
       have h1' : ((s[0].toNat : Int) == 36) = true := by simpa using h1
       clear h1
       go_wp2_with fail
       go_meet
       case rel => exact ⟨by rw [HB.out], rfl⟩
     · have HB : Hid (dlB s.data.toList = false) := by show _ = _; rw [H2.out h0]; simpa using h1
       have h1' : ((s[0].toNat : Int) == 36) = false := by simpa using h1
       clear h1
       go_wp2_with fail
       go_meet
       case rel => exact ⟨by rw [HB.out], rfl⟩
   · have HB : Hid (dlB s.data.toList = false) := H1.out (by omega)
     have h0I : ¬ (0 : Int) < s.size := by omega
     go_wp2_with fail
     go_meet
     case rel => exact ⟨by rw [HB.out], rfl⟩
 case rest =>
   obtain ⟨rfl, rfl⟩ := hcut
   clear H1 H2
   go_upto_if 18 with fail
   go_cut [5] (fun v wx => v = .int .i64 (a : Int) ∧ CSt w wx 0 0 false (dlB s.data.toList))
   case first =>
     have S1 := S0
     obtain ⟨_, _, ⟨_, ⟨k0, k1, k2, k3⟩, f0, f1, f2, f3⟩⟩ := S1
     cases hd : dlB s.data.toList
     · have ea : a = 0 := by rw [HA.out, hd]; rfl
       subst ea
       go_wp2_with fail
       go_meet
       case rel => exact ⟨rfl, by rw [hd]; exact S0⟩
     · have ea : a = 1 := by rw [HA.out, hd]; rfl
       subst ea
       go_wp2_with fail
       go_meet
       case rel => exact ⟨rfl, by rw [hd]; exact S0.set 3 _ (fun b => b.put3 _)⟩
   case rest =>
     clear S0 HA
     obtain ⟨rfl, S0⟩ := hcut
     obtain ⟨n, hn, t1, t2, t3, t4⟩ := run_facts upB s a hal
     obtain ⟨E, hE⟩ : ∃ E : Nat, E = a + n := ⟨_, rfl⟩
     rw [← hE] at hn t2
     have T3 : Hid (∀ j (h : j < s.size), a ≤ j → j < E → (65 : Int) ≤ (s[j].toNat : Int) ∧ (s[j].toNat : Int) ≤ 90) := by
       intro j h h1 h2
       have := t3 j h h1 (by omega)
       unfold upB at this; simp at this; omega
     have T4 : Hid (∀ h : E < s.size, ¬ ((65 : Int) ≤ (s[E].toNat : Int) ∧ (s[E].toNat : Int) ≤ 90)) := by
       intro h g
       subst hE
       have := t4 h
       unfold upB at this; simp at this; omega
     have N1 : Hid (nmR s.data.toList = (s.extract a E).data.toList) := by
       show _ = _
       unfold nmR; rw [hu, t1, Lib.extract_data, hE, Nat.add_sub_cancel_left]
     have N2 : Hid (rsR s.data.toList = s.data.toList.drop E) := by
       show _ = _
       unfold rsR; rw [hu, t2]
     have haE : a ≤ E := by omega
     clear t1 t2 t3 t4 hE
     go_upto_block 0 with fail
     go_cut [5] (fun v wx => v = .int .i64 (E : Int) ∧ wx = wc)
     case first =>
       go_wp2_with fail
       go_loop [5] (fun v => ∃ p : Nat, v = .int .i64 (p : Int) ∧ a ≤ p ∧ p ≤ E) (fun v => s.size - (intOf v).toNat)
       case atStart => exact ⟨a, rfl, Nat.le_refl _, haE⟩
       case round =>
         obtain ⟨p, rfl, p1, p2⟩ := hrel
         by_cases hp : p < E
         · have hps : p < s.size := by omega
           obtain ⟨g1, g2⟩ := T3.out p hps p1 hp
           have hpI : (p : Int) < s.size := by omega
           go_wp2_with fail
           go_round
           case rel => exact ⟨p + 1, by go_num, by omega, by omega⟩
           case measure => simp [intOf]; omega
         · obtain rfl : p = E := by omega
           by_cases hps : p < s.size
           · have hpI : (p : Int) < s.size := by omega
             by_cases g : (65 : Int) ≤ (s[p].toNat : Int)
             · have g' : ¬ (s[p].toNat : Int) ≤ 90 := fun k => T4.out hps ⟨g, k⟩
               go_wp2_with fail
               go_meet
               case rel => exact ⟨rfl, rfl⟩
             · go_wp2_with fail
               go_meet
               case rel => exact ⟨rfl, rfl⟩
           · have hpI : ¬ (p : Int) < s.size := by omega
             go_wp2_with fail
             go_meet
             case rel => exact ⟨rfl, rfl⟩
     case rest =>
       obtain ⟨rfl, rfl⟩ := hcut
       clear T3 T4
       have cN := fun W => rcolnumber_any (s.extract a E) W
       rw [← N1.out] at cN
       have hNl : (nmR s.data.toList).length = E - a := by rw [N1.out, size_list, ByteArray.size_extract]; omega
       have HC0 : Hid (2 < E - a → colN (nmR s.data.toList) = 0) := fun h => colN_long _ (by omega)
       have HD := dl_at s E
       rw [← N2.out] at HD
       obtain ⟨A, hA⟩ : ∃ A : Nat, A = E + if dlB (rsR s.data.toList) then 1 else 0 := ⟨_, rfl⟩
       have HA : Hid (A = E + if dlB (rsR s.data.toList) then 1 else 0) := hA
       have hdg : dgR s.data.toList = s.data.toList.drop A := by
         unfold dgR; rw [hA, N2.out]; exact undl_drop _ _
       have hAl : A ≤ s.size := by
         rw [hA]; split
         · rename_i h
           by_cases g : s.size ≤ E
           · rw [HD.1 g] at h; cases h
           · omega
         · omega
       have hAE : A ≤ E + 1 := by rw [hA]; split <;> omega
       have hEA : E ≤ A := by rw [hA]; omega
       have H1 : Hid (s.size ≤ E → dlB (rsR s.data.toList) = false) := HD.1
       have H2 : Hid (∀ h : E < s.size, dlB (rsR s.data.toList) = decide ((s[E].toNat : Int) = 36)) := HD.2
       have eI1 : (a : Int) ≤ E := by omega
       have eI2 : (E : Int) ≤ s.size := by omega
       clear HD hA hNl N1 N2 hu
       generalize dlB (rsR s.data.toList) = d2 at *
       generalize dlB s.data.toList = d1 at *
       obtain ⟨k, hk⟩ : ∃ k : Nat, k = colN (nmR s.data.toList) := ⟨_, rfl⟩
       have hk52 : (k : Int) ≤ 52 := by rw [hk]; have := colN_le (nmR s.data.toList); omega
       rw [← hk] at cN HV HC0
       have HK : Hid (k = colN (nmR s.data.toList)) := hk
       clear hk
       go_wp2_with fail
       refine (cN _).mono ?_
       rintro e w1 ⟨rfl, E1⟩
       have S1 := S0.ext E1
       clear S0 E1 cN
       have S2 := S1
       obtain ⟨_, _, ⟨_, ⟨k0, k1, k2, k3⟩, f0, f1, f2, f3⟩⟩ := S2
       go_upto_region 9 with fail
       have S2 : CSt w (w1.setCell ⟨w.heap.size + 1, 1, none⟩ (.int .i64 k)) 0 k false d1 := S1.set 1 _ (fun b => b.put1 _)
       generalize w1.setCell ⟨w.heap.size + 1, 1, none⟩ (.int .i64 k) = W2 at *
       clear S1 k0 k1 k2 k3 f0 f1 f2 f3
       go_cut [56] (fun v wx => v = .bool d2 ∧ wx = W2)
       case first =>
         by_cases h0 : E < s.size
         · have h0I : (E : Int) < s.size := by omega
           by_cases h1 : (s[E].toNat : Int) = 36
           · have HB : Hid (d2 = true) := by show _ = _; rw [H2.out h0]; simpa using h1
             have h1' : ((s[E].toNat : Int) == 36) = true := by simpa using h1
             clear h1
             go_wp2_with fail
             go_meet
             case rel => exact ⟨by rw [HB.out], rfl⟩
           · have HB : Hid (d2 = false) := by show _ = _; rw [H2.out h0]; simpa using h1
             have h1' : ((s[E].toNat : Int) == 36) = false := by simpa using h1
             clear h1
             go_wp2_with fail
             go_meet
             case rel => exact ⟨by rw [HB.out], rfl⟩
         · have HB : Hid (d2 = false) := H1.out (by omega)
           have h0I : ¬ (E : Int) < s.size := by omega
           go_wp2_with fail
           go_meet
           case rel => exact ⟨by rw [HB.out], rfl⟩
       case rest =>
         obtain ⟨rfl, rfl⟩ := hcut
         clear H1 H2
         go_upto_if 56 with fail
         go_cut [5] (fun v wx => v = .int .i64 (A : Int) ∧ CSt w wx 0 k d2 d1)
         case first =>
           have S1 := S2
           obtain ⟨_, _, ⟨_, ⟨k0, k1, k2, k3⟩, f0, f1, f2, f3⟩⟩ := S1
           cases hd : d2
           · have ea : A = E := by rw [HA.out, hd]; rfl
             subst ea
             go_wp2_with fail
             go_meet
             case rel => exact ⟨rfl, by rw [hd]; exact S2⟩
           · have ea : A = E + 1 := by rw [HA.out, hd]; rfl
             subst ea
             have w3 : (E : Int) + 1 ≤ 9223372036854775807 := by omega
             go_wp2_with fail
             go_meet
             case rel => exact ⟨by go_num, by rw [hd]; exact S2.set 2 _ (fun b => b.put2 _)⟩
         case rest =>
           clear S2 HA
           obtain ⟨rfl, S2⟩ := hcut
           have HOK : Hid (okR s.data.toList = (rowOk (dgR s.data.toList) && inB (val (dgR s.data.toList)) k)) := by show _ = _; rw [HK.out]; rfl
           have HDl : (dgR s.data.toList).length = s.size - A := by rw [hdg, List.length_drop, hl]
           have HDa : Hid (∀ j (h : j < s.size), A ≤ j → (dgR s.data.toList)[j - A]? = some (s[j]'h)) := fun j h h1 => by
             rw [hdg, List.getElem?_drop, show A + (j - A) = j from by omega]; exact at_get s j h
           have HLN : Hid ((dgR s.data.toList).length = s.size - A) := HDl
           clear HDl hdg HK
           generalize dgR s.data.toList = D at *
           generalize okR s.data.toList = ok at *
           have haI : (A : Int) ≤ s.size := by omega
           have aI0 : (0 : Int) ≤ A := by omega
           go_wp2_with fail
           go_loopw [7] (fun v wx => ∃ p r : Nat, v = .int .i64 (p : Int) ∧ A ≤ p ∧ p ≤ s.size ∧ p ≤ A + 4 ∧ (D.take (p - A)).all dgB = true ∧ (A < p → D.head? ≠ some 48) ∧ r = val (D.take (p - A)) ∧ CSt w wx (r : Int) k d2 d1) (fun v _ => s.size - (intOf v).toNat)
           case atStart => exact ⟨A, 0, rfl, Nat.le_refl _, hAl, by omega, by rw [Nat.sub_self]; rfl, fun h => absurd h (Nat.lt_irrefl _), by rw [Nat.sub_self]; rfl, S2⟩
           case round =>
             obtain ⟨p, r, rfl, p1, p2, p3, hall, hhead, hr, SS⟩ := hrel
             have HALL : Hid ((D.take (p - A)).all dgB = true) := hall
             have HHEAD : Hid (A < p → D.head? ≠ some 48) := hhead
             have HR : Hid (r = val (D.take (p - A))) := hr
             have HRB : Hid (r < 10 ^ (p - A)) := by
               show _ < _
               rw [hr]
               refine Nat.lt_of_lt_of_le (val_bd _ hall) (Nat.pow_le_pow_right (by omega) ?_)
               rw [List.length_take]; omega
             clear hall hhead hr
             have S3 := SS
             obtain ⟨X, ⟨_, ⟨k0, k1, k2, k3⟩, f0, f1, f2, f3⟩, ⟨_, ⟨m0, m1, m2, m3⟩, g0, g1, g2, g3⟩⟩ := S3
             have p1I : (A : Int) ≤ p := by omega
             by_cases hp : p < s.size
             · have hpI : (p : Int) < s.size := by omega
               have HX := HDa.out p hp p1
               have HXX : Hid (D[p - A]? = some s[p]) := HX
               clear HX
               by_cases c1 : (s[p].toNat : Int) < 48
               · have HZ : Hid (ok = false) := by show _ = _; rw [HOK.out, row_bad HXX.out (dg_no (.inl c1))]; rfl
                 go_wp2_with fail
                 exact fin4b false k0 k1 k2 k3 rfl (Nat.le_refl _) X (fun W g0 g1 g2 g3 => by simp [results, Try.results121, go_sem, g0, g1, g2, g3]) (fun W h => ⟨ret_ref (by rw [HV.out, HZ.out]; rfl) (by rw [HO.out, HZ.out]), h⟩)
               by_cases c2 : (57 : Int) < s[p].toNat
               · have HZ : Hid (ok = false) := by show _ = _; rw [HOK.out, row_bad HXX.out (dg_no (.inr c2))]; rfl
                 go_wp2_with fail
                 exact fin4b false k0 k1 k2 k3 rfl (Nat.le_refl _) X (fun W g0 g1 g2 g3 => by simp [results, Try.results121, go_sem, g0, g1, g2, g3]) (fun W h => ⟨ret_ref (by rw [HV.out, HZ.out]; rfl) (by rw [HO.out, HZ.out]), h⟩)
               by_cases c3 : p = A ∧ (s[p].toNat : Int) = 48
               · obtain ⟨rfl, c4⟩ := c3
                 have HZ : Hid (ok = false) := by
                   show _ = _
                   rw [HOK.out, row_nought (by
                     have := HXX.out
                     rw [Nat.sub_self] at this
                     rw [List.head?_eq_getElem?, this, u8_eq (a := s[p]) (b := 48) (by show s[p].toNat = 48; omega)])]
                   rfl
                 have c5 : ((p : Int) == (p : Int)) = true := by simp
                 have c6 : ((s[p].toNat : Int) == 48) = true := by simpa using c4
                 clear c4
                 go_wp2_with fail
                 exact fin4b false k0 k1 k2 k3 rfl (Nat.le_refl _) X (fun W g0 g1 g2 g3 => by simp [results, Try.results121, go_sem, g0, g1, g2, g3]) (fun W h => ⟨ret_ref (by rw [HV.out, HZ.out]; rfl) (by rw [HO.out, HZ.out]), h⟩)
               have c7 : ((p : Int) == (A : Int)) = false ∨ ((s[p].toNat : Int) == 48) = false := by
                 by_cases e : p = A
                 · right; simp; intro e2; exact c3 ⟨e, e2⟩
                 · left; simp; omega
               have HC3 : Hid (¬ (p = A ∧ (s[p].toNat : Int) = 48)) := c3
               clear c3
               by_cases hov : (A : Int) + 3 ≤ 9223372036854775807
               · by_cases c4 : (A : Int) + 3 < p
                 · have HZ : Hid (ok = false) := by
                     show _ = _
                     rw [HOK.out, row_long (by rw [HLN.out]; omega)]; rfl
                   cases c8 : ((p : Int) == (A : Int))
                   · go_wp2_with fail
                     exact fin4b false k0 k1 k2 k3 rfl (Nat.le_refl _) X (fun W g0 g1 g2 g3 => by simp [results, Try.results121, go_sem, g0, g1, g2, g3]) (fun W h => ⟨ret_ref (by rw [HV.out, HZ.out]; rfl) (by rw [HO.out, HZ.out]), h⟩)
                   · have c9 : ((s[p].toNat : Int) == 48) = false := by
                       rcases c7 with h | h
                       · rw [h] at c8; cases c8
                       · exact h
                     go_wp2_with fail
                     exact fin4b false k0 k1 k2 k3 rfl (Nat.le_refl _) X (fun W g0 g1 g2 g3 => by simp [results, Try.results121, go_sem, g0, g1, g2, g3]) (fun W h => ⟨ret_ref (by rw [HV.out, HZ.out]; rfl) (by rw [HO.out, HZ.out]), h⟩)
                 · have hr9 : r ≤ 999 := by
                     have h1 := HRB.out
                     have h2 : 10 ^ (p - A) ≤ 10 ^ 3 := Nat.pow_le_pow_right (by omega) (by omega)
                     omega
                   have hr9I : (r : Int) ≤ 999 := by omega
                   have hr0I : (0 : Int) ≤ r := by omega
                   have hlen : p - A < D.length := by rw [HLN.out]; omega
                   have hel : D[p - A] = s[p] := by
                     have := HXX.out
                     rw [List.getElem?_eq_getElem hlen] at this
                     exact Option.some.inj this
                   have e1 : p + 1 - A = p - A + 1 := by omega
                   have HAL : Hid ((D.take (p + 1 - A)).all dgB = true) := by
                     show _ = _
                     rw [e1, all_take D (p - A) hlen, HALL.out, hel, dg_yes c1 c2]; rfl
                   have HVL : Hid (10 * r + (s[p].toNat - 48) = val (D.take (p + 1 - A))) := by
                     show _ = _
                     rw [e1, val_take_succ D (p - A) hlen, ← HR.out, hel]; omega
                   have HHD : Hid (A < p + 1 → D.head? ≠ some 48) := by
                     show _ → _
                     intro _ hh
                     by_cases g : A < p
                     · exact HHEAD.out g hh
                     · have ep : p = A := by omega
                       have h5 := HXX.out
                       rw [show p - A = 0 from by omega, ← List.head?_eq_getElem?, hh] at h5
                       have h6 := Option.some.inj h5
                       exact HC3.out ⟨ep, by rw [← h6]; rfl⟩
                   clear hlen hel e1 hr9
                   cases c8 : ((p : Int) == (A : Int))
                   · go_wp2_with fail
                     go_region
                     go_wp2_with fail
                     go_roundw
                     case rel =>
                       exact ⟨p + 1, 10 * r + (s[p].toNat - 48), by go_num, by omega, by omega, by omega, HAL.out, HHD.out, HVL.out, by
                         have e : ((10 * r + (s[p].toNat - 48) : Nat) : Int) = 10 * (r : Int) + ((s[p].toNat : Int) - 48) := by omega
                         rw [e]
                         exact (SS.ext (Ext.drew (Ext.refl _))).set 0 _ (fun b => b.put0 _)⟩
                     case measure => simp [intOf]; omega
                   · have c9 : ((s[p].toNat : Int) == 48) = false := by
                       rcases c7 with h | h
                       · rw [h] at c8; cases c8
                       · exact h
                     go_wp2_with fail
                     go_region
                     go_wp2_with fail
                     go_roundw
                     case rel =>
                       exact ⟨p + 1, 10 * r + (s[p].toNat - 48), by go_num, by omega, by omega, by omega, HAL.out, HHD.out, HVL.out, by
                         have e : ((10 * r + (s[p].toNat - 48) : Nat) : Int) = 10 * (r : Int) + ((s[p].toNat : Int) - 48) := by omega
                         rw [e]
                         exact (SS.ext (Ext.drew (Ext.refl _))).set 0 _ (fun b => b.put0 _)⟩
                     case measure => simp [intOf]; omega
               · have HZ : Hid (ok = false) := by
                   show _ = _
                   rw [HOK.out, HC0.out (by omega)]
                   unfold inB; simp
                 have hw : IntKind.i64.wrap ((A : Int) + 3) = (A : Int) + 3 - 18446744073709551616 := by
                   unfold IntKind.wrap; simp [IntKind.bits, IntKind.signed]; omega
                 have hw2 : (A : Int) + 3 - 18446744073709551616 < p := by omega
                 cases c8 : ((p : Int) == (A : Int))
                 · go_wp2_with fail
                   exact fin4b false k0 k1 k2 k3 rfl (Nat.le_refl _) X (fun W g0 g1 g2 g3 => by simp [results, Try.results121, go_sem, g0, g1, g2, g3]) (fun W h => ⟨ret_ref (by rw [HV.out, HZ.out]; rfl) (by rw [HO.out, HZ.out]), h⟩)
                 · have c9 : ((s[p].toNat : Int) == 48) = false := by
                     rcases c7 with h | h
                     · rw [h] at c8; cases c8
                     · exact h
                   go_wp2_with fail
                   exact fin4b false k0 k1 k2 k3 rfl (Nat.le_refl _) X (fun W g0 g1 g2 g3 => by simp [results, Try.results121, go_sem, g0, g1, g2, g3]) (fun W h => ⟨ret_ref (by rw [HV.out, HZ.out]; rfl) (by rw [HO.out, HZ.out]), h⟩)
             · obtain rfl : p = s.size := by omega
               have htk : D.take (s.size - A) = D := List.take_of_length_le (by rw [HLN.out]; omega)
               rw [htk] at HR HALL
               have hpI : ¬ (s.size : Int) < s.size := by omega
               have cI := fun W => rin_any (r : Int) (k : Int) W
               have HRO : Hid (D ≠ [] → rowOk D = true) := by
                 show _ → _
                 intro hne
                 have hA : A < s.size := by
                   have := HLN.out
                   rcases Nat.lt_or_ge A s.size with g | g
                   · exact g
                   · exact absurd (List.length_eq_zero_iff.1 (by omega)) hne
                 unfold rowOk
                 have hh : (D.head? != some 48) = true := by simpa using HHEAD.out hA
                 rw [HALL.out, hh, HLN.out, show decide (s.size - A ≤ 4) = true from decide_eq_true (by omega)]
                 rfl
               have HOK2 : Hid (ok = inB r k) := by
                 show _ = _
                 rw [HOK.out, HR.out]
                 by_cases hne : D = []
                 · rw [hne]
                   have : val ([] : List UInt8) = 0 := rfl
                   rw [this]; unfold inB; simp
                 · rw [HRO.out hne]; rfl
               have HRV : Hid ((r : Int) = (val D : Int)) := by show _ = _; rw [HR.out]
               clear htk
               cases hin : inB (r : Int) (k : Int)
               · rw [hin] at cI HOK2
                 have HZ : Hid (ok = false) := HOK2.out
                 go_wp2_with fail
                 refine (cI _).mono ?_
                 rintro e w5 ⟨rfl, rfl⟩
                 go_wp2_with fail
                 exact fin4b false k0 k1 k2 k3 rfl (Nat.le_refl _) X (fun W g0 g1 g2 g3 => by simp [results, Try.results121, go_sem, g0, g1, g2, g3]) (fun W h => ⟨ret_ref (by rw [HV.out, HZ.out]; rfl) (by rw [HO.out, HZ.out]), h⟩)
               · rw [hin] at cI HOK2
                 have HZ : Hid (ok = true) := HOK2.out
                 go_wp2_with fail
                 refine (cI _).mono ?_
                 rintro e w5 ⟨rfl, rfl⟩
                 go_wp2_with fail
                 exact fin4b true k0 k1 k2 k3 rfl (Nat.le_refl _) X (fun W g0 g1 g2 g3 => by simp [results, Try.results121, go_sem, g0, g1, g2, g3]) (fun W h => ⟨ret_ref (by rw [HV.out, HZ.out, if_pos rfl, ← HRV.out]; rfl) (by rw [HO.out, HZ.out]), h⟩)
end Go.Proofs.Ytcggiljlilbdfaa

/-
 The contract of word.
-/
import Derived.Test.YtcggiljlilbdfaaGreatDoorQ21
namespace Go.Proofs.YtcggiljlilbdfaaGreatDoor
open Go.RowKit
set_option maxHeartbeats 6000000

theorem PW.cases {w0 : World} {b : Nat} {w : World} {d : Nat} {v : Value} {r : Except Ft (List Tk)} {e : Ending} {w' : World} (h : PW w0 b w d v r e w') :
   (∃ f, r = .error f ∧ e = pft f ∧ ExtB b w w') ∨ (∃ ts, r = .ok ts ∧ e = .returned v ∧ Stt w0 b w' ts d ∧ ExtB b w w') := by
 cases r with
 | error f => exact .inl ⟨f, rfl, h.1, h.2⟩
 | ok ts => exact .inr ⟨ts, rfl, h.1, h.2.1, h.2.2⟩
theorem kno_le {s : List UInt8} {a c : Nat} (h : kno s = some (a, c)) : a ≤ 20 ∧ c ≤ 20 := by
 unfold kno at h
 repeat' split at h
 all_goals first | (cases h; exact ⟨by decide, by decide⟩) | cases h
theorem blk_second {b : Nat} {w w2 : World} {o1 o3 : Obj} (E : ExtB b (((w.alloc o1).alloc (.cells #[.int .i64 0, .int .i64 0, .string ⟨#[]⟩, .int .i64 0, .int .i64 0, .int .i64 0, .bool false, .bool false, .int .i64 0, .int .i64 0, .bool false, .bool false, .slice none 0 0] 29)).alloc o3) w2) (hb : b < w.heap.size) : BlkX w2 (w.heap.size + 1) tz (.slice none 0 0) ∧ w.heap.size + 1 + 1 + 1 ≤ w2.heap.size ∧ ExtB b w w2 := by
 have h1 : BlkX (((w.alloc o1).alloc (.cells #[.int .i64 0, .int .i64 0, .string ⟨#[]⟩, .int .i64 0, .int .i64 0, .int .i64 0, .bool false, .bool false, .int .i64 0, .int .i64 0, .bool false, .bool false, .slice none 0 0] 29)).alloc o3) (w.heap.size + 1) tz (.slice none 0 0) := BlkX.top (by simp) ((Ext.refl _).alloc _)
 have hs := E.size
 simp at hs
 exact ⟨h1.extB E (by omega), by omega, ((((ExtB.refl b w).alloc _).alloc _).alloc _).trans E⟩
theorem cell_first {b : Nat} {w w2 : World} {v : Value} {T1 : TypeId} {o2 o3 : Obj} (E : ExtB b (((w.alloc (.cells #[v] T1)).alloc o2).alloc o3) w2) (hb : b < w.heap.size) : w2.cell? ⟨w.heap.size, 0, none⟩ = some v := by
 refine ((E.cell (k := w.heap.size) (by simp; omega) (by omega) 0).1).trans ?_
 rw [World.cell?_alloc_lt _ _ _ (by simp; omega), World.cell?_alloc_lt _ _ _ (by simp)]
 simp [go_sem]
theorem cell_third {b : Nat} {w w2 : World} {v : Value} {T1 : TypeId} {o1 o2 : Obj} (E : ExtB b (((w.alloc o1).alloc o2).alloc (.cells #[v] T1)) w2) (hb : b < w.heap.size) : w2.cell? ⟨w.heap.size + 1 + 1, 0, none⟩ = some v := by
 refine ((E.cell (k := w.heap.size + 1 + 1) (by simp) (by omega) 0).1).trans ?_
 simp [go_sem]
theorem cell_fourth {b : Nat} {w w2 : World} {v : Value} {T1 : TypeId} {o1 o2 o3 o5 : Obj} (E : ExtB b (((((w.alloc o1).alloc o2).alloc o3).alloc (.cells #[v] T1)).alloc o5) w2) (hb : b < w.heap.size) : w2.cell? ⟨w.heap.size + 1 + 1 + 1, 0, none⟩ = some v := by
 refine ((E.cell (k := w.heap.size + 1 + 1 + 1) (by simp) (by omega) 0).1).trans ?_
 rw [World.cell?_alloc_lt _ _ _ (by simp)]
 simp [go_sem]
theorem cell_fifth {b : Nat} {w w2 : World} {v : Value} {T1 : TypeId} {o1 o2 o3 o4 : Obj} (E : ExtB b (((((w.alloc o1).alloc o2).alloc o3).alloc o4).alloc (.cells #[v] T1)) w2) (hb : b < w.heap.size) : w2.cell? ⟨w.heap.size + 1 + 1 + 1 + 1, 0, none⟩ = some v := by
 refine ((E.cell (k := w.heap.size + 1 + 1 + 1 + 1) (by simp) (by omega) 0).1).trans ?_
 simp [go_sem]
set_option maxRecDepth 100000 in
theorem word_any (w0 : World) (b d n : Nat) (F : Rd) (ts : List Tk) (w : World) (hF : RdF w0 b n F 27) (hsh : ShF n F) (hT : Tab w0) (h : Stt w0 b w ts d) (hk : (hd ts).1 = 2) (hn : ts.length ≤ n + 1) :
   Calls Tryz.prog 134 #[.pointer (some ⟨b, 0, none⟩)] w (PR w0 b w d (wrd F d ts)) := by
 have h3 := h.2.2.1
 have HS : Hid (Stt w0 b w ts d) := h
 have HZ : Hid (w0.heap.size ≤ w.heap.size) := h.1.sz
 have HF : Hid (RdF w0 b n F 27 ∧ ShF n F ∧ Tab w0) := ⟨hF, hsh, hT⟩
 have HN : Hid (ts.length ≤ n + 1) := hn
 obtain ⟨tb, off, cc, b0, z0, b1, z1, t0, t1, t2, t3, t4, hne, hc, hp, hs⟩ := h.get
 have hg1 : w.heap.size + 1 ≠ b := by omega
 have H5 : Hid ((hd ts).1 ≠ 5) := by show _ ≠ _; rw [hk]; decide
 have HH : Hid (b < w.heap.size) := h3
 obtain ⟨s, hs1⟩ : ∃ s, (hd ts).2.2.1 = s := ⟨_, rfl⟩
 have HSS : Hid ((hd ts).2.2.1 = s) := hs1
 rw [hs1] at t2
 obtain ⟨nn, hnn⟩ : ∃ nn, ts.length = nn := ⟨_, rfl⟩
 rw [hnn] at b0 hc hp
 have hbl : (bs s).toList = s := by rw [ByteArray.toList_eq]; rfl
 have HBL : Hid ((bs s).toList = s) := hbl
 clear h t0 t1 t3 t4 b1 z1 hF hsh hT hn hk hs1 hnn hbl
 by_cases hct : s = wTrue
 · have et : ((bs s).toList == [84, 82, 85, 69]) = true := by rw [HBL.out, hct]; rfl
   have HX : Hid (wrd F d ts = (tk1 d ts).bind fun ts1 => .ok (tBool 1, ts1)) := by show _ = _; unfold wrd; rw [HSS.out, if_pos hct, one_eq]
   clear hct
   go_enter Tryz.func134, Tryz.ntmps134
   go_wp2_with fail
   refine (take_any w0 b d ts _ (HS.out.ext ((((Ext.refl _).alloc _).alloc _).alloc _)) H5.out).mono ?_
   intro e w2 h2
   rcases h2.cases with ⟨f, hr, rfl, E2⟩ | ⟨us, hr, rfl, S2, E2⟩
   · have hX : wrd F d ts = .error f := by rw [HX.out, hr]; rfl
     exact ⟨rfl, (by rw [hX]; exact ⟨rfl, ((((ExtB.refl b w).alloc _).alloc _).alloc _).trans E2⟩ : PR w0 b w d (wrd F d ts) (pft f) w2)⟩
   · have HX2 : Hid (wrd F d ts = .ok (tBool 1, us)) := by show _ = _; rw [HX.out, hr]; rfl
     have hB := blk_second E2 HH.out
     have HB : Hid (BlkX w2 (w.heap.size + 1) tz (.slice none 0 0) ∧ w.heap.size + 1 + 1 + 1 ≤ w2.heap.size ∧ ExtB b w w2) := hB
     have HS2 : Hid (Stt w0 b w2 us d) := S2
     obtain ⟨qf, ⟨lf0, lf1, lf2, lf3, lf4, lf5, lf6, lf7, lf8, lf9, lf10, lf11, lf12⟩, gf0, gf1, gf2, gf3, gf4, gf5, gf6, gf7, gf8, gf9, gf10, gf11, gf12⟩ := HB.out.1
     clear h2 hr S2 E2 hB
     go_wp2_with fail
     rw [HX2.out]
     exact endP (W := w2) (g := w.heap.size + 1) (t := tBool 1) (ts := us) (w.heap.size + 1 + 1 ≤ ·) HB.out.1 rfl .nil (fun k hk => ⟨by omega, by omega⟩) HS2.out hg1 (by omega) HZ.out HB.out.2.2 (Ext.refl _) (fun h0 h1 h2 h3 h4 h5 h6 h7 h8 h9 h10 h11 h12 => by simp [results, Tryz.results134, go_sem, h0, h1, h2, h3, h4, h5, h6, h7, h8, h9, h10, h11, h12, aggX])
 by_cases hcf : s = wFalse
 · have et : ((bs s).toList == [84, 82, 85, 69]) = false := by rw [HBL.out, hcf]; rfl
   have ef : ((bs s).toList == [70, 65, 76, 83, 69]) = true := by rw [HBL.out, hcf]; rfl
   have HX : Hid (wrd F d ts = (tk1 d ts).bind fun ts1 => .ok (tBool 0, ts1)) := by show _ = _; unfold wrd; rw [HSS.out, if_neg hct, if_pos hcf, one_eq]
   clear hct hcf
   go_enter Tryz.func134, Tryz.ntmps134
   go_wp2_with fail
   refine (take_any w0 b d ts _ (HS.out.ext ((((Ext.refl _).alloc _).alloc _).alloc _)) H5.out).mono ?_
   intro e w2 h2
   rcases h2.cases with ⟨f, hr, rfl, E2⟩ | ⟨us, hr, rfl, S2, E2⟩
   · have hX : wrd F d ts = .error f := by rw [HX.out, hr]; rfl
     exact ⟨rfl, (by rw [hX]; exact ⟨rfl, ((((ExtB.refl b w).alloc _).alloc _).alloc _).trans E2⟩ : PR w0 b w d (wrd F d ts) (pft f) w2)⟩
   · have HX2 : Hid (wrd F d ts = .ok (tBool 0, us)) := by show _ = _; rw [HX.out, hr]; rfl
     have hB := blk_second E2 HH.out
     have HB : Hid (BlkX w2 (w.heap.size + 1) tz (.slice none 0 0) ∧ w.heap.size + 1 + 1 + 1 ≤ w2.heap.size ∧ ExtB b w w2) := hB
     have HS2 : Hid (Stt w0 b w2 us d) := S2
     obtain ⟨qf, ⟨lf0, lf1, lf2, lf3, lf4, lf5, lf6, lf7, lf8, lf9, lf10, lf11, lf12⟩, gf0, gf1, gf2, gf3, gf4, gf5, gf6, gf7, gf8, gf9, gf10, gf11, gf12⟩ := HB.out.1
     clear h2 hr S2 E2 hB
     go_wp2_with fail
     rw [HX2.out]
     exact endP (W := w2) (g := w.heap.size + 1) (t := tBool 0) (ts := us) (w.heap.size + 1 + 1 ≤ ·) HB.out.1 rfl .nil (fun k hk => ⟨by omega, by omega⟩) HS2.out hg1 (by omega) HZ.out HB.out.2.2 (Ext.refl _) (fun h0 h1 h2 h3 h4 h5 h6 h7 h8 h9 h10 h11 h12 => by simp [results, Tryz.results134, go_sem, h0, h1, h2, h3, h4, h5, h6, h7, h8, h9, h10, h11, h12, aggX])
 have et : ((bs s).toList == [84, 82, 85, 69]) = false := by rw [HBL.out]; simpa [wTrue] using hct
 have ef : ((bs s).toList == [70, 65, 76, 83, 69]) = false := by rw [HBL.out]; simpa [wFalse] using hcf
 have cK := fun W => known_any (bs s) W
 have es : (bs s).data.toList = s := rfl
 rw [es] at cK
 clear es
 cases hk : kno s with
 | none =>
   have HX : Hid (wrd F d ts = (refr d ts).bind fun x => .ok (tRef x.1, x.2)) := wrd_ref F d ts (by rw [HSS.out]; exact hct) (by rw [HSS.out]; exact hcf) (by rw [HSS.out]; exact hk)
   have ka : knA s = 0 := by unfold knA; rw [hk]
   have kb : knB s = 0 := by unfold knB; rw [hk]
   rw [hk, ka, kb] at cK
   clear hct hcf hk ka kb
   go_enter Tryz.func134, Tryz.ntmps134
   go_wp2_with fail
   refine (cK _).mono ?_
   rintro e wk ⟨rfl, rfl⟩
   go_wp2_with fail
   refine (reference_any w0 b d ts _ (HS.out.ext ((((((Ext.refl _).alloc _).alloc _).alloc _).alloc _).alloc _)) HF.out.2.2).mono ?_
   intro e w2 h2
   rcases h2.cases with ⟨f, hr, rfl, E2⟩ | ⟨r0, r1, r2, r3, us, hr, rfl, S2, E2⟩
   · have hX : wrd F d ts = .error f := by rw [HX.out, hr]; rfl
     exact ⟨rfl, (by rw [hX]; exact ⟨rfl, ((((((ExtB.refl b w).alloc _).alloc _).alloc _).alloc _).alloc _).trans E2⟩ : PR w0 b w d (wrd F d ts) (pft f) w2)⟩
   · have hX : wrd F d ts = .ok (tRef (r0, r1, r2, r3), us) := by rw [HX.out, hr]; rfl
     have HX2 : Hid (wrd F d ts = .ok (tRef (r0, r1, r2, r3), us)) := hX
     have E3 := (((ExtB.refl b _).alloc _).alloc _).trans E2
     have hB := blk_second E3 HH.out
     have HB : Hid (BlkX w2 (w.heap.size + 1) tz (.slice none 0 0) ∧ w.heap.size + 1 + 1 + 1 ≤ w2.heap.size ∧ ExtB b w w2) := hB
     have HS2 : Hid (Stt w0 b w2 us d) := S2
     obtain ⟨qf, ⟨lf0, lf1, lf2, lf3, lf4, lf5, lf6, lf7, lf8, lf9, lf10, lf11, lf12⟩, gf0, gf1, gf2, gf3, gf4, gf5, gf6, gf7, gf8, gf9, gf10, gf11, gf12⟩ := HB.out.1
     clear h2 hr S2 E2 E3 hB hX cK
     go_wp2_with fail
     rw [HX2.out]
     exact endP (W := w2) (g := w.heap.size + 1) (t := tRef (r0, r1, r2, r3)) (ts := us) (w.heap.size + 1 + 1 ≤ ·) HB.out.1 rfl .nil (fun k hk => ⟨by omega, by omega⟩) HS2.out hg1 (by omega) HZ.out HB.out.2.2 (Ext.refl _) (fun h0 h1 h2 h3 h4 h5 h6 h7 h8 h9 h10 h11 h12 => by simp [results, Tryz.results134, go_sem, h0, h1, h2, h3, h4, h5, h6, h7, h8, h9, h10, h11, h12, aggX])
 | some ab =>
   obtain ⟨la, lb⟩ := ab
   have hle := kno_le hk
   have HLE : Hid (la ≤ 20 ∧ lb ≤ 20) := hle
   have HX : Hid (wrd F d ts = (tk1 d ts).bind fun ts1 => brk (call F s la lb) d ts1) := by have := wrd_call F d ts la lb (by rw [HSS.out]; exact hct) (by rw [HSS.out]; exact hcf) (by rw [HSS.out]; exact hk); rw [HSS.out] at this; exact this
   have ka : knA s = (la : Int) := by unfold knA; rw [hk]
   have kb : knB s = (lb : Int) := by unfold knB; rw [hk]
   rw [hk, ka, kb] at cK
   clear hct hcf hk ka kb hle
   go_enter Tryz.func134, Tryz.ntmps134
   go_wp2_with fail
   refine (cK _).mono ?_
   rintro e wk ⟨rfl, rfl⟩
   go_wp2_with fail
   refine (take_any w0 b d ts _ (HS.out.ext ((((((Ext.refl _).alloc _).alloc _).alloc _).alloc _).alloc _)) H5.out).mono ?_
   intro e w2 h2
   rcases h2.cases with ⟨f, hr, rfl, E2⟩ | ⟨us, hr, rfl, S2, E2⟩
   · have hX : wrd F d ts = .error f := by rw [HX.out, hr]; rfl
     exact ⟨rfl, (by rw [hX]; exact ⟨rfl, ((((((ExtB.refl b w).alloc _).alloc _).alloc _).alloc _).alloc _).trans E2⟩ : PR w0 b w d (wrd F d ts) (pft f) w2)⟩
   · have hX : wrd F d ts = brk (call F s la lb) d us := by rw [HX.out, hr]; rfl
     have s1 := tk1_sh HS.out.2.2.2.1 H5.out hr
     have HU : Hid (us.length ≤ n) := by show _ ≤ _; have := s1.2; have := HN.out; omega
     have HX2 : Hid (wrd F d ts = brk (call F s la lb) d us) := hX
     have E3 := (((ExtB.refl b _).alloc _).alloc _).trans E2
     have hB := blk_second E3 HH.out
     have HB : Hid (BlkX w2 (w.heap.size + 1) tz (.slice none 0 0) ∧ w.heap.size + 1 + 1 + 1 ≤ w2.heap.size ∧ ExtB b w w2) := hB
     have q1 := cell_first E3 HH.out
     have q2 := cell_third E3 HH.out
     have q3 := cell_fourth E2 HH.out
     have q4 := cell_fifth E2 HH.out
     have hw2 : w.heap.size + 1 + 1 + 1 + 1 + 1 ≤ w2.heap.size := by have := E2.size; simp at this; omega
     have HRK : Hid (RdK w0 b n (call F s la lb) 152 (#[] ++ #[.pointer (some ⟨w.heap.size + 1 + 1, 0, none⟩), .pointer (some ⟨w.heap.size, 0, none⟩), .pointer (some ⟨w.heap.size + 1 + 1 + 1, 0, none⟩), .pointer (some ⟨w.heap.size + 1 + 1 + 1 + 1, 0, none⟩)]) w2) := by
       intro w' us' d' e hS hn
       have z := HH.out
       exact word1_any w0 b d' n la lb F s (w.heap.size + 1 + 1) w.heap.size (w.heap.size + 1 + 1 + 1) (w.heap.size + 1 + 1 + 1 + 1) us' w' HLE.out.1 HLE.out.2 HF.out.1 HF.out.2.1 HF.out.2.2 (((e.cell (by omega) (by omega) 0).1).trans q2) (((e.cell (by omega) (by omega) 0).1).trans q1) (((e.cell (by omega) (by omega) 0).1).trans q3) (((e.cell (by omega) (by omega) 0).1).trans q4) ⟨⟨by omega, by omega, by omega, by omega⟩, by have := e.size; omega, by have := e.size; omega, by have := e.size; omega, by have := e.size; omega⟩ hS hn
     have HS2 : Hid (Stt w0 b w2 us d) := S2
     have hmf : ∀ (fn : Fn) (first cap : Array Value) (w : World), (Instr.makeFunc fn first cap).run Tryz.prog w = .ok (.func fn first cap) w := fun _ _ _ _ => rfl
     clear h2 hr S2 E2 E3 hB hX cK s1 q2 q3 q4
     go_wp2_with fail
     refine (bracketed_any w0 b d n (call F s la lb) 152 #[] _ us w2 (fun W => enters_of Tryz.func152 (by kernel_rfl) rfl _ W) HS2.out (Nat.le_succ_of_le HU.out) HRK.out).mono ?_
     intro e w3 h3'
     rcases h3'.cases with ⟨f, hr, rfl, E3⟩ | ⟨x, vs, pp, ln, cl, hr, rfl, hL, S3, E3⟩
     · exact ⟨rfl, (by rw [HX2.out, hr]; exact ⟨rfl, HB.out.2.2.trans E3⟩ : PR w0 b w d (wrd F d ts) (pft f) w3)⟩
     · have HX3 : Hid (wrd F d ts = .ok (x, vs)) := HX2.out.trans hr
       have HB3 : Hid (BlkX w3 (w.heap.size + 1) tz (.slice none 0 0)) := HB.out.1.extB E3 hg1
       have HL3 : Hid (IsL w3 (w.heap.size + 1 + 1 ≤ ·) (.slice pp ln cl) x.l) := hL.mono (fun k hk _ => by have := HB.out.2.1; omega)
       have HS3 : Hid (Stt w0 b w3 vs d ∧ ExtB b w w3) := ⟨S3, HB.out.2.2.trans E3⟩
       obtain ⟨qf, ⟨lf0, lf1, lf2, lf3, lf4, lf5, lf6, lf7, lf8, lf9, lf10, lf11, lf12⟩, gf0, gf1, gf2, gf3, gf4, gf5, gf6, gf7, gf8, gf9, gf10, gf11, gf12⟩ := HB3.out
       clear h3' hr hL S3 E3 q1
       unfold aggX
       go_wp2_with fail
       rw [HX3.out]
       exact endP (W := w3) (g := w.heap.size + 1) (t := x) (ts := vs) (w.heap.size + 1 + 1 ≤ ·) HB3.out rfl HL3.out (fun k hk => ⟨by omega, by omega⟩) HS3.out.1 hg1 (by omega) HZ.out HS3.out.2 (Ext.refl _) (fun h0 h1 h2 h3 h4 h5 h6 h7 h8 h9 h10 h11 h12 => by simp [results, Tryz.results134, go_sem, h0, h1, h2, h3, h4, h5, h6, h7, h8, h9, h10, h11, h12, aggX])
end Go.Proofs.YtcggiljlilbdfaaGreatDoor

/-
 The document's Needs and Direct.
 The document's Reach and Cyclic.
-/
import Derived.Test.YtjpiphnbadggoaaA6
namespace Go.Proofs.Ytjpiphnbadggoaa
open Go.RowKit
set_option maxHeartbeats 1000000

/-- What is shown of a place when some cells, and some rectangles of the next, have been looked at. -/
structure MdI (Z : List Zt) (a : Pl) (k j : Nat) (d : List Pl) : Prop where
 s : d.Pairwise Ltp
 m : ∀ x, x ∈ d ↔ (∃ z ∈ Z.take k, z.e.1 = x ∧ ∃ t ∈ z.e.2, t.has a = true) ∨ (∃ z, Z[k]? = some z ∧ z.e.1 = x ∧ ∃ t ∈ z.e.2.take j, t.has a = true)
theorem md_start (Z : List Zt) (a : Pl) : MdI Z a 0 0 [] := ⟨List.Pairwise.nil, by simp⟩
theorem md_put {Z : List Zt} {a : Pl} {k j : Nat} {d : List Pl} (h : MdI Z a k j d) {z : Zt} (hz : Z[k]? = some z) {t : Rc} (ht : z.e.2[j]? = some t) (hh : t.has a = true) : MdI Z a k (j + 1) (putP d z.e.1) := by
 refine ⟨put_sorted h.s, fun x => ?_⟩
 rw [put_mem, h.m]
 constructor
 · rintro (rfl | h | ⟨z', h1, h2, s, h3, h4⟩)
   · exact .inr ⟨z, hz, rfl, t, by rw [take_at ht]; simp, hh⟩
   · exact .inl h
   · rw [hz] at h1
     cases h1
     exact .inr ⟨z, hz, h2, s, by rw [take_at ht]; simp [h3], h4⟩
 · rintro (h | ⟨z', h1, h2, _⟩)
   · exact .inr (.inl h)
   · rw [hz] at h1
     cases h1
     exact .inl h2.symm
theorem md_skip {Z : List Zt} {a : Pl} {k j : Nat} {d : List Pl} (h : MdI Z a k j d) {z : Zt} (hz : Z[k]? = some z) {t : Rc} (ht : z.e.2[j]? = some t) (hh : t.has a = false) : MdI Z a k (j + 1) d := by
 refine ⟨h.s, fun x => ?_⟩
 rw [h.m]
 constructor
 · rintro (h | ⟨z', h1, h2, s, h3, h4⟩)
   · exact .inl h
   · rw [hz] at h1
     cases h1
     exact .inr ⟨z, hz, h2, s, by rw [take_at ht]; simp [h3], h4⟩
 · rintro (h | ⟨z', h1, h2, s, h3, h4⟩)
   · exact .inl h
   · rw [hz] at h1
     cases h1
     rw [take_at ht] at h3
     rcases List.mem_append.1 h3 with h3 | h3
     · exact .inr ⟨z, hz, h2, s, h3, h4⟩
     · simp at h3
       subst h3
       rw [hh] at h4
       cases h4
theorem md_next {Z : List Zt} {a : Pl} {k j : Nat} {d : List Pl} (h : MdI Z a k j d) {z : Zt} (hz : Z[k]? = some z) (hj : z.e.2.length ≤ j) : MdI Z a (k + 1) 0 d := by
 refine ⟨h.s, fun x => ?_⟩
 rw [h.m, take_at hz]
 constructor
 · rintro (⟨y, h1, h2⟩ | ⟨z', h1, h2, s, h3, h4⟩)
   · exact .inl ⟨y, by simp [h1], h2⟩
   · rw [hz] at h1
     cases h1
     exact .inl ⟨z, by simp, h2, s, List.mem_of_mem_take h3, h4⟩
 · rintro (⟨y, h1, h2⟩ | ⟨z', _, _, s, h3, _⟩)
   · rcases List.mem_append.1 h1 with h1 | h1
     · exact .inl ⟨y, h1, h2⟩
     · simp at h1
       subst h1
       obtain ⟨h2, s, h3, h4⟩ := h2
       exact .inr ⟨y, hz, h2, s, by rw [List.take_of_length_le hj]; exact h3, h4⟩
   · simp at h3
theorem md_len {Z : List Zt} {a : Pl} {k j : Nat} {d : List Pl} (h : MdI Z a k j d) : d.length ≤ Z.length := by
 have := nodup_len (M := Z.map (fun z => z.e.1)) (ltp_ne h.s) (fun x hx => by
   rcases (h.m x).1 hx with ⟨z, h1, h2, _⟩ | ⟨z, h1, h2, _⟩
   · exact List.mem_map.2 ⟨z, List.mem_of_mem_take h1, h2⟩
   · exact List.mem_map.2 ⟨z, List.mem_of_getElem? h1, h2⟩)
 simpa using this
theorem md_end {Z : List Zt} {a : Pl} {k : Nat} {d : List Pl} (h : MdI Z a k 0 d) (hk : Z.length ≤ k) : IsDir (Z.map (·.e)) a d := by
 refine ⟨h.s, fun x => ?_, by rw [List.length_map]; exact md_len h⟩
 rw [h.m, mem_dir, List.take_of_length_le hk]
 constructor
 · rintro (⟨z, h1, rfl, h2⟩ | ⟨_, _, _, s, h3, _⟩)
   · exact ⟨z.e.2, List.mem_map.2 ⟨z, h1, rfl⟩, h2⟩
   · simp at h3
 · rintro ⟨l, h1, h2⟩
   obtain ⟨z, h3, h4⟩ := List.mem_map.1 h1
   exact .inl ⟨z, h3, by rw [show z.e = (x, l) from h4], by rw [show z.e = (x, l) from h4]; exact h2⟩
theorem rf_cell {W : World} {bm : Nat} {v : Value} (h : W.heap[bm]? = some (.cells #[v] 50 (0, 0))) : ∀ V, Ext W V → V.cell? ⟨bm, 0, none⟩ = some v := fun _ e => (e.cell.1 bm 0 (heap_lt h)).trans ((cell_of_row W bm 0 _ _ _ h).trans rfl)
/-- What the document's Needs leaves. -/
def NeQ (W : World) (l : List Rc) (e : Ending) (w' : World) : Prop := ∃ v, e = .returned v ∧ RdR W v l ∧ w' = W
set_option maxRecDepth 100000 in
theorem mneeds_any (W : World) (base bm : Nat) (τ : Sg) (r c : Int) (h : RfD W base bm τ) (hs : SgOk τ) (ht : τ.length ≤ 1000) :
   Calls Try.prog 10 #[.pointer (some ⟨bm, 0, none⟩), .int .i64 r, .int .i64 c] W (NeQ W (needS τ (r, c))) := by
 obtain ⟨vz, Z, z1, z2, rfl, z4⟩ := h.r
 obtain ⟨pz, cz, rfl, _⟩ := own_form z2
 obtain ⟨zn, hzn⟩ : ∃ zn, Z.length = zn := ⟨_, rfl⟩
 rw [List.length_map] at ht
 simp only [hzn] at z1 z2 ht
 have H : Hid ((Z.length = zn ∧ zn ≤ 1000) ∧ (∀ z ∈ Z, OwR W base z.v z.e.2) ∧ SgOk (Z.map (·.e))) := ⟨⟨hzn, ht⟩, z4, hs⟩
 have HZ : Hid (W.ownsRow base 60 3 (.slice pz zn cz) zn (Z.flatMap cZ)) := z2
 have bc := rf_cell z1 W (Ext.refl _)
 clear h hs ht z1 z2 z4 hzn
 go_enter Try.func10, Try.ntmps10
 go_wp2_with fail
 go_loopw [7] (fun x wr => ∃ k : Nat, x = .int .i64 (k : Int) ∧ k ≤ zn ∧ wr = W ∧ ∀ z ∈ Z.take k, z.e.1 ≠ (r, c)) (fun x _ => zn - (intOf x).toNat)
 case atStart => exact ⟨0, rfl, Nat.zero_le _, rfl, by simp⟩
 case round =>
   obtain ⟨k, rfl, hk, hw, hn⟩ := hrel
   subst hw
   have HN : Hid (∀ z ∈ Z.take k, z.e.1 ≠ (r, c)) := hn
   have wk := wrapI k (by have := H.out.1.2; omega)
   rcases Nat.lt_or_ge k zn with hlt | hge
   · have hltI : (k : Int) < (zn : Int) := Int.ofNat_lt.2 hlt
     obtain ⟨z, hz⟩ : ∃ z, Z[k]? = some z := ⟨_, List.getElem?_eq_getElem (by rw [H.out.1.1]; exact hlt)⟩
     obtain ⟨b, off, rfl, bl, d1, d2, d3⟩ := z3 (own_rdG cZ_len HZ.out H.out.1.1.symm) hz
     have HK : Hid (Z[k]? = some z) := hz
     have HR : Hid (z.e.1 = (r, c) → RdR wr z.v (needS (Z.map (·.e)) (r, c))) := fun he => by
       have hm := List.mem_of_getElem? hz
       rw [← he, need_of H.out.2.2 (List.mem_map.2 ⟨z, hm, rfl⟩)]
       exact own_rdG cR_len (H.out.2.1 z hm) rfl
     have HS : Hid (z.e.1 ≠ (r, c) → ∀ y ∈ Z.take (k + 1), y.e.1 ≠ (r, c)) := fun he y hy => by
       rw [take_at HK.out] at hy
       rcases List.mem_append.1 hy with hy | hy
       · exact HN.out y hy
       · simp at hy
         subst hy
         exact he
     obtain ⟨⟨⟨e1, e2⟩, el⟩, ev, eo⟩ := z
     dsimp only at d1 d2 d3 HR HS
     clear hn hz HN
     by_cases h1 : e1 = r
     · by_cases h2 : e2 = c
       · have HR2 : Hid _ := HR.out (by rw [h1, h2])
         have h1b : (e1 == r) = true := by simpa using h1
         have h2b : (e2 == c) = true := by simpa using h2
         clear HR HS h1 h2
         go_wp2_with fail
         go_ret
         exact ⟨_, rfl, HR2.out, rfl⟩
       · have HS2 : Hid _ := HS.out (fun h => h2 (congrArg Prod.snd h))
         have h1b : (e1 == r) = true := by simpa using h1
         have h2b : (e2 == c) = false := by simpa using h2
         clear HR HS h1 h2
         go_wp2_with fail
         go_roundw
         case rel => exact ⟨k + 1, by rw [wk], hlt, trivial, HS2.out⟩
         case measure => rw [wk]; simp [intOf]; omega
     · have HS2 : Hid _ := HS.out (fun h => h1 (congrArg Prod.fst h))
       have h1b : (e1 == r) = false := by simpa using h1
       clear HR HS h1
       go_wp2_with fail
       go_roundw
       case rel => exact ⟨k + 1, by rw [wk], hlt, trivial, HS2.out⟩
       case measure => rw [wk]; simp [intOf]; omega
   · have hltI : ¬ (k : Int) < (zn : Int) := fun h => Nat.not_lt.2 hge (Int.ofNat_lt.1 h)
     have HQ : Hid (NeQ wr (needS (Z.map (·.e)) (r, c)) (.returned (.slice none 0 0)) wr) := by
       rw [List.take_of_length_le (by rw [H.out.1.1]; exact hge)] at hn
       rw [need_none (fun e he => by
         obtain ⟨z, h1, rfl⟩ := List.mem_map.1 he
         exact hn z h1)]
       exact ⟨_, rfl, RdG.nil _, rfl⟩
     clear hn HN wk
     go_wp2_with fail
     go_ret
     exact HQ.out
theorem less_in {n k : Nat} (h : k < n) : n - (k + 1) < n - k := Nat.sub_lt_sub_left h (Nat.lt_succ_self k)
/-- What the document's Direct leaves. -/
def MdQ (W : World) (τ : Sg) (a : Pl) (e : Ending) (w' : World) : Prop := ∃ d v, IsDir τ a d ∧ e = .returned v ∧ RdP w' v d ∧ Ext W w'
set_option maxRecDepth 100000 in
theorem mdirect_any (W : World) (base bm : Nat) (τ : Sg) (r c : Int) (h : RfD W base bm τ) (ht : τ.length ≤ 1000) (hq : ∀ e ∈ τ, e.2.length ≤ 1000) :
   Calls Try.prog 13 #[.pointer (some ⟨bm, 0, none⟩), .int .i64 r, .int .i64 c] W (MdQ W τ (r, c)) := by
 obtain ⟨vz, Z, z1, z2, rfl, z4⟩ := h.r
 obtain ⟨pz, cz, rfl, _⟩ := own_form z2
 obtain ⟨zn, hzn⟩ : ∃ zn, Z.length = zn := ⟨_, rfl⟩
 rw [List.length_map] at ht
 simp only [hzn] at z1 z2 ht
 have H : Hid ((Z.length = zn ∧ zn ≤ 1000) ∧ (∀ z ∈ Z, OwR W base z.v z.e.2) ∧ ∀ z ∈ Z, z.e.2.length ≤ 1000) := ⟨⟨hzn, ht⟩, z4, fun z hz => hq _ (List.mem_map.2 ⟨z, hz, rfl⟩)⟩
 have HZ : Hid (W.ownsRow base 60 3 (.slice pz zn cz) zn (Z.flatMap cZ)) := z2
 have HC : Hid (∀ V, Ext W V → V.cell? ⟨bm, 0, none⟩ = some (.slice pz zn cz)) := rf_cell z1
 clear h hq ht z1 z2 z4 hzn
 go_enter Try.func13, Try.ntmps13
 go_wp2_with fail
 go_loopw [7, 8] (fun vo x wr => ∃ (k : Nat) (d : List Pl), x = .int .i64 (k : Int) ∧ k ≤ zn ∧ MdI Z (r, c) k 0 d ∧ RdP wr vo d ∧ Ext W wr) (fun _ x _ => zn - (intOf x).toNat)
 case atStart => exact ⟨0, [], rfl, Nat.zero_le _, md_start _ _, ⟨_, _, rfl, Nat.le_refl _, .inl rfl⟩, (Ext.refl _).alloc _⟩
 case round =>
   obtain ⟨k, d, rfl, hk, hM, hR, hE⟩ := hrel
   have HS : Hid (MdI Z (r, c) k 0 d ∧ RdP wr u7 d ∧ Ext W wr) := ⟨hM, hR, hE⟩
   have bc := HC.out wr hE
   have wk := wrapI k (by have := H.out.1.2; omega)
   rcases Nat.lt_or_ge k zn with hlt | hge
   · have hltI : (k : Int) < (zn : Int) := Int.ofNat_lt.2 hlt
     obtain ⟨z, hz⟩ : ∃ z, Z[k]? = some z := ⟨_, List.getElem?_eq_getElem (by rw [H.out.1.1]; exact hlt)⟩
     have hm := List.mem_of_getElem? hz
     obtain ⟨lp, lc, hv, _⟩ := own_form (H.out.2.1 z hm)
     obtain ⟨ln, hln⟩ : ∃ ln, z.e.2.length = ln := ⟨_, rfl⟩
     rw [hln] at hv
     have HZK : Hid (Z[k]? = some z ∧ z.v = .slice lp ln lc ∧ z.e.2.length = ln ∧ ln ≤ 1000 ∧ W.ownsRow base 32 4 (.slice lp ln lc) ln (z.e.2.flatMap cR)) := ⟨hz, hv, hln, by rw [← hln]; exact H.out.2.2 z hm, by have q := H.out.2.1 z hm; unfold OwR at q; rw [hv, hln] at q; exact q⟩
     clear hz hm hv hln hM hR hE
     go_wp2_with fail
     clear bc
     generalize wr = wB at *
     go_loopw [7, 9] (fun vo x w2 => ∃ (j : Nat) (d : List Pl), x = .int .i64 (j : Int) ∧ j ≤ ln ∧ MdI Z (r, c) k j d ∧ RdP w2 vo d ∧ Ext W w2) (fun _ x _ => ln - (intOf x).toNat)
     case atStart => exact ⟨0, d, rfl, Nat.zero_le _, HS.out.1, HS.out.2.1, HS.out.2.2⟩
     case round =>
       obtain ⟨j, d', rfl, hj, hM, hR, hE⟩ := hrel
       have bc := HC.out wr hE
       obtain ⟨b, off, rfl, _, d1, d2, d3⟩ := z3 (own_rdG cZ_len (ownsRow_ext HZ.out hE) H.out.1.1.symm) HZK.out.1
       rw [HZK.out.2.1] at d3
       have wj := wrapI j (by have := HZK.out.2.2.2.1; omega)
       have HT : Hid (MdI Z (r, c) k j d' ∧ RdP wr u7 d' ∧ Ext W wr) := ⟨hM, hR, hE⟩
       rcases Nat.lt_or_ge j ln with hlj | hgj
       · have hljI : (j : Int) < (ln : Int) := Int.ofNat_lt.2 hlj
         obtain ⟨t, htj⟩ : ∃ t, z.e.2[j]? = some t := ⟨_, List.getElem?_eq_getElem (by rw [HZK.out.2.2.1]; exact hlj)⟩
         obtain ⟨tb, tf, rfl, _, e1, e2, e3, e4⟩ := Rd4.cell (own_rdG cR_len (ownsRow_ext HZK.out.2.2.2.2 hE) HZK.out.2.2.1.symm) htj rfl
         have cH := fun V => rhas6_any t.p t.q t.u t.v r c V
         have HJ : Hid (z.e.2[j]? = some t) := htj
         cases hh : hasR t.p t.q t.u t.v r c
         · have HM : Hid (MdI Z (r, c) k (j + 1) d') := md_skip hM HZK.out.1 htj hh
           rw [hh] at cH
           clear hM hR hE htj hh
           go_wp2_with fail
           refine (cH _).mono ?_
           rintro e w2 ⟨rfl, E2⟩
           have H2 : Hid (RdP w2 u7 d' ∧ Ext W w2) := ⟨HT.out.2.1.ext E2, HT.out.2.2.trans E2⟩
           clear cH E2 d1 d2 d3 e1 e2 e3 e4 bc
           go_wp2_with fail
           go_roundw
           case rel => exact ⟨j + 1, d', by rw [wj], hlj, HM.out, H2.out.1, H2.out.2⟩
           case measure => rw [wj]; simp [intOf]; exact less_in hlj
         · have HM : Hid (MdI Z (r, c) k (j + 1) (putP d' (z.e.1.1, z.e.1.2))) := md_put hM HZK.out.1 htj hh
           rw [hh] at cH
           have hd := md_len hM
           clear hM hR hE htj hh
           go_wp2_with fail
           refine (cH _).mono ?_
           rintro e w2 ⟨rfl, E2⟩
           have H2 : Hid (RdP w2 u7 d' ∧ Ext W w2) := ⟨HT.out.2.1.ext E2, HT.out.2.2.trans E2⟩
           have cP := put_any w2 u7 d' z.e.1.1 z.e.1.2 H2.out.1 (by have := H.out.1; omega)
           clear cH E2 d1 d2 d3 e1 e2 e3 e4 bc hd
           have bc := HC.out w2 H2.out.2
           obtain ⟨b', off', hbo, _, d1, d2, _⟩ := z3 (own_rdG cZ_len (ownsRow_ext HZ.out H2.out.2) H.out.1.1.symm) HZK.out.1
           cases hbo
           go_wp2_with fail
           refine cP.mono ?_
           rintro e w3 ⟨v3, rfl, R3, E3⟩
           have H3 : Hid (RdP w3 v3 (putP d' (z.e.1.1, z.e.1.2)) ∧ Ext W w3) := ⟨R3, H2.out.2.trans E3⟩
           clear cP R3 E3 d1 d2 bc
           go_wp2_with fail
           go_roundw
           case rel => exact ⟨j + 1, _, by rw [wj], hlj, HM.out, H3.out.1, H3.out.2⟩
           case measure => rw [wj]; simp [intOf]; exact less_in hlj
       · have hljI : ¬ (j : Int) < (ln : Int) := fun h => Nat.not_lt.2 hgj (Int.ofNat_lt.1 h)
         have HM : Hid (MdI Z (r, c) (k + 1) 0 d') := md_next hM HZK.out.1 (by rw [HZK.out.2.2.1]; exact hgj)
         clear hM hR hE
         go_wp2_with fail
         go_roundw
         case rel => exact ⟨k + 1, d', by rw [wk], hlt, HM.out, HT.out.2.1, HT.out.2.2⟩
         case measure => rw [wk]; simp [intOf]; exact less_in hlt
   · have hltI : ¬ (k : Int) < (zn : Int) := fun h => Nat.not_lt.2 hge (Int.ofNat_lt.1 h)
     have HQ : Hid (MdQ W (Z.map (·.e)) (r, c) (.returned u7) wr) := ⟨d, u7, md_end hM (by rw [H.out.1.1]; exact hge), rfl, hR, hE⟩
     clear hM hR hE wk HS
     go_wp2_with fail
     go_ret
     exact HQ.out

open Go.RowKit
set_option maxHeartbeats 1000000

theorem putf_at {l : List Pl} {k : Nat} {s : Pl} (hs : l[k]? = some s) : ((l.take (k + 1)).filter pin).foldl putP [] = if pin s then putP (((l.take k).filter pin).foldl putP []) s else ((l.take k).filter pin).foldl putP [] := by
 rw [take_at hs, List.filter_append, List.foldl_append]
 cases hp : pin s
 · rw [List.filter_cons_of_neg (by rw [hp]; simp)]; rfl
 · rw [List.filter_cons_of_pos hp]; rfl
theorem put_at {a b : List Pl} {k : Nat} {s : Pl} (hs : b[k]? = some s) : (b.take (k + 1)).foldl putP a = putP ((b.take k).foldl putP a) s := by
 rw [take_at hs, List.foldl_append]
 rfl
theorem puts_le (m : List Pl) : ∀ l : List Pl, (m.foldl putP l).length ≤ l.length + m.length := by
 induction m with
 | nil => simp
 | cons q m ih =>
   intro l
   have := ih (putP l q)
   have := (put_len l q).2
   rw [List.foldl_cons, List.length_cons]
   omega
theorem puts_lim {e d : List Pl} {j n : Nat} (h2 : d.length ≤ 51000) (h3 : e.length = n ∧ n ≤ 1000) : ((e.take j).foldl putP d).length ≤ 200000 := by
 have h1 := puts_le (e.take j) d
 rw [List.length_take] at h1
 omega
/-- What is reached so far, in order. -/
structure MrI (σ : Sg) (l d : List Pl) : Prop where
 s : d.Pairwise Ltp
 r : ∀ x ∈ d, Rch σ l x
 b : ∀ x ∈ l, pin x = true → x ∈ d
def Shut (σ : Sg) (d : List Pl) : Prop := ∀ a ∈ d, ∀ b ∈ dirS σ a, b ∈ d
theorem mr_start (σ : Sg) (l : List Pl) : MrI σ l ((l.filter pin).foldl putP []) := by
 refine ⟨putAll_sorted List.Pairwise.nil, fun x hx => ?_, fun x hx hp => putAll_mem.2 (.inr (List.mem_filter.2 ⟨hx, hp⟩))⟩
 rcases putAll_mem.1 hx with h | h
 · cases h
 · exact .base (List.mem_filter.1 h).1 (List.mem_filter.1 h).2
theorem mr_step {σ : Sg} {l d e : List Pl} (h : MrI σ l d) {a : Pl} (ha : a ∈ d) (he : ∀ x, x ∈ e ↔ x ∈ dirS σ a) : MrI σ l (e.foldl putP d) := by
 refine ⟨putAll_sorted h.s, fun x hx => ?_, fun x hx hp => putAll_mem.2 (.inl (h.b x hx hp))⟩
 rcases putAll_mem.1 hx with h1 | h1
 · exact h.r x h1
 · exact .step (h.r a ha) ((he x).1 h1)
theorem mr_len {σ : Sg} {l d : List Pl} (h : MrI σ l d) : d.length ≤ l.length + σ.length := by
 have := nodup_len (ltp_ne h.s) (fun x hx => rch_from (h.r x hx))
 simpa using this
theorem mr_end {σ : Sg} {l d : List Pl} (h : MrI σ l d) (hc : Shut σ d) : IsRch σ l d := by
 refine ⟨h.s, fun x => ⟨h.r x, fun hx => ?_⟩, mr_len h⟩
 induction hx with
 | base h1 hp => exact h.b _ h1 hp
 | step _ hb ih => exact hc _ ih _ hb
theorem all_in {A B : List Pl} (ha : A.Pairwise Ltp) (h : ∀ x ∈ A, x ∈ B) (hl : B.length ≤ A.length) : ∀ x ∈ B, x ∈ A := fun x hx => by
 by_cases hn : x ∈ A
 · exact hn
 · have := nodup_len (A := x :: A) (M := B) (List.pairwise_cons.2 ⟨fun y hy e => hn (e ▸ hy), ltp_ne ha⟩) (fun y hy => by
     rcases List.mem_cons.1 hy with rfl | hy
     · exact hx
     · exact h y hy)
   rw [List.length_cons] at this
   omega
theorem shut_now {σ : Sg} {A B : List Pl} (ha : A.Pairwise Ltp) (h : ∀ x ∈ A, x ∈ B) (hc : ∀ a ∈ A, ∀ b ∈ dirS σ a, b ∈ B) : (A.length : Int) < (B.length : Int) ∨ (A.length : Int) = (B.length : Int) ∧ Shut σ B := by
 have h1 := nodup_len (ltp_ne ha) h
 rcases Nat.lt_or_ge A.length B.length with h2 | h2
 · exact .inl (Int.ofNat_lt.2 h2)
 · exact .inr ⟨by rw [Nat.le_antisymm h1 h2], fun a ha' b hb => hc a (all_in ha h h2 a ha') b hb⟩
theorem less_out {L n m : Int} (h : n < m) (hm : m ≤ L) : (L + 1 - m).toNat < (L + 1 - n).toNat := by omega
/-- What the document's Reach leaves. -/
def MrQ (W : World) (τ : Sg) (l : List Pl) (e : Ending) (w' : World) : Prop := ∃ d v, IsRch τ l d ∧ e = .returned v ∧ RdP w' v d ∧ Ext W w'
set_option maxRecDepth 100000 in
theorem mreach_any (W : World) (base bm : Nat) (τ : Sg) (v : Value) (l : List Pl) (h : RfD W base bm τ) (ht : τ.length ≤ 1000) (hq : ∀ e ∈ τ, e.2.length ≤ 1000) (hR : RdP W v l) (hl : l.length ≤ 50000) :
   Calls Try.prog 19 #[.pointer (some ⟨bm, 0, none⟩), v] W (MrQ W τ l) := by
 obtain ⟨p, cp, rfl, _⟩ := hR.form
 obtain ⟨ln, hln⟩ : ∃ ln, l.length = ln := ⟨_, rfl⟩
 rw [hln] at hR hl ⊢
 obtain ⟨M, hM⟩ : ∃ M, ln + τ.length = M := ⟨_, rfl⟩
 have H : Hid (l.length = ln ∧ ln ≤ 50000 ∧ τ.length ≤ 1000 ∧ ln + τ.length = M) := ⟨hln, hl, ht, hM⟩
 have HR : Hid (RdP W (.slice p ln cp) l) := hR
 have cD := fun V (e : Ext W V) r c => mdirect_any V base bm τ r c (h.ext e) ht hq
 clear h ht hq hR hl hln hM
 go_enter Try.func19, Try.ntmps19
 go_wp2_with fail
 go_loopw [5, 6] (fun vo x wr => ∃ k : Nat, x = .int .i64 (k : Int) ∧ k ≤ ln ∧ RdP wr vo (((l.take k).filter pin).foldl putP []) ∧ Ext W wr) (fun _ x _ => ln - (intOf x).toNat)
 case atStart => exact ⟨0, rfl, Nat.zero_le _, ⟨_, _, rfl, Nat.le_refl _, .inl (by simp)⟩, (Ext.refl _).alloc _⟩
 case round =>
   obtain ⟨k, rfl, hk, hR, hE⟩ := hrel
   have wk := wrapI k (by have := H.out.2.1; omega)
   rcases Nat.lt_or_ge k ln with hlt | hge
   · have hltI : (k : Int) < (ln : Int) := Int.ofNat_lt.2 hlt
     obtain ⟨s, hs⟩ : ∃ s, l[k]? = some s := ⟨_, List.getElem?_eq_getElem (by rw [H.out.1]; exact hlt)⟩
     obtain ⟨sb, so, rfl, sl, d1, d2⟩ := RdP.cell (HR.out.ext hE) hs
     obtain ⟨s1, s2⟩ := s
     have mkS : Hid (∀ V, Ext wr V → (fun V => V.cell? ⟨sb, so + k * 2, none⟩ = some (.int .i64 s1) ∧ V.cell? ⟨sb, so + k * 2 + 1, none⟩ = some (.int .i64 s2)) V) := fun V e => ⟨(e.cell.1 sb _ sl).trans d1, (e.cell.1 sb _ sl).trans d2⟩
     have c1 := fun V => rin_any s1 s2 V
     have hpa := putf_at hs
     have hlen : (((l.take k).filter pin).foldl putP []).length ≤ 200000 := by
       have h1 := puts_le ((l.take k).filter pin) []
       have h2 := List.length_filter_le pin (l.take k)
       have h3 := H.out
       rw [List.length_take] at h2
       simp only [List.length_nil] at h1
       omega
     have HE : Hid (Ext W wr) := hE
     cases hp : inB s1 s2
     · rw [show pin (s1, s2) = false from hp, if_neg (by simp)] at hpa
       have HN : Hid (∀ V, Ext wr V → RdP V u5 (((l.take (k + 1)).filter pin).foldl putP [])) := fun V e => by rw [hpa]; exact hR.ext e
       rw [hp] at c1
       clear hs hpa hlen hR hE d1 d2 hp
       go_upto_region 5 with fail
       refine wp_region_held_drew (S := (fun V => V.cell? ⟨sb, so + k * 2, none⟩ = some (.int .i64 s1) ∧ V.cell? ⟨sb, so + k * 2 + 1, none⟩ = some (.int .i64 s2))) (by kernel_rfl) ?_ (fun hHeld0 => ?_)
       · (refine mkS.out _ ?_; ((with_reducible (repeat (first | assumption | exact Ext.refl _ | apply Ext.drew | apply Ext.drewN | apply Ext.alloc))); done))
       refine wpAnyH_take (i := 0) (oi := ⟨some 19, .move (.tmp 1), 34, "ref.go:96", #[], none⟩) (v := ?_) rfl (by kernel_rfl) (by kernel_rfl) (by kernel_rfl) (fun _ _ _ h => h) (Or.inl ⟨by rfl, ?_⟩) (by assumption) ?_
       rotate_left
       · intro w hSw; (try dsimp only at hSw); first | (go_simp; done) | (go_simp; with_reducible rfl)
       try go_frame
       refine wpAnyH_take (i := 1) (oi := ⟨some 20, .move (.tmp 6), 3, "ref.go:96", #[], none⟩) (v := ?_) rfl (by kernel_rfl) (by kernel_rfl) (by kernel_rfl) (fun _ _ _ h => h) (Or.inl ⟨by rfl, ?_⟩) (by assumption) ?_
       rotate_left
       · intro w hSw; (try dsimp only at hSw); first | (go_simp; done) | (go_simp; with_reducible rfl)
       try go_frame
       refine wpAnyH_take (i := 2) (oi := ⟨some 21, .indexAddr 34 (.tmp 19) (.tmp 20), 0, "ref.go:96", #[⟨0, .data⟩, ⟨1, .data⟩], none⟩) (v := ?_) rfl (by kernel_rfl) (by kernel_rfl) (by kernel_rfl) (fun _ _ _ h => h) (Or.inl ⟨by rfl, ?_⟩) (by assumption) ?_
       rotate_left
       · intro w hSw; (try dsimp only at hSw); first | (go_simp; done) | (go_simp; with_reducible rfl)
       try go_frame
       refine wpAnyH_take (i := 3) (oi := ⟨some 22, .fieldAddr 24 (.tmp 21) 0, 0, "ref.go:96", #[⟨2, .data⟩], none⟩) (v := ?_) rfl (by kernel_rfl) (by kernel_rfl) (by kernel_rfl) (fun _ _ _ h => h) (Or.inl ⟨by rfl, ?_⟩) (by assumption) ?_
       rotate_left
       · intro w hSw; (try dsimp only at hSw); first | (go_simp; done) | (go_simp; with_reducible rfl)
       try go_frame
       refine wpAnyH_take (i := 4) (oi := ⟨some 23, .load 3 (.tmp 22), 3, "ref.go:96", #[⟨3, .data⟩], none⟩) (v := ?_) rfl (by kernel_rfl) (by kernel_rfl) (by kernel_rfl) (fun _ _ _ h => h) (Or.inl ⟨by rfl, ?_⟩) (by assumption) ?_
       rotate_left
       · intro w hSw; (try dsimp only at hSw); first | (go_simp; done) | (go_simp; with_reducible rfl)
       try go_frame
       refine wpAnyH_take (i := 5) (oi := ⟨some 24, .move (.tmp 1), 34, "ref.go:96", #[], none⟩) (v := ?_) rfl (by kernel_rfl) (by kernel_rfl) (by kernel_rfl) (fun _ _ _ h => h) (Or.inl ⟨by rfl, ?_⟩) (by assumption) ?_
       rotate_left
       · intro w hSw; (try dsimp only at hSw); first | (go_simp; done) | (go_simp; with_reducible rfl)
       try go_frame
       refine wpAnyH_take (i := 6) (oi := ⟨some 25, .move (.tmp 6), 3, "ref.go:96", #[], none⟩) (v := ?_) rfl (by kernel_rfl) (by kernel_rfl) (by kernel_rfl) (fun _ _ _ h => h) (Or.inl ⟨by rfl, ?_⟩) (by assumption) ?_
       rotate_left
       · intro w hSw; (try dsimp only at hSw); first | (go_simp; done) | (go_simp; with_reducible rfl)
       try go_frame
       refine wpAnyH_take (i := 7) (oi := ⟨some 26, .indexAddr 34 (.tmp 24) (.tmp 25), 0, "ref.go:96", #[⟨5, .data⟩, ⟨6, .data⟩], none⟩) (v := ?_) rfl (by kernel_rfl) (by kernel_rfl) (by kernel_rfl) (fun _ _ _ h => h) (Or.inl ⟨by rfl, ?_⟩) (by assumption) ?_
       rotate_left
       · intro w hSw; (try dsimp only at hSw); first | (go_simp; done) | (go_simp; with_reducible rfl)
       try go_frame
       refine wpAnyH_take (i := 8) (oi := ⟨some 27, .fieldAddr 24 (.tmp 26) 1, 0, "ref.go:96", #[⟨7, .data⟩], none⟩) (v := ?_) rfl (by kernel_rfl) (by kernel_rfl) (by kernel_rfl) (fun _ _ _ h => h) (Or.inl ⟨by rfl, ?_⟩) (by assumption) ?_
       rotate_left
       · intro w hSw; (try dsimp only at hSw); first | (go_simp; done) | (go_simp; with_reducible rfl)
       try go_frame
       refine wpAnyH_take (i := 9) (oi := ⟨some 28, .load 3 (.tmp 27), 3, "ref.go:96", #[⟨8, .data⟩], none⟩) (v := ?_) rfl (by kernel_rfl) (by kernel_rfl) (by kernel_rfl) (fun _ _ _ h => h) (Or.inl ⟨by rfl, ?_⟩) (by assumption) ?_
       rotate_left
       · intro w hSw; (try dsimp only at hSw); first | (go_simp; done) | (go_simp; with_reducible rfl)
       try go_frame
       refine wpAnyH_ready (rs := [10]) (by kernel_rfl) (by simp) ?_
       refine AllReadyH.cons (o := ⟨some 29, .call { callee := .value (.func 34), args := #[.tmp 23, .tmp 28], argTypes := #[3, 3] }, 4, "ref.go:96", #[⟨4, .data⟩, ⟨9, .data⟩], none⟩) rfl (fun K hK => ?_) AllReadyH.nil
       go_simp
       refine (c1 _).mono ?_; rintro e x1 ⟨rfl, rfl⟩
       try go_wp2_with fail
       refine hK.out _ _ ?_ (fun hHeld1 => ?_)
       · (try dsimp only); (refine mkS.out _ ?_; ((with_reducible (repeat (first | assumption | exact Ext.refl _ | apply Ext.drew | apply Ext.drewN | apply Ext.alloc))); done))
       clear hK K hHeld0
       try go_frame
       refine wpAnyH_done (by kernel_rfl) ?_ _
       go_wp2_with fail
       go_roundw
       case rel => exact ⟨k + 1, by rw [wk], hlt, HN.out _ (by with_reducible (repeat (first | assumption | exact Ext.refl _ | apply Ext.drew | apply Ext.drewN | apply Ext.alloc))), HE.out.trans (by with_reducible (repeat (first | assumption | exact Ext.refl _ | apply Ext.drew | apply Ext.drewN | apply Ext.alloc)))⟩
       case measure => rw [wk]; simp [intOf]; exact less_in hlt
     · rw [show pin (s1, s2) = true from hp, if_pos rfl] at hpa
       have cP := fun V (e : Ext wr V) => put_any V u5 (((l.take k).filter pin).foldl putP []) s1 s2 (hR.ext e) hlen
       rw [← hpa] at cP
       rw [hp] at c1
       clear hs hpa hlen hR hE hp
       go_upto_region 5 with fail
       refine wp_region_held_drew (S := (fun V => V.cell? ⟨sb, so + k * 2, none⟩ = some (.int .i64 s1) ∧ V.cell? ⟨sb, so + k * 2 + 1, none⟩ = some (.int .i64 s2))) (by kernel_rfl) ?_ (fun hHeld0 => ?_)
       · (refine mkS.out _ ?_; ((with_reducible (repeat (first | assumption | exact Ext.refl _ | apply Ext.drew | apply Ext.drewN | apply Ext.alloc))); done))
       refine wpAnyH_take (i := 0) (oi := ⟨some 19, .move (.tmp 1), 34, "ref.go:96", #[], none⟩) (v := ?_) rfl (by kernel_rfl) (by kernel_rfl) (by kernel_rfl) (fun _ _ _ h => h) (Or.inl ⟨by rfl, ?_⟩) (by assumption) ?_
       rotate_left
       · intro w hSw; (try dsimp only at hSw); first | (go_simp; done) | (go_simp; with_reducible rfl)
       try go_frame
       refine wpAnyH_take (i := 1) (oi := ⟨some 20, .move (.tmp 6), 3, "ref.go:96", #[], none⟩) (v := ?_) rfl (by kernel_rfl) (by kernel_rfl) (by kernel_rfl) (fun _ _ _ h => h) (Or.inl ⟨by rfl, ?_⟩) (by assumption) ?_
       rotate_left
       · intro w hSw; (try dsimp only at hSw); first | (go_simp; done) | (go_simp; with_reducible rfl)
       try go_frame
       refine wpAnyH_take (i := 2) (oi := ⟨some 21, .indexAddr 34 (.tmp 19) (.tmp 20), 0, "ref.go:96", #[⟨0, .data⟩, ⟨1, .data⟩], none⟩) (v := ?_) rfl (by kernel_rfl) (by kernel_rfl) (by kernel_rfl) (fun _ _ _ h => h) (Or.inl ⟨by rfl, ?_⟩) (by assumption) ?_
       rotate_left
       · intro w hSw; (try dsimp only at hSw); first | (go_simp; done) | (go_simp; with_reducible rfl)
       try go_frame
       refine wpAnyH_take (i := 3) (oi := ⟨some 22, .fieldAddr 24 (.tmp 21) 0, 0, "ref.go:96", #[⟨2, .data⟩], none⟩) (v := ?_) rfl (by kernel_rfl) (by kernel_rfl) (by kernel_rfl) (fun _ _ _ h => h) (Or.inl ⟨by rfl, ?_⟩) (by assumption) ?_
       rotate_left
       · intro w hSw; (try dsimp only at hSw); first | (go_simp; done) | (go_simp; with_reducible rfl)
       try go_frame
       refine wpAnyH_take (i := 4) (oi := ⟨some 23, .load 3 (.tmp 22), 3, "ref.go:96", #[⟨3, .data⟩], none⟩) (v := ?_) rfl (by kernel_rfl) (by kernel_rfl) (by kernel_rfl) (fun _ _ _ h => h) (Or.inl ⟨by rfl, ?_⟩) (by assumption) ?_
       rotate_left
       · intro w hSw; (try dsimp only at hSw); first | (go_simp; done) | (go_simp; with_reducible rfl)
       try go_frame
       refine wpAnyH_take (i := 5) (oi := ⟨some 24, .move (.tmp 1), 34, "ref.go:96", #[], none⟩) (v := ?_) rfl (by kernel_rfl) (by kernel_rfl) (by kernel_rfl) (fun _ _ _ h => h) (Or.inl ⟨by rfl, ?_⟩) (by assumption) ?_
       rotate_left
       · intro w hSw; (try dsimp only at hSw); first | (go_simp; done) | (go_simp; with_reducible rfl)
       try go_frame
       refine wpAnyH_take (i := 6) (oi := ⟨some 25, .move (.tmp 6), 3, "ref.go:96", #[], none⟩) (v := ?_) rfl (by kernel_rfl) (by kernel_rfl) (by kernel_rfl) (fun _ _ _ h => h) (Or.inl ⟨by rfl, ?_⟩) (by assumption) ?_
       rotate_left
       · intro w hSw; (try dsimp only at hSw); first | (go_simp; done) | (go_simp; with_reducible rfl)
       try go_frame
       refine wpAnyH_take (i := 7) (oi := ⟨some 26, .indexAddr 34 (.tmp 24) (.tmp 25), 0, "ref.go:96", #[⟨5, .data⟩, ⟨6, .data⟩], none⟩) (v := ?_) rfl (by kernel_rfl) (by kernel_rfl) (by kernel_rfl) (fun _ _ _ h => h) (Or.inl ⟨by rfl, ?_⟩) (by assumption) ?_
       rotate_left
       · intro w hSw; (try dsimp only at hSw); first | (go_simp; done) | (go_simp; with_reducible rfl)
       try go_frame
       refine wpAnyH_take (i := 8) (oi := ⟨some 27, .fieldAddr 24 (.tmp 26) 1, 0, "ref.go:96", #[⟨7, .data⟩], none⟩) (v := ?_) rfl (by kernel_rfl) (by kernel_rfl) (by kernel_rfl) (fun _ _ _ h => h) (Or.inl ⟨by rfl, ?_⟩) (by assumption) ?_
       rotate_left
       · intro w hSw; (try dsimp only at hSw); first | (go_simp; done) | (go_simp; with_reducible rfl)
       try go_frame
       refine wpAnyH_take (i := 9) (oi := ⟨some 28, .load 3 (.tmp 27), 3, "ref.go:96", #[⟨8, .data⟩], none⟩) (v := ?_) rfl (by kernel_rfl) (by kernel_rfl) (by kernel_rfl) (fun _ _ _ h => h) (Or.inl ⟨by rfl, ?_⟩) (by assumption) ?_
       rotate_left
       · intro w hSw; (try dsimp only at hSw); first | (go_simp; done) | (go_simp; with_reducible rfl)
       try go_frame
       refine wpAnyH_ready (rs := [10]) (by kernel_rfl) (by simp) ?_
       refine AllReadyH.cons (o := ⟨some 29, .call { callee := .value (.func 34), args := #[.tmp 23, .tmp 28], argTypes := #[3, 3] }, 4, "ref.go:96", #[⟨4, .data⟩, ⟨9, .data⟩], none⟩) rfl (fun K hK => ?_) AllReadyH.nil
       go_simp
       refine (c1 _).mono ?_; rintro e x1 ⟨rfl, rfl⟩
       try go_wp2_with fail
       refine hK.out _ _ ?_ (fun hHeld1 => ?_)
       · (try dsimp only); (refine mkS.out _ ?_; ((with_reducible (repeat (first | assumption | exact Ext.refl _ | apply Ext.drew | apply Ext.drewN | apply Ext.alloc))); done))
       clear hK K hHeld0
       try go_frame
       refine wpAnyH_done (by kernel_rfl) ?_ _
       go_wp2_with fail
       refine (cP _ (by with_reducible (repeat (first | assumption | exact Ext.refl _ | apply Ext.drew | apply Ext.drewN | apply Ext.alloc)))).mono ?_
       rintro e w3 ⟨v3, rfl, R3, E3⟩
       have H3 : Hid (RdP w3 v3 (((l.take (k + 1)).filter pin).foldl putP []) ∧ Ext W w3) := ⟨R3, HE.out.trans (Ext.trans (by with_reducible (repeat (first | assumption | exact Ext.refl _ | apply Ext.drew | apply Ext.drewN | apply Ext.alloc))) E3)⟩
       clear cP R3 E3 d1 d2 mkS
       go_wp2_with fail
       go_roundw
       case rel => exact ⟨k + 1, by rw [wk], hlt, H3.out.1, H3.out.2⟩
       case measure => rw [wk]; simp [intOf]; exact less_in hlt
   · have hltI : ¬ (k : Int) < (ln : Int) := fun h => Nat.not_lt.2 hge (Int.ofNat_lt.1 h)
     have HS : Hid (MrI τ l ((l.filter pin).foldl putP []) ∧ RdP wr u5 ((l.filter pin).foldl putP []) ∧ Ext W wr) := ⟨mr_start τ l, by rw [List.take_of_length_le (by rw [H.out.1]; exact hge)] at hR; exact hR, hE⟩
     clear hR hE wk hk hge
     go_wp2_with fail
     generalize wr = w0 at *
     clear hltI
     go_loopw [5, 7] (fun vo x wr => ∃ (n : Int) (d : List Pl), x = .int .i64 n ∧ (n < (d.length : Int) ∨ n = (d.length : Int) ∧ Shut τ d) ∧ MrI τ l d ∧ RdP wr vo d ∧ Ext W wr) (fun _ x _ => ((M : Int) + 1 - intOf x).toNat)
     case atStart => exact ⟨-1, _, rfl, .inl (by omega), HS.out.1, HS.out.2.1, HS.out.2.2⟩
     case round =>
       clear HS
       obtain ⟨n, d, rfl, hn, hM, hR, hE⟩ := hrel
       obtain ⟨pv, cv, hv, _⟩ := hR.form
       obtain ⟨dn, hdn⟩ : ∃ dn, d.length = dn := ⟨_, rfl⟩
       rw [hdn] at hv
       subst hv
       have hdm := mr_len hM
       have HD : Hid (MrI τ l d ∧ RdP wr (.slice pv dn cv) d ∧ Ext W wr ∧ d.length = dn ∧ dn ≤ M ∧ M ≤ 51000) := ⟨hM, hR, hE, hdn, by have := H.out; omega, by have := H.out; omega⟩
       rw [hdn] at hn
       by_cases hlt : n < (dn : Int)
       · clear hM hR hE hdn hdm hn
         go_wp2_with fail
         generalize wr = w1 at *
         go_loopw [5, 9] (fun vo x wr => ∃ (i : Nat) (d' : List Pl), x = .int .i64 (i : Int) ∧ i ≤ dn ∧ MrI τ l d' ∧ (∀ x ∈ d, x ∈ d') ∧ (∀ a ∈ d.take i, ∀ b ∈ dirS τ a, b ∈ d') ∧ RdP wr vo d' ∧ Ext w1 wr) (fun _ x _ => dn - (intOf x).toNat)
         case atStart => exact ⟨0, d, rfl, Nat.zero_le _, HD.out.1, fun _ h => h, by simp, HD.out.2.1, Ext.refl _⟩
         case round =>
           obtain ⟨i, d', rfl, hi, hM, hsub, hcl, hR, hE⟩ := hrel
           have wi := wrapI i (by have := HD.out; omega)
           have HT : Hid (MrI τ l d' ∧ (∀ x ∈ d, x ∈ d') ∧ (∀ a ∈ d.take i, ∀ b ∈ dirS τ a, b ∈ d') ∧ RdP wr u5 d' ∧ Ext w1 wr) := ⟨hM, hsub, hcl, hR, hE⟩
           rcases Nat.lt_or_ge i dn with hli | hgi
           · have hliI : (i : Int) < (dn : Int) := Int.ofNat_lt.2 hli
             obtain ⟨a, ha⟩ : ∃ a, d[i]? = some a := ⟨_, List.getElem?_eq_getElem (by rw [HD.out.2.2.2.1]; exact hli)⟩
             obtain ⟨ab, ao, rfl, al, d1, d2⟩ := RdP.cell (HD.out.2.1.ext hE) ha
             obtain ⟨a1, a2⟩ := a
             have mkS : Hid (∀ V, Ext wr V → (fun V => V.cell? ⟨ab, ao + i * 2, none⟩ = some (.int .i64 a1) ∧ V.cell? ⟨ab, ao + i * 2 + 1, none⟩ = some (.int .i64 a2)) V) := fun V e => ⟨(e.cell.1 ab _ al).trans d1, (e.cell.1 ab _ al).trans d2⟩
             have HA : Hid (d[i]? = some (a1, a2)) := ha
             have HE3 : Hid (Ext W wr) := HD.out.2.2.1.trans hE
             clear hM hsub hcl hR hE ha d1 d2
             go_upto_region 14 with fail
             refine wp_region_held_drew (S := (fun V => V.cell? ⟨ab, ao + i * 2, none⟩ = some (.int .i64 a1) ∧ V.cell? ⟨ab, ao + i * 2 + 1, none⟩ = some (.int .i64 a2))) (by kernel_rfl) ?_ (fun hHeld0 => ?_)
             · (refine mkS.out _ ?_; ((with_reducible (repeat (first | assumption | exact Ext.refl _ | apply Ext.drew | apply Ext.drewN | apply Ext.alloc))); done))
             refine wpAnyH_take (i := 0) (oi := ⟨some 49, .move (.tmp 0), 26, "ref.go:104", #[], none⟩) (v := ?_) rfl (by kernel_rfl) (by kernel_rfl) (by kernel_rfl) (fun _ _ _ h => h) (Or.inl ⟨by rfl, ?_⟩) (by assumption) ?_
             rotate_left
             · intro w hSw; (try dsimp only at hSw); first | (go_simp; done) | (go_simp; with_reducible rfl)
             try go_frame
             refine wpAnyH_take (i := 1) (oi := ⟨some 50, .move (.tmp 8), 34, "ref.go:104", #[], none⟩) (v := ?_) rfl (by kernel_rfl) (by kernel_rfl) (by kernel_rfl) (fun _ _ _ h => h) (Or.inl ⟨by rfl, ?_⟩) (by assumption) ?_
             rotate_left
             · intro w hSw; (try dsimp only at hSw); first | (go_simp; done) | (go_simp; with_reducible rfl)
             try go_frame
             refine wpAnyH_take (i := 2) (oi := ⟨some 51, .move (.tmp 9), 3, "ref.go:104", #[], none⟩) (v := ?_) rfl (by kernel_rfl) (by kernel_rfl) (by kernel_rfl) (fun _ _ _ h => h) (Or.inl ⟨by rfl, ?_⟩) (by assumption) ?_
             rotate_left
             · intro w hSw; (try dsimp only at hSw); first | (go_simp; done) | (go_simp; with_reducible rfl)
             try go_frame
             refine wpAnyH_take (i := 3) (oi := ⟨some 52, .indexAddr 34 (.tmp 50) (.tmp 51), 0, "ref.go:104", #[⟨1, .data⟩, ⟨2, .data⟩], none⟩) (v := ?_) rfl (by kernel_rfl) (by kernel_rfl) (by kernel_rfl) (fun _ _ _ h => h) (Or.inl ⟨by rfl, ?_⟩) (by assumption) ?_
             rotate_left
             · intro w hSw; (try dsimp only at hSw); first | (go_simp; done) | (go_simp; with_reducible rfl)
             try go_frame
             refine wpAnyH_take (i := 4) (oi := ⟨some 53, .fieldAddr 24 (.tmp 52) 0, 0, "ref.go:104", #[⟨3, .data⟩], none⟩) (v := ?_) rfl (by kernel_rfl) (by kernel_rfl) (by kernel_rfl) (fun _ _ _ h => h) (Or.inl ⟨by rfl, ?_⟩) (by assumption) ?_
             rotate_left
             · intro w hSw; (try dsimp only at hSw); first | (go_simp; done) | (go_simp; with_reducible rfl)
             try go_frame
             refine wpAnyH_take (i := 5) (oi := ⟨some 54, .load 3 (.tmp 53), 3, "ref.go:104", #[⟨4, .data⟩], none⟩) (v := ?_) rfl (by kernel_rfl) (by kernel_rfl) (by kernel_rfl) (fun _ _ _ h => h) (Or.inl ⟨by rfl, ?_⟩) (by assumption) ?_
             rotate_left
             · intro w hSw; (try dsimp only at hSw); first | (go_simp; done) | (go_simp; with_reducible rfl)
             try go_frame
             refine wpAnyH_take (i := 6) (oi := ⟨some 55, .move (.tmp 8), 34, "ref.go:104", #[], none⟩) (v := ?_) rfl (by kernel_rfl) (by kernel_rfl) (by kernel_rfl) (fun _ _ _ h => h) (Or.inl ⟨by rfl, ?_⟩) (by assumption) ?_
             rotate_left
             · intro w hSw; (try dsimp only at hSw); first | (go_simp; done) | (go_simp; with_reducible rfl)
             try go_frame
             refine wpAnyH_take (i := 7) (oi := ⟨some 56, .move (.tmp 9), 3, "ref.go:104", #[], none⟩) (v := ?_) rfl (by kernel_rfl) (by kernel_rfl) (by kernel_rfl) (fun _ _ _ h => h) (Or.inl ⟨by rfl, ?_⟩) (by assumption) ?_
             rotate_left
             · intro w hSw; (try dsimp only at hSw); first | (go_simp; done) | (go_simp; with_reducible rfl)
             try go_frame
             refine wpAnyH_take (i := 8) (oi := ⟨some 57, .indexAddr 34 (.tmp 55) (.tmp 56), 0, "ref.go:104", #[⟨6, .data⟩, ⟨7, .data⟩], none⟩) (v := ?_) rfl (by kernel_rfl) (by kernel_rfl) (by kernel_rfl) (fun _ _ _ h => h) (Or.inl ⟨by rfl, ?_⟩) (by assumption) ?_
             rotate_left
             · intro w hSw; (try dsimp only at hSw); first | (go_simp; done) | (go_simp; with_reducible rfl)
             try go_frame
             refine wpAnyH_take (i := 9) (oi := ⟨some 58, .fieldAddr 24 (.tmp 57) 1, 0, "ref.go:104", #[⟨8, .data⟩], none⟩) (v := ?_) rfl (by kernel_rfl) (by kernel_rfl) (by kernel_rfl) (fun _ _ _ h => h) (Or.inl ⟨by rfl, ?_⟩) (by assumption) ?_
             rotate_left
             · intro w hSw; (try dsimp only at hSw); first | (go_simp; done) | (go_simp; with_reducible rfl)
             try go_frame
             refine wpAnyH_take (i := 10) (oi := ⟨some 59, .load 3 (.tmp 58), 3, "ref.go:104", #[⟨9, .data⟩], none⟩) (v := ?_) rfl (by kernel_rfl) (by kernel_rfl) (by kernel_rfl) (fun _ _ _ h => h) (Or.inl ⟨by rfl, ?_⟩) (by assumption) ?_
             rotate_left
             · intro w hSw; (try dsimp only at hSw); first | (go_simp; done) | (go_simp; with_reducible rfl)
             try go_frame
             refine wpAnyH_ready (rs := [11]) (by kernel_rfl) (by simp) ?_
             refine AllReadyH.cons (o := ⟨some 60, .call { callee := .value (.func 13), args := #[.tmp 49, .tmp 54, .tmp 59], argTypes := #[26, 3, 3] }, 34, "ref.go:104", #[⟨0, .data⟩, ⟨5, .data⟩, ⟨10, .data⟩], none⟩) rfl (fun K hK => ?_) AllReadyH.nil
             go_simp
             refine (cD _ (HE3.out.trans (by with_reducible (repeat (first | assumption | exact Ext.refl _ | apply Ext.drew | apply Ext.drewN | apply Ext.alloc)))) a1 a2).mono ?_; rintro e x1 ⟨ee, ve, hee, rfl, Re, Ee⟩; have X1 : Ext wr x1 := Ext.trans (by with_reducible (repeat (first | assumption | exact Ext.refl _ | apply Ext.drew | apply Ext.drewN | apply Ext.alloc))) Ee; have HX1 : Hid _ := And.intro hee (And.intro Re X1); clear hee Re Ee
             try go_wp2_with fail
             refine hK.out _ _ ?_ (fun hHeld1 => ?_)
             · (try dsimp only); (refine mkS.out _ ?_; ((with_reducible (repeat (first | assumption | exact Ext.refl _ | apply Ext.drew | apply Ext.drewN | apply Ext.alloc))); done))
             clear hK K hHeld0
             try go_frame
             refine wpAnyH_take (i := 12) (oi := ⟨some 10, .assign (.tmp 60), 34, "ref.go:104", #[⟨11, .data⟩, ⟨11, .chain⟩, ⟨0, .phase⟩, ⟨1, .phase⟩, ⟨2, .phase⟩, ⟨3, .phase⟩, ⟨4, .phase⟩, ⟨5, .phase⟩, ⟨6, .phase⟩, ⟨7, .phase⟩, ⟨8, .phase⟩, ⟨9, .phase⟩, ⟨10, .phase⟩, ⟨11, .phase⟩], none⟩) (v := ?_) rfl (by kernel_rfl) (by kernel_rfl) (by kernel_rfl) (fun _ _ _ h => h) (Or.inl ⟨by rfl, ?_⟩) (by assumption) ?_
             rotate_left
             · intro w hSw; (try dsimp only at hSw); first | (go_simp; done) | (go_simp; with_reducible rfl)
             try go_frame
             refine wpAnyH_done (by kernel_rfl) ?_ _
             obtain ⟨ep, ec, hve, _⟩ := HX1.out.2.1.form
             obtain ⟨en, hen⟩ : ∃ en, ee.length = en := ⟨_, rfl⟩
             rw [hen] at hve
             subst hve
             have HEN : Hid (ee.length = en ∧ en ≤ 1000) := ⟨hen, by have := HX1.out.1.2.2; have := H.out; omega⟩
             have HR0 : Hid (RdP x1 u5 d' ∧ d'.length ≤ 51000) := ⟨HT.out.2.2.2.1.ext X1, by have := mr_len HT.out.1; have := H.out; omega⟩
             clear hen mkS X1
             go_wp2_with fail
             go_loopw [5, 11] (fun vo x wr => ∃ j : Nat, x = .int .i64 (j : Int) ∧ j ≤ en ∧ RdP wr vo ((ee.take j).foldl putP d') ∧ Ext x1 wr) (fun _ x _ => en - (intOf x).toNat)
             case atStart => exact ⟨0, rfl, Nat.zero_le _, by simpa using HR0.out.1, Ext.refl _⟩
             case round =>
               obtain ⟨j, rfl, hj, hR, hE⟩ := hrel
               have wj := wrapI j (by have := HEN.out; omega)
               rcases Nat.lt_or_ge j en with hlj | hgj
               · have hljI : (j : Int) < (en : Int) := Int.ofNat_lt.2 hlj
                 obtain ⟨s, hs⟩ : ∃ s, ee[j]? = some s := ⟨_, List.getElem?_eq_getElem (by rw [HEN.out.1]; exact hlj)⟩
                 obtain ⟨sb, so, rfl, _, d1, d2⟩ := RdP.cell (HX1.out.2.1.ext hE) hs
                 obtain ⟨s1, s2⟩ := s
                 have cP := put_any wr u5 ((ee.take j).foldl putP d') s1 s2 hR (puts_lim HR0.out.2 HEN.out)
                 rw [← put_at hs] at cP
                 have HE : Hid (Ext x1 wr) := hE
                 clear hs hR hE
                 go_wp2_with fail
                 refine cP.mono ?_
                 rintro e w7 ⟨v7, rfl, R7, E7⟩
                 have H7 : Hid (RdP w7 v7 ((ee.take (j + 1)).foldl putP d') ∧ Ext x1 w7) := ⟨R7, HE.out.trans E7⟩
                 clear cP R7 E7 d1 d2
                 go_wp2_with fail
                 go_roundw
                 case rel => exact ⟨j + 1, by rw [wj], hlj, H7.out.1, H7.out.2⟩
                 case measure => rw [wj]; simp [intOf]; exact less_in hlj
               · have hljI : ¬ (j : Int) < (en : Int) := fun h => Nat.not_lt.2 hgj (Int.ofNat_lt.1 h)
                 have H7 : Hid (RdP wr u5 (ee.foldl putP d') ∧ Ext w1 wr) := by
                   have := hR
                   rw [List.take_of_length_le (by rw [HEN.out.1]; exact hgj)] at this
                   exact ⟨this, HT.out.2.2.2.2.trans (HX1.out.2.2.trans hE)⟩
                 clear hR hE wj
                 go_wp2_with fail
                 go_roundw
                 case rel =>
                   refine ⟨i + 1, ee.foldl putP d', by rw [wi], hli, mr_step HT.out.1 (HT.out.2.1 _ (List.mem_of_getElem? HA.out)) HX1.out.1.2.1, fun x hx => putAll_mem.2 (.inl (HT.out.2.1 x hx)), fun a ha b hb => ?_, H7.out.1, H7.out.2⟩
                   rw [take_at HA.out] at ha
                   rcases List.mem_append.1 ha with ha | ha
                   · exact putAll_mem.2 (.inl (HT.out.2.2.1 a ha b hb))
                   · simp at ha
                     subst ha
                     exact putAll_mem.2 (.inr ((HX1.out.1.2.1 b).2 hb))
                 case measure => rw [wi]; simp [intOf]; exact less_in hli
           · have hliI : ¬ (i : Int) < (dn : Int) := fun h => Nat.not_lt.2 hgi (Int.ofNat_lt.1 h)
             have HN : Hid ((dn : Int) < (d'.length : Int) ∨ (dn : Int) = (d'.length : Int) ∧ Shut τ d') := by
               have hc := hcl
               rw [List.take_of_length_le (by rw [HD.out.2.2.2.1]; exact hgi)] at hc
               have := shut_now HD.out.1.s hsub hc
               rw [HD.out.2.2.2.1] at this
               exact this
             clear hM hsub hcl hR hE wi
             go_wp2_with fail
             go_roundw
             case rel => exact ⟨dn, d', rfl, HN.out, HT.out.1, HT.out.2.2.2.1, HD.out.2.2.1.trans HT.out.2.2.2.2⟩
             case measure => simp only [intOf]; exact less_out hlt (Int.ofNat_le.2 HD.out.2.2.2.2.1)
       · have HQ : Hid (MrQ W τ l (.returned (.slice pv dn cv)) wr) := by
           rcases hn with hn | ⟨_, hc⟩
           · exact absurd hn hlt
           · exact ⟨d, _, mr_end hM hc, rfl, hR, hE⟩
         clear hM hR hE hdn hdm hn HD
         go_wp2_with fail
         go_ret
         exact HQ.out
set_option maxRecDepth 100000 in
theorem mcyclic_any (W : World) (base bm : Nat) (τ : Sg) (r c : Int) (h : RfD W base bm τ) (ht : τ.length ≤ 1000) (hq : ∀ e ∈ τ, e.2.length ≤ 1000) :
   Calls Try.prog 15 #[.pointer (some ⟨bm, 0, none⟩), .int .i64 r, .int .i64 c] W fun e w' => ∃ t : Bool, e = .returned (.bool t) ∧ (t = true ↔ Rch τ (dirS τ (r, c)) (r, c)) ∧ Ext W w' := by
 have cD := mdirect_any W base bm τ r c h ht hq
 have cE := fun V v d (e : Ext W V) (hd : IsDir τ (r, c) d) (hr : RdP V v d) => mreach_any V base bm τ v d (h.ext e) ht hq hr (by have := hd.2.2; omega)
 have HT : Hid (τ.length ≤ 1000) := ht
 clear h ht hq
 go_enter Try.func15, Try.ntmps15
 go_wp2_with fail
 refine cD.mono ?_
 rintro e w1 ⟨d, v1, hd, rfl, R1, E1⟩
 have H1 : Hid (IsDir τ (r, c) d ∧ Ext W w1) := ⟨hd, E1⟩
 have cE1 := cE w1 v1 d E1 hd R1
 clear cD cE hd R1 E1
 go_wp2_with fail
 refine cE1.mono ?_
 rintro e w2 ⟨f, v2, hf, rfl, R2, E2⟩
 have cH := fun V (e : Ext w2 V) => phas_any V v2 f r c (R2.ext e) (by have := hf.2.2; have := H1.out.1.2.2; have := HT.out; omega)
 have H2 : Hid ((decide ((r, c) ∈ f) = true ↔ Rch τ (dirS τ (r, c)) (r, c)) ∧ Ext W w2) := ⟨by rw [decide_eq_true_iff, hf.2.1, rch_congr H1.out.1.2.1], H1.out.2.trans E2⟩
 clear cE1 hf R2 E2
 go_wp2_with fail
 refine (cH _ (by with_reducible (repeat (first | assumption | exact Ext.refl _ | apply Ext.drew | apply Ext.drewN | apply Ext.alloc)))).mono ?_
 rintro e w3 ⟨rfl, E3⟩
 have H3 : Hid (Ext W w3) := H2.out.2.trans (Ext.trans (by with_reducible (repeat (first | assumption | exact Ext.refl _ | apply Ext.drew | apply Ext.drewN | apply Ext.alloc))) E3)
 obtain ⟨t, ht⟩ : ∃ t, decide ((r, c) ∈ f) = t := ⟨_, rfl⟩
 have HT2 : Hid (t = true ↔ Rch τ (dirS τ (r, c)) (r, c)) := by rw [← ht]; exact H2.out.1
 rw [ht]
 clear cH E3 ht
 go_wp2_with fail
 go_ret
 exact ⟨t, rfl, HT2.out, H3.out⟩
theorem acts_8 : ∀ (zs : List Zt) (σ : Sg), (∀ e ∈ σ, e.2.length ≤ 8) → ∀ e ∈ zs.foldl (fun σ z => setS σ z.e.1 (z.e.2.take 8)) σ, e.2.length ≤ 8
 | [], _, h => h
 | z :: zs, σ, h => by
   refine acts_8 zs _ (fun e he => ?_)
   have he : e ∈ setS σ z.e.1 (z.e.2.take 8) := he
   unfold setS at he
   split at he
   · rcases List.mem_append.1 he with he | he
     · exact h e (List.mem_filter.1 he).1
     · simp at he
       subst he
       refine Nat.le_trans (List.length_filter_le _ _) ?_
       rw [List.length_take]
       omega
   · exact h e he
theorem act_8 (Z : List Zt) (k : Nat) : ∀ e ∈ actK Z k, e.2.length ≤ 1000 := fun e he => Nat.le_trans (acts_8 _ [] (by simp) e he) (by decide)
end Go.Proofs.Ytjpiphnbadggoaa

/-
 Lists of spans cloned and sorted (slices.Clone, slices.SortFunc), in plain words.
 The plain form of a list (package span's Norm).
 Package deps: the rows that rectangles have in a column, in plain form.
 Package deps: learn.
 Package deps: learn, where there is no map yet.
 Package deps: New, Set, Needs.
 Package deps: each: who needs a place is shown to a function.
 Package deps: lists of places put in order (slices.SortFunc by inOrder).
-/
import Derived.Test.YtjpiphnbadggoaaA3
import Derived.Test.YtjpiphnbadggoaaShelf
import Derived.Test.YtjpiphnbadggoaaA2
import Derived.Test.YtjpiphnbadggoaaA1
namespace Go.Proofs.Ytjpiphnbadggoaa
open Go.RowKit Go.Sort
set_option maxHeartbeats 1000000

def encS (x : Sp) : List Value := [.int .i64 x.1, .int .i64 x.2]
theorem encS_len (x : Sp) : (encS x).length = 2 := rfl
theorem encS_one (x : Sp) : ∀ v ∈ encS x, v.oneCell' = true := by intro v hv; simp [encS] at hv; rcases hv with rfl | rfl <;> rfl
theorem closure_any (x y : Sp) (W : World) : Calls Try.prog 70 #[.agg #[.int .i64 x.1, .int .i64 x.2], .agg #[.int .i64 y.1, .int .i64 y.2]] W fun e w' => e = .returned (.int .i64 (Lib.compareInt x.1 y.1)) ∧ ∃ q os', w' = grow (W.drewN q) os' := by
 have hcon := fun W' => AnyG.cmp_Compare_int Try.laysCmp x.1 y.1 W'
 change ∀ W', Calls Try.prog 43 _ _ _ at hcon
 generalize Lib.compareInt x.1 y.1 = r at hcon ⊢
 go_enter Try.func70, Try.ntmps70
 go_wp2_with (go_at_call 43; refine (hcon _).mono ?_; rintro e w' ⟨rfl, rfl⟩)
 go_ret
 exact ⟨rfl, 0, _, by rw [alloc_eq_grow, alloc_eq_grow, grow_grow]; rfl⟩
theorem cmp_lays (blk off size : Nat) (w : World) : CmpLays Try.prog 70 #[] encS 2 (fun x y => Lib.compareInt x.1 y.1) blk off size w :=
 fun _ _ _ _ x y => closure_any x y _
theorem lt_from (x y : Sp) : ltOf (fun x y : Sp => Lib.compareInt x.1 y.1) x y = decide (x.1 < y.1) := by
 unfold ltOf Lib.compareInt
 by_cases h1 : x.1 < y.1
 · simp [h1]
 · by_cases h2 : y.1 < x.1 <;> simp [h1, h2]
theorem swo_from : SWO (ltOf fun x y : Sp => Lib.compareInt x.1 y.1) where
 irrefl x := by rw [lt_from]; simp
 trans x y z h1 h2 := by rw [lt_from] at *; simp at *; omega
 ntrans x y z h1 h2 := by rw [lt_from] at *; simp at *; omega

theorem list_prefix {a b : List Value} (h : ∀ (j : Nat) (u : Value), a[j]? = some u → b[j]? = some u) : b = a ++ b.drop a.length := by
 have e : b.take a.length = a := by
   apply List.ext_getElem?
   intro j
   rw [List.getElem?_take]
   split
   · rename_i hj
     rw [List.getElem?_eq_getElem hj]
     exact h j _ (List.getElem?_eq_getElem hj)
   · rename_i hj
     exact (List.getElem?_eq_none (by omega)).symm
 conv => lhs; rw [← List.take_append_drop a.length b, e]
theorem sort_heap {w : World} {g : Nat} {cur : Array Value} {T : TypeId} {fr : Nat × Nat} (hg : w.heap[g]? = some (.cells cur T fr)) (n : Nat) (d : Array Sp) (os : Array Obj) :
   (∃ cur', (sortWorldK encS 2 w g 0 n d os).heap[g]? = some (.cells cur' T fr) ∧ cur'.size = cur.size) ∧ ∀ k, k < w.heap.size → k ≠ g → (sortWorldK encS 2 w g 0 n d os).heap[k]? = w.heap[k]? := by
 have hs := blk_lt hg
 constructor
 · refine ⟨putCells id 0 (flatK encS 2 d) cur, ?_, by simp [putCells]⟩
   unfold sortWorldK grow putRowK putRow mapBlock Sort.ahead
   simp only []
   rw [Array.getElem?_append_left (by simpa using hs), Array.getElem?_modify, if_pos rfl, hg]
   rfl
 · intro k hk hne
   unfold sortWorldK grow putRowK putRow mapBlock Sort.ahead
   simp only []
   rw [Array.getElem?_append_left (by simpa using hk), Array.getElem?_modify, if_neg (Ne.symm hne)]
theorem holdsS {w : World} {base g cap n : Nat} {l : List Sp} {rst : List Value} (hB : Bk w base (.slice (some ⟨g, 0, none⟩) n cap) l rst) : HoldsK encS 2 w g 0 l.toArray := by
 rcases hB with ⟨h', _⟩ | ⟨g', cap', cur, h', hb, hg, hcm, hcs, hl⟩
 · cases h'
 · simp at h'
   obtain ⟨rfl, rfl, rfl⟩ := h'
   intro j hj
   rw [size_flatK] at hj
   simp at hj
   rw [get_flatK encS 2 _ j (by simpa using hj), Nat.zero_add]
   refine ⟨?_, frozen_of_row w g _ cur _ hg⟩
   rw [cell_of_row w g j cur _ (0, 0) hg, ← Array.getElem?_toList, hl, List.getElem?_append_left (by rw [flat_length]; omega)]
   have hk : j / 2 < l.length := by omega
   have e0 : l.toArray[j / 2]! = l[j / 2] := by rw [getElem!_pos _ _ (by simpa using hk)]; simp
   obtain ⟨k1, k2⟩ := flat_at l (j / 2) l[j / 2] (List.getElem?_eq_getElem hk)
   rw [e0]
   rcases Nat.mod_two_eq_zero_or_one j with hm | hm
   · have e : j / 2 * 2 = j := by omega
     rw [e] at k1
     rw [k1, hm]; rfl
   · have e : j / 2 * 2 + 1 = j := by omega
     rw [e] at k2
     rw [k2, hm]; rfl

/-- slices.SortFunc of spans, by where they begin. -/
theorem sort_any (w : World) (base : Nat) (v : Value) (l : List Sp) (rst : List Value) (hB : Bk w base v l rst) (hl : l.length ≤ 100000) :
   Calls Try.prog 69 #[v, .func (.func 70) #[] #[]] w fun e w' => ∃ d rst', e = .returned (.tuple #[]) ∧ d.Perm l ∧ d.Pairwise (fun s t => s.1 ≤ t.1) ∧ Bk w' base v d rst' ∧ ∀ w0 : World, w0.heap.size ≤ base → Ext w0 w → Ext w0 w' := by
 have hB0 := hB
 rcases hB with ⟨rfl, rfl, rfl⟩ | ⟨g, cap, cur, rfl, hb, hg, hcm, hcs, hl2⟩
 · refine (AnyF.slices_SortFunc_none Try.laysSort none 0 _ w).mono ?_
   rintro e w' ⟨rfl, rfl⟩
   exact ⟨[], [], rfl, List.Perm.refl _, List.Pairwise.nil, hB0, fun _ _ h => h⟩
 · have eg : ∀ args w, (callFunc 70 args).run Try.prog w = .ok (.enter 70 args) w := enters_of Try.func70 (by kernel_rfl) rfl
   have hH := holdsS hB0
   have hcon := AnyQ.slices_SortFunc Try.laysSort 2 Try.isAgg72 Try.sizeOf72 encS encS_len encS_one (fun x y => Lib.compareInt x.1 y.1) swo_from 70 #[] g 0 cap l.toArray w eg (cmp_lays g 0 _ w) hH (blk_lt hg) (by simp; omega)
   have es : l.toArray.size = l.length := by simp
   rw [es] at hcon
   refine hcon.mono ?_
   rintro e w' ⟨rfl, d, n, os, hp, hs, hw⟩
   have hsz : d.size = l.length := by rw [hp.1]; simp
   have hperm : d.toList.Perm l := by
     have := hp.2.2
     rw [← hsz] at this
     have e1 : d.extract 0 d.size = d := by simp
     have e2 : l.toArray.extract 0 d.size = l.toArray := by rw [hsz, ← es]; simp
     rw [e1, e2] at this
     simpa using this
   refine ⟨d.toList, ?_⟩
   obtain ⟨⟨cur', k1, k2⟩, k3⟩ := sort_heap hg n d os
   have hK := SWK.holds (w0 := w) ⟨n, os, rfl⟩ (blk_lt hg) hH (dk := d) (by simp [hsz]) (W := sortWorldK encS 2 w g 0 n d os)
   rw [← hw] at k1 k3 hK
   refine ⟨cur'.toList.drop (flat d.toList).length, rfl, hperm, ?_, .inr ⟨g, cap, cur', by simp [hsz], hb, k1, hcm, by omega, list_prefix ?_⟩, ?_⟩
   · rw [List.pairwise_iff_getElem]
     intro i j hi hj hij
     have := hs i j (Nat.zero_le _) hij (by simpa [hsz] using hj)
     rw [lt_from] at this
     simp at hi hj
     rw [getElem!_pos d i hi, getElem!_pos d j hj] at this
     simpa using this
   · intro j u hu
     obtain ⟨s, hs1, rfl⟩ := flat_get _ j u hu
     have hlt : j / 2 < d.size := by simpa using (List.getElem?_eq_some_iff.mp hs1).1
     have hd : d[j / 2]! = s := by rw [getElem!_pos d _ hlt]; rw [Array.getElem?_toList, Array.getElem?_eq_getElem hlt] at hs1; exact Option.some.inj hs1
     have hc := HoldsK.cells hK encS_len hlt (j % 2) (.int .i64 (if j % 2 = 0 then s.1 else s.2)) (by
       rw [hd]
       rcases Nat.mod_two_eq_zero_or_one j with hm | hm <;> rw [hm] <;> rfl)
     rw [Addr.add_lit] at hc
     have e : 0 + j / 2 * 2 + j % 2 = j := by omega
     rw [e, cell_of_row w' g j cur' _ (0, 0) k1] at hc
     rw [Array.getElem?_toList]; exact hc
   · intro w0 h1 h2
     have hsz2 : w.heap.size ≤ w'.heap.size := by rw [hw]; simp [sortWorldK, grow, putRowK, putRow, mapBlock, Sort.ahead]
     refine ⟨?_, ?_, ?_, Nat.le_trans h2.size hsz2, fun k hk => (k3 k (Nat.lt_of_lt_of_le hk h2.size) (by omega)).trans (h2.block k hk)⟩
     · rw [hw]; exact h2.os
     · rw [hw]; exact h2.tape
     · rw [hw]; exact h2.output

/-- slices.Clone of spans. -/
theorem clone_any (w : World) (v : Value) (l : List Sp) (h : Rd w v l) (hl : l.length ≤ 100000) :
   Calls Try.prog 68 #[v] w fun e w' => ∃ v', e = .returned v' ∧ Ow w' w.heap.size v' l ∧ Ext w w' := by
 rcases h with ⟨rfl, rfl⟩ | ⟨b, off, c, rfl, h1, h2, h3⟩
 · refine (AnyE.slices_Clone_nil Try.laysClone 0 0 w).mono ?_
   rintro e w' ⟨rfl, rfl⟩
   exact ⟨_, rfl, ⟨[], .inl ⟨rfl, rfl, rfl⟩⟩, Ext.refl _⟩
 · obtain ⟨i, hi, hz, hs, hb⟩ := info_sp
   have hR : Rd w (.slice (some ⟨b, off, none⟩) l.length c) l := .inr ⟨b, off, c, rfl, h1, h2, h3⟩
   refine (AnyE.slices_Clone Try.laysClone i _ 2 16 hi hz hs hb rfl (by decide) Try.sizeOf72 b off l.length c (flat l) w (flat_length l) (by unfold maxLen; omega) (by omega) (fun j u hu => ?_) (flat_one l)).mono ?_
   · have := hR.news.2 j u hu
     rwa [Addr.add_lit] at this
   · rintro e w' ⟨v', rfl, k1, _, k3⟩
     exact ⟨v', rfl, Ow.of k1 rfl rfl, k3⟩

open Go.RowKit
set_option maxHeartbeats 1000000

/-- What a function that makes a plain list leaves: of at most N spans, whose numbers are those that f tells. -/
def SetQ (w : World) (N : Nat) (f : Int → Bool) (e : Ending) (w' : World) : Prop :=
 ∃ v r, e = .returned v ∧ Ow w' w.heap.size v r ∧ Plain r ∧ (∀ n, hasB r n = f n) ∧ AllI r ∧ r.length ≤ N ∧ Ext w w'

/-- The rounds of Norm: r lies where d began, from its k-th span on d is there yet. -/
def NormR (w wr : World) (g cap : Nat) (d : List Sp) (k : Nat) (v : Value) : Prop :=
 ∃ r rst tl, v = .slice (some ⟨g, 0, none⟩) r.length cap ∧ Bk wr w.heap.size (.slice (some ⟨g, 0, none⟩) r.length cap) r rst ∧ r.length ≤ k ∧ rst.drop ((k - r.length) * 2) = flat (d.drop k) ++ tl ∧
   Plain r ∧ (∀ n, hasB r n = hasB (d.take k) n) ∧ (∀ t ∈ r, ∀ s ∈ d.drop k, t.1 ≤ s.1) ∧ AllI r ∧ Ext w wr
theorem NormR.cells {w wr : World} {g cap : Nat} {d : List Sp} {k : Nat} {v : Value} (h : NormR w wr g cap d k v) {s : Sp} (hs : d[k]? = some s) :
   wr.cell? ⟨g, k * 2, none⟩ = some (.int .i64 s.1) ∧ wr.cell? ⟨g, k * 2 + 1, none⟩ = some (.int .i64 s.2) ∧ g < wr.heap.size := by
 obtain ⟨r, rst, tl, rfl, hB, hk, hd, _⟩ := h
 rcases hB with ⟨h', _⟩ | ⟨g', cap', cur, h', hb, hg, hcm, hcs, hl⟩
 · cases h'
 · simp at h'
   obtain ⟨rfl, rfl⟩ := h'
   have hlt : k < d.length := (List.getElem?_eq_some_iff.mp hs).1
   have e : d.drop k = s :: d.drop (k + 1) := by
     rw [List.drop_eq_getElem_cons hlt]
     congr 1
     rw [List.getElem?_eq_getElem hlt] at hs; exact Option.some.inj hs
   rw [e] at hd
   have e0 : cur.toList.drop (k * 2) = flat (s :: d.drop (k + 1)) ++ tl := by
     rw [hl, ← hd, List.drop_append, List.drop_of_length_le (by rw [flat_length]; omega), List.nil_append, flat_length]
     congr 1; omega
   rw [cell_of_row wr g _ cur _ (0, 0) hg, cell_of_row wr g _ cur _ (0, 0) hg, ← Array.getElem?_toList, ← Array.getElem?_toList]
   have a0 : cur.toList[k * 2]? = (cur.toList.drop (k * 2))[0]? := by rw [List.getElem?_drop, Nat.add_zero]
   have a1 : cur.toList[k * 2 + 1]? = (cur.toList.drop (k * 2))[1]? := by rw [List.getElem?_drop]
   rw [a0, a1, e0]
   exact ⟨rfl, rfl, blk_lt hg⟩

theorem drop_cons {d : List Sp} {k : Nat} {s : Sp} (hs : d[k]? = some s) : d.drop k = s :: d.drop (k + 1) := by
 have hlt : k < d.length := (List.getElem?_eq_some_iff.mp hs).1
 rw [List.drop_eq_getElem_cons hlt]
 congr 1
 rw [List.getElem?_eq_getElem hlt] at hs; exact Option.some.inj hs
/-- One round. -/
theorem NormR.next {w wr : World} {g cap : Nat} {d : List Sp} {k : Nat} {r : List Sp} {rst tl : List Value} {s : Sp} (hk : r.length ≤ k) (hd : rst.drop ((k - r.length) * 2) = flat (d.drop k) ++ tl)
   (hp : Plain r) (hh : ∀ n, hasB r n = hasB (d.take k) n) (ho : ∀ t ∈ r, ∀ s ∈ d.drop k, t.1 ≤ s.1) (hA : AllI r) (hs : d[k]? = some s) (hS : d.Pairwise (fun s t => s.1 ≤ t.1)) (hI : AllI d) (e : Ending) (w' : World)
   (hq : LaidQ w wr (.slice (some ⟨g, 0, none⟩) r.length cap) r rst s e w') : ∃ v', e = .returned v' ∧ NormR w w' g cap d (k + 1) v' := by
 obtain ⟨v', rst', he, hB', hE, hroom, _⟩ := hq
 have hc := drop_cons hs
 have h2 : 2 ≤ rst.length := by
   have := congrArg List.length hd
   rw [hc] at this
   simp [flat] at this
   omega
 obtain ⟨⟨p, n1, n2, cap', e1, rfl⟩, hr⟩ := hroom h2
 simp at e1
 obtain ⟨rfl, rfl, rfl⟩ := e1
 have hn2 : n2 = (lay r s).length := by
   rcases hB' with ⟨h', _⟩ | ⟨_, _, _, h', _⟩
   · cases h'
   · simp at h'; exact h'.2.1
 subst hn2
 obtain ⟨l1, l2⟩ := lay_len r s
 obtain ⟨p1, p2, p3⟩ := lay_plain hp (fun t ht => ho t ht s (by rw [hc]; simp))
 refine ⟨_, he, lay r s, rst', tl, rfl, hB', by omega, ?_, p1, ?_, ?_, ?_, hE⟩
 · rw [hr, List.drop_drop]
   have e2 : ((lay r s).length - r.length) * 2 + (k + 1 - (lay r s).length) * 2 = (k - r.length) * 2 + 2 := by omega
   rw [e2, ← List.drop_drop, hd, hc]
   rfl
 · intro n
   rw [p2, hh, take_snoc hs, hasB_append, hasB_one]
 · intro t ht u hu
   have := p3 t ht
   have h3 : s.1 ≤ u.1 := by
     have h4 : (d.drop k).Pairwise (fun s t => s.1 ≤ t.1) := hS.sublist (List.drop_sublist k d)
     rw [hc, List.pairwise_cons] at h4
     exact h4.1 u hu
   omega
 · have := hI s (List.mem_of_getElem? hs)
   exact lay_all hA this.1 this.2

set_option maxRecDepth 100000 in
theorem norm_any (w : World) (v : Value) (l : List Sp) (h : Rd w v l) (hl : l.length ≤ 1000) (hA : AllI l) : Calls Try.prog 62 #[v] w (SetQ w l.length (hasB l)) := by
 have c1 := clone_any w v l h (by omega)
 have HA : Hid (AllI l) := hA
 have HL : Hid (l.length ≤ 1000) := hl
 clear h hl hA
 go_enter Try.func62, Try.ntmps62
 go_wp2_with fail
 refine c1.mono ?_
 rintro e w1 ⟨v1, rfl, ⟨rst1, hB1⟩, E1⟩
 have HE1 : Hid (Ext w w1) := E1
 have c2 := sort_any w1 w.heap.size v1 l rst1 hB1 (by have := HL.out; omega)
 clear c1 hB1 E1
 go_wp2_with fail
 refine c2.mono ?_
 rintro e w2 ⟨d, rst2, rfl, hp, hs, hB2, hX⟩
 have HP : Hid (d.Perm l) := hp
 have HS : Hid (d.Pairwise (fun s t => s.1 ≤ t.1)) := hs
 have HE2 : Hid (Ext w w2) := hX w (Nat.le_refl _) HE1.out
 have HB2 : Hid (Bk w2 w.heap.size v1 d rst2) := hB2
 have HD : Hid (d.length = l.length) := hp.length_eq
 clear c2 hp hs hX hB2
 rcases HB2.out with ⟨rfl, rfl, rfl⟩ | ⟨g, cap, cur, rfl, hb, hg, hcm, hcs, hl2⟩
 · go_wp2
   refine wp_loop_rounds 1 ?_
   rw [rounds_succ]
   go_wp2
   go_ret
   have hn : l = [] := List.eq_nil_of_length_eq_zero (by have := HD.out; simp at this; omega)
   subst hn
   exact ⟨_, [], rfl, ⟨[], HB2.out⟩, plain_nil, fun _ => rfl, HA.out, Nat.le_refl _, HE2.out⟩
 · have HR : Hid (NormR w w2 g cap d 0 (.slice (some ⟨g, 0, none⟩) 0 cap)) := by
     refine ⟨[], flat d ++ rst2, rst2, rfl, .inr ⟨g, cap, cur, rfl, hb, hg, hcm, hcs, by rw [hl2]; rfl⟩, Nat.le_refl _, rfl, plain_nil, fun _ => rfl, by simp, by intro s hs; simp at hs, HE2.out⟩
   clear hb hg hcm hcs hl2
   go_wp2
   go_loopw [15, 4] (fun x v wr => ∃ k : Nat, x = .int .i64 (k : Int) ∧ k ≤ d.length ∧ NormR w wr g cap d k v) (fun x _ _ => d.length - (intOf x).toNat)
   case atStart => exact ⟨0, rfl, Nat.zero_le _, HR.out⟩
   case round =>
     obtain ⟨k, rfl, hk, hr⟩ := hrel
     have HN : Hid (NormR w wr g cap d k u4) := hr
     clear hr HR
     rcases Nat.lt_or_ge k d.length with hlt | hge
     · have hltI : (k : Int) < (d.length : Int) := by omega
       obtain ⟨s, hs⟩ : ∃ s, d[k]? = some s := ⟨_, List.getElem?_eq_getElem hlt⟩
       have HSS : Hid (d[k]? = some s) := hs
       obtain ⟨c1, c2, _⟩ := HN.out.cells hs
       clear hs
       obtain ⟨s1, s2⟩ := s
       go_wp2_with fail
       obtain ⟨r, rst, tl, rfl, h1, h2, h3, h4, h5, h6, h7, h8⟩ := HN.out
       have hB := h1.ext ((Ext.refl wr).alloc (.cells #[.int .i64 s1, .int .i64 s2] 72))
       refine (laid_any w _ _ r rst s1 s2 hB (h8.alloc _) (by have := HL.out; have := HD.out; omega)).mono ?_
       intro e w' hq
       obtain ⟨v', rfl, hN⟩ := NormR.next h2 h3 h4 h5 h6 h7 HSS.out HS.out (fun s hs => HA.out s (HP.out.mem_iff.mp hs)) e w' hq
       have HN' : Hid (NormR w w' g cap d (k + 1) v') := hN
       have wk := wrap_succ k (by have := HL.out; have := HD.out; omega)
       clear hN hq hB h1 h2 h3 h4 h5 h6 h7 h8 HN
       go_wp2
       go_roundw
       case rel => exact ⟨k + 1, by rw [wk], hlt, HN'.out⟩
       case measure => rw [wk]; simp [intOf]; omega
     · have hltI : ¬ (k : Int) < (d.length : Int) := by omega
       obtain ⟨r, rst, tl, rfl, h1, h2, h3, h4, h5, h6, h7, h8⟩ := HN.out
       have HQ : Hid (SetQ w l.length (hasB l) (.returned (.slice (some ⟨g, 0, none⟩) r.length cap)) wr) :=
         ⟨_, r, rfl, ⟨rst, h1⟩, h4, fun n => by rw [h5, List.take_of_length_le hge]; exact hasB_perm HP.out n, h7, by have := HD.out; omega, h8⟩
       clear h1 h2 h3 h4 h5 h6 h7 h8
       go_wp2
       go_ret
       exact HQ.out

open Go.RowKit
set_option maxHeartbeats 1000000

theorem eltS : Elt 84 72 2 16 := elt_of (z := .agg #[.int .i64 0, .int .i64 0]) Try.underlying84 (by kernel_rfl) (by kernel_rfl) (by kernel_rfl) rfl (by decide)
theorem rd_oneS {W V : World} {x1 x2 : Int} {b : Nat} (hb : W.heap.size = b) (e : Ext (W.alloc (.cells #[.int .i64 x1, .int .i64 x2] 72)) V) : RdP V (.slice (some ⟨b, 0, none⟩) 1 1) [(x1, x2)] :=
 RdG.one (by rw [← hb]; exact Ext.top e) (fun j u h => by
   have hj : j < 2 := (List.getElem?_eq_some_iff.1 h).1
   match j, hj with
   | 0, _ => exact h
   | 1, _ => exact h)
theorem own_rdS {W : World} {base : Nat} {v : Value} {l : List Sp} (h : W.ownsRow base 72 2 v l.length (l.flatMap cP)) : Rd W v l := by
 rcases h.2 with ⟨rfl, h0⟩ | ⟨g, cap, cur, rfl, h2, h3, h4, h5⟩
 · exact .inl ⟨rfl, List.eq_nil_of_length_eq_zero h0⟩
 · refine .inr ⟨g, 0, cap, rfl, h4, heap_lt h3, fun i s hs => ?_⟩
   obtain ⟨b, off, e, _, k1, k2⟩ := RdP.cell (own_rdG cP_len h rfl) hs
   simp at e
   obtain ⟨rfl, rfl⟩ := e
   exact ⟨k1, k2⟩
def rowI (c : Int) (x : Rc) : Bool := decide (x.q ≤ c) && decide (c ≤ x.v)
theorem rows_snoc {l : List Rc} {k : Nat} {s : Rc} (hs : l[k]? = some s) (c : Int) : rowsOf (l.take (k + 1)) c = rowsOf (l.take k) c ++ (if rowI c s then [(s.p, s.u + 1)] else []) := by
 unfold rowsOf
 rw [take_at hs, List.filter_append, List.map_append]
 congr 1
 unfold rowI
 cases h : (decide (s.q ≤ c) && decide (c ≤ s.v)) <;> simp [h]
theorem rows_len (l : List Rc) (c : Int) : (rowsOf l c).length ≤ l.length := by unfold rowsOf; rw [List.length_map]; exact List.length_filter_le _ _
theorem rows_all {l : List Rc} (hc : ∀ x ∈ l, x.can = true) (c : Int) : AllI (rowsOf l c) := by
 intro s hs
 unfold rowsOf at hs
 obtain ⟨x, hx, rfl⟩ := List.mem_map.1 hs
 have := can_bd (hc x (List.mem_filter.1 hx).1)
 unfold I64
 simp
 omega
/-- What rowsIn leaves. -/
def RowQ (w : World) (l : List Rc) (c : Int) (e : Ending) (w' : World) : Prop := ∃ v', e = .returned v' ∧ w'.ownsRow w.heap.size 72 2 v' (nrm (rowsOf l c)).length ((nrm (rowsOf l c)).flatMap cP) ∧ Ext w w'
theorem flat_cP (l : List Sp) : flat l = l.flatMap cP := by
 induction l with
 | nil => rfl
 | cons s l ih => rw [flat, ih, List.flatMap_cons]; rfl
theorem rk1 {l : List Rc} {k : Nat} {c : Int} (h : l.length ≤ 1000) : (rowsOf (l.take k) c).length + 1 ≤ 1000000 := by
 have := rows_len (l.take k) c
 simp at this
 omega
set_option maxRecDepth 100000 in
theorem rows_any (w : World) (v : Value) (l : List Rc) (c : Int) (h : RdR w v l) (hl : l.length ≤ 1000) (hc : ∀ x ∈ l, x.can = true) :
   Calls Try.prog 48 #[v, .int .i64 c] w (RowQ w l c) := by
 obtain ⟨p, cp, rfl, _⟩ := h.form
 have HR : Hid (RdR w (.slice p l.length cp) l) := h
 have HL : Hid (l.length ≤ 1000) := hl
 have HC : Hid (∀ x ∈ l, x.can = true) := hc
 clear h hl hc
 go_enter Try.func48, Try.ntmps48
 go_wp2_with fail
 go_loopw [5, 10] (fun vo x wr => ∃ k : Nat, x = .int .i64 (k : Int) ∧ k ≤ l.length ∧ Ext w wr ∧ wr.ownsRow w.heap.size 72 2 vo (rowsOf (l.take k) c).length ((rowsOf (l.take k) c).flatMap cP)) (fun _ x _ => l.length - (intOf x).toNat)
 case atStart => exact ⟨0, rfl, Nat.zero_le _, Ext.refl _, by simpa [rowsOf] using own_nil w _ _ 2⟩
 case round =>
   obtain ⟨k, rfl, hk, hE, hO⟩ := hrel
   have HE : Hid (Ext w wr) := hE
   have HO : Hid (wr.ownsRow w.heap.size 72 2 u5 (rowsOf (l.take k) c).length ((rowsOf (l.take k) c).flatMap cP)) := hO
   clear hE hO
   rcases Nat.lt_or_ge k l.length with hlt | hge
   · have hltI : (k : Int) < (l.length : Int) := by omega
     obtain ⟨s, hs⟩ : ∃ s, l[k]? = some s := ⟨_, List.getElem?_eq_getElem hlt⟩
     obtain ⟨b, off, rfl, _, c1, c2, c3, c4⟩ := Rd4.cell (HR.out.ext HE.out) hs rfl
     have wk := wrapI k (by have := HL.out; omega)
     have HS : Hid (l[k]? = some s) := hs
     have hcan := can_bd (HC.out s (List.mem_of_getElem? hs))
     have wu : wrap64 (s.u + 1) = s.u + 1 := by unfold wrap64; omega
     have HI : Hid (rowI c s = (decide (s.q ≤ c) && decide (c ≤ s.v))) := rfl
     clear hs hcan
     have no : ∀ w2, Ext wr w2 → rowI c s = false → w2.ownsRow w.heap.size 72 2 u5 (rowsOf (l.take (k + 1)) c).length ((rowsOf (l.take (k + 1)) c).flatMap cP) := fun w2 e2 hn => by
       rw [rows_snoc HS.out, hn]
       simpa using ownsRow_ext HO.out e2
     have NO : Hid (∀ w2, Ext wr w2 → rowI c s = false → w2.ownsRow w.heap.size 72 2 u5 (rowsOf (l.take (k + 1)) c).length ((rowsOf (l.take (k + 1)) c).flatMap cP)) := no
     clear no
     by_cases h1 : s.q ≤ c
     · by_cases h2 : c ≤ s.v
       · go_wp2_with (at_builtin; refine app_g eltS cP_len cP_one (by decide) _ w _ _ _ _ (rowsOf (l.take k) c).length 1 (rowsOf (l.take k) c) [(s.p, s.u + 1)] w.heap.size rfl rfl (by rfl) (by rfl) (ownsRow_ext HO.out (((Ext.refl _).alloc _).alloc _)) rfl (rd_oneS (by simp) (Ext.refl _)) (rk1 HL.out) ((HE.out.alloc _).alloc _) (Nat.le_refl _) ((HE.out.alloc _).alloc _).size ?_; intro v9 w9 O9 E9 _ _; have H9 : Hid (Ext w w9 ∧ w9.ownsRow w.heap.size 72 2 v9 (rowsOf (l.take (k + 1)) c).length ((rowsOf (l.take (k + 1)) c).flatMap cP)) := ⟨E9, by rw [rows_snoc HS.out, HI.out]; simpa [h1, h2] using O9⟩; clear O9 E9)
         go_roundw
         case rel => exact ⟨k + 1, by rw [wk], hlt, H9.out.1, H9.out.2⟩
         case measure => rw [wk]; simp [intOf]; omega
       · have HF : Hid (rowI c s = false) := by show rowI c s = false; rw [HI.out]; simp [h2]
         go_wp2_with fail
         go_roundw
         case rel => exact ⟨k + 1, by rw [wk], hlt, HE.out.alloc _, NO.out _ ((Ext.refl _).alloc _) HF.out⟩
         case measure => rw [wk]; simp [intOf]; omega
     · have HF : Hid (rowI c s = false) := by show rowI c s = false; rw [HI.out]; simp [h1]
       go_wp2_with fail
       go_roundw
       case rel => exact ⟨k + 1, by rw [wk], hlt, HE.out.alloc _, NO.out _ ((Ext.refl _).alloc _) HF.out⟩
       case measure => rw [wk]; simp [intOf]; omega
   · have hltI : ¬ (k : Int) < (l.length : Int) := by omega
     have hO := HO.out
     rw [List.take_of_length_le hge] at hO
     have cN := norm_any wr u5 (rowsOf l c) (own_rdS hO) (by have := rows_len l c; have := HL.out; omega) (rows_all HC.out c)
     clear hO
     go_wp2_with fail
     refine cN.mono ?_
     rintro e w2 ⟨v2, r, rfl, h3, h4, h5, _, _, E2⟩
     have hr : nrm (rowsOf l c) = r := nrm_is h4 h5
     have HQ : Hid (RowQ w l c (.returned v2) w2) := by
       refine ⟨v2, rfl, ?_⟩
       rw [hr]
       obtain ⟨rst, hB⟩ := h3
       have ho := hB.owns
       rw [flat_cP] at ho
       exact ⟨ownsRow_mono ho HE.out.size, HE.out.trans E2⟩
     clear cN h3 h4 h5 E2 hr
     go_wp2_with fail
     go_ret
     exact HQ.out

open Go.RowKit
set_option maxHeartbeats 1000000

theorem Cols.dk {W : World} {base b : Nat} {g : Option Nat} {vs : List Value} {f : Nat → List Nd} (h : Cols W base b g vs f) : dkO W.heap[b]? = true := by
 obtain ⟨cur, h1, _⟩ := h.blk
 rw [h1]
 rfl
/-- It has a map now. -/
theorem Cols.remap {W : World} {base b : Nat} {g : Option Nat} {vs : List Value} {f : Nat → List Nd} (h : Cols W base b g vs f) (g' : Nat) : Cols (W.setCell ⟨b, 0, none⟩ (.map (some g'))) base b (some g') vs f := by
 obtain ⟨cur, h1, h2⟩ := h.blk
 refine ⟨⟨_, Lib.heap_setCell_same h1 _, ?_⟩, h.len, h.bb, fun c v hv => own_keep (h.row c v hv) (fun q hq _ => ?_), h.sep⟩
 · rw [Array.toList_setIfInBounds, h2]; rfl
 · exact heap_setCell_other W ⟨b, 0, none⟩ q _ (fun e => h.ne hv (by rw [hq, e]))
/-- Columns below k are through, of column k the first i spans. -/
noncomputable def lnF (σ : Sg) (a : Pl) (l : List Rc) (k i : Nat) (c : Nat) : List Nd := if c < k then colS (σ ++ [(a, l)]) (c : Int) else if c = k then colS σ (c : Int) ++ ((nrm (rowsOf l (k : Int))).take i).map (ndOf a) else colS σ (c : Int)
structure LnS (w9 : World) (base b : Nat) (g : Option Nat) (σ : Sg) (a : Pl) (l : List Rc) (k i : Nat) (vs : List Value) (wr : World) : Prop where
 co : Cols wr base b g vs (lnF σ a l k i)
 e : ExtC base w9 wr
 kl : k ≤ 53
theorem LnS.ext {w9 wr w1 : World} {base b k i : Nat} {g : Option Nat} {σ : Sg} {a : Pl} {l : List Rc} {vs : List Value} (h : LnS w9 base b g σ a l k i vs wr) (e : Ext wr w1) : LnS w9 base b g σ a l k i vs w1 := ⟨h.co.ext e, h.e.trans e.toF, h.kl⟩
theorem lnF_k (σ : Sg) (a : Pl) (l : List Rc) (k i : Nat) : lnF σ a l k i k = colS σ (k : Int) ++ ((nrm (rowsOf l (k : Int))).take i).map (ndOf a) := by unfold lnF; rw [if_neg (by omega), if_pos rfl]
theorem LnS.step {w9 wr w1 w2 : World} {base b k i nv : Nat} {g : Option Nat} {σ : Sg} {a : Pl} {l : List Rc} {vs : List Value} {v v2 : Value} {s1 s2 : Int} (h : LnS w9 base b g σ a l k i vs wr) (hv : vs[k]? = some v) (hs : (nrm (rowsOf l (k : Int)))[i]? = some (s1, s2)) (e1 : Ext wr w1) (hnv : nv = (lnF σ a l k i k).length)
   (ho : w2.ownsRow base 74 4 v2 (nv + 1) ((lnF σ a l k i k ++ ([⟨s1, s2, a.1, a.2⟩] : List Nd)).flatMap cN)) (hg : w1.grownBy w2 v.ownBlock) (hn : v2.ownBlock = v.ownBlock ∨ v2.ownBlock = some w1.heap.size) :
   (w2.cell? ⟨b, 1 + k, none⟩ = some v ∧ w2.frozen? ⟨b, 1 + k, none⟩ = false) ∧ LnS w9 base b g σ a l k (i + 1) (vs.set k v2) (w2.setCell ⟨b, 1 + k, none⟩ v2) ∧ ExtC base wr (w2.setCell ⟨b, 1 + k, none⟩ v2) := by
 have h' := h.ext e1
 have hl : lnF σ a l k i k ++ [(⟨s1, s2, a.1, a.2⟩ : Nd)] = lnF σ a l k (i + 1) k := by
   rw [lnF_k, lnF_k, take_at hs, List.map_append, List.append_assoc]
   rfl
 have ho' : w2.ownsRow base 74 4 v2 (lnF σ a l k (i + 1) k).length ((lnF σ a l k (i + 1) k).flatMap cN) := by
   rw [← hl]
   have : (lnF σ a l k i k ++ [(⟨s1, s2, a.1, a.2⟩ : Nd)]).length = nv + 1 := by simp [hnv]
   rw [this]
   exact ho
 obtain ⟨c1, c2⟩ := h'.co.upd hv hg ho' (hn.imp id (fun e => ⟨_, e, Nat.le_refl _⟩))
 have hb := (hg.block b h'.co.lt (fun e => h'.co.ne hv e.symm))
 refine ⟨⟨(cells_heap hb _).1.trans (h'.co.cell hv), (cells_heap hb _).2.trans (h'.co.fz _)⟩, ⟨c1.congr (fun c _ => ?_), h'.e.trans c2, h.kl⟩, e1.toF.trans c2⟩
 by_cases hc : c = k
 · subst hc; simp
 · rw [if_neg hc]
   unfold lnF
   by_cases hlt : c < k
   · rw [if_pos hlt, if_pos hlt]
   · rw [if_neg hlt, if_neg hlt, if_neg hc, if_neg hc]
theorem LnS.next {w9 wr : World} {base b k i : Nat} {g : Option Nat} {σ : Sg} {a : Pl} {l : List Rc} {vs : List Value} (h : LnS w9 base b g σ a l k i vs wr) (hk : k < 53) (hi : i = (nrm (rowsOf l (k : Int))).length) : LnS w9 base b g σ a l (k + 1) 0 vs wr := by
 refine ⟨h.co.congr (fun c _ => ?_), h.e, hk⟩
 unfold lnF
 by_cases hlt : c < k
 · rw [if_pos (by omega), if_pos hlt]
 · by_cases hc : c = k
   · subst hc
     rw [if_pos (by omega), if_neg (by omega), if_pos rfl, col_add, hi, List.take_length]
   · rw [if_neg (by omega), if_neg hlt, if_neg hc]
     by_cases hc2 : c = k + 1
     · rw [if_pos hc2]; simp
     · rw [if_neg hc2]
theorem nd_cells (s1 s2 a1 a2 : Int) : ∀ (j : Nat) (u : Value), (cN ⟨s1, s2, a1, a2⟩)[j]? = some u → (#[.int .i64 s1, .int .i64 s2, .int .i64 a1, .int .i64 a2] : Array Value)[j]? = some u := fun j u h => by
 have hj : j < 4 := (List.getElem?_eq_some_iff.1 h).1
 match j, hj with
 | 0, _ => exact h
 | 1, _ => exact h
 | 2, _ => exact h
 | 3, _ => exact h
theorem eqm1 (g : Nat) (W : World) : (binOp .eql 54 (.map (some g)) (.map none)).run Try.prog W = .ok (.bool false) W := by
 have h := Try.underlying54
 obtain ⟨d, hd⟩ : ∃ d, Op.maxDepth = d + 1 := ⟨_, rfl⟩
 simp only [binOp, Op.equal, hd]
 simp [Op.equalIn, go_sem, run_underlying h]
theorem eqm0 (W : World) : (binOp .eql 54 (.map none) (.map none)).run Try.prog W = .ok (.bool true) W := by
 have h := Try.underlying54
 obtain ⟨d, hd⟩ : ∃ d, Op.maxDepth = d + 1 := ⟨_, rfl⟩
 simp only [binOp, Op.equal, hd]
 simp [Op.equalIn, go_sem, run_underlying h]
/-- What learn leaves. -/
def LnQ (W : World) (base b n : Nat) (σ : Sg) (a : Pl) (l : List Rc) (e : Ending) (w' : World) : Prop := e = .returned (.tuple #[]) ∧ (∃ g' vs', Dps w' base b g' (n + 1) vs' (σ ++ [(a, l)])) ∧ ExtD base W w'
theorem MapS.more {W : World} {base n m : Nat} {g : Option Nat} {M : Pl → List Rc} (h : MapS W base n g M) (e : n ≤ m) : MapS W base m g M := by
 cases g with
 | none => exact h
 | some g =>
   obtain ⟨h0, D, h1, h2⟩ := h
   exact ⟨h0, D, h1.mono e, h2⟩
theorem few_add {σ : Sg} (h : ∀ e ∈ σ, e.2.length ≤ 20) (a : Pl) {l : List Rc} (hl : l.length ≤ 20) : ∀ e ∈ σ ++ [(a, l)], e.2.length ≤ 20 := by
 intro e he
 rcases List.mem_append.1 he with he | he
 · exact h e he
 · simp at he; subst he; exact hl
theorem learn0 (W : World) (base b n : Nat) (g : Option Nat) (vs : List Value) (σ : Sg) (a1 a2 : Int) (p : Option Addr) (cp : Nat) (h : Dps W base b g n vs σ) (hi : pin (a1, a2) = true) (ha : ∀ e ∈ σ, e.1 ≠ (a1, a2)) :
   Calls Try.prog 37 #[.pointer (some ⟨b, 0, none⟩), .agg #[.int .i64 a1, .int .i64 a2], .slice p 0 cp] W (LnQ W base b n σ (a1, a2) []) := by
 have HQ : Hid (∀ w', Ext W w' → LnQ W base b n σ (a1, a2) [] (.returned (.tuple #[])) w') := fun w' e => by
   have h' := h.ext e
   refine ⟨rfl, ⟨g, vs, h'.cols.congr (fun c _ => ?_), (h'.map.congr (fun x => ?_)).more (Nat.le_succ _), sg_add h.ok ha hi (by simp), few_add h.few _ (by simp), by simp; exact h.n⟩, e.toF⟩
   · rw [col_add, show rowsOf [] (c : Int) = [] from rfl, nrm_nil]; simp
   · rw [need_add ha]
     by_cases hx : x = (a1, a2)
     · rw [if_pos hx, hx, need_none ha]
     · rw [if_neg hx]
 clear h hi ha
 go_enter Try.func37, Try.ntmps37
 go_wp2_with fail
 refine bodyPost_ret (v := .tuple #[]) (by simp [results, Try.results37, go_sem]) rfl ?_
 exact HQ.out _ ((Ext.refl _).alloc _)
set_option maxRecDepth 100000 in
theorem learnS (W : World) (base b n g : Nat) (vs : List Value) (σ : Sg) (a1 a2 : Int) (p : Option Addr) (ln cp : Nat) (l : List Rc) (hb : base ≤ W.heap.size) (h : Dps W base b (some g) n vs σ) (hn : n ≤ 1000) (hi : pin (a1, a2) = true) (ha : ∀ e ∈ σ, e.1 ≠ (a1, a2)) (hv : W.ownsRow base 32 4 (.slice p ln cp) l.length (l.flatMap cR)) (hln : ln = l.length) (hl : l.length ≤ 20) (hc : ∀ x ∈ l, x.can = true) (hne : l ≠ []) :
   Calls Try.prog 37 #[.pointer (some ⟨b, 0, none⟩), .agg #[.int .i64 a1, .int .i64 a2], .slice p ln cp] W (LnQ W base b n σ (a1, a2) l) := by
 obtain ⟨i1, i2⟩ := pin_i hi
 have z0 : ((ln : Int) == 0) = false := beq_eq_false_iff_ne.2 (by
   intro e
   apply hne
   exact List.eq_nil_of_length_eq_zero (by omega))
 have H : Hid (Dps W base b (some g) n vs σ ∧ (I64 a1 ∧ I64 a2) ∧ base ≤ W.heap.size ∧ n ≤ 1000 ∧ W.ownsRow base 32 4 (.slice p ln cp) l.length (l.flatMap cR) ∧ l.length ≤ 20 ∧ (∀ x ∈ l, x.can = true) ∧ (∀ e ∈ σ, e.1 ≠ (a1, a2)) ∧ pin (a1, a2) = true) := ⟨h, ⟨i1, i2⟩, hb, hn, hv, hl, hc, ha, hi⟩
 have E2 : Ext W (W.alloc (.cells #[.int .i64 a1, .int .i64 a2] 24)) := (Ext.refl _).alloc _
 have hbox : (W.alloc (.cells #[.int .i64 a1, .int .i64 a2] 24)).heap[W.heap.size]? = some (.cells #[.int .i64 a1, .int .i64 a2] 24) := top_heap W _
 have bc := (h.ext E2).cols.cell0
 have bf := (h.ext E2).cols.fz 0
 have qm := eqm1 g
 have HB0 : Hid _ := hbox
 clear h hi ha hv hl hc hne hln i1 i2 hb hn hbox E2
 go_enter Try.func37, Try.ntmps37
 go_upto_region 4 with fail
 clear bc bf qm
 obtain ⟨wq, hwq⟩ : ∃ wq, wq = W.alloc (.cells #[.int .i64 a1, .int .i64 a2] 24) := ⟨_, rfl⟩
 rw [← hwq]
 obtain ⟨hD, ⟨iR, iC⟩, hb, hn, hv, hl, hc, ha, hi⟩ := H.out
 have E2 : Ext W wq := by rw [hwq]; exact (Ext.refl _).alloc _
 have hq := hD.ext E2
 obtain ⟨hbg, D, own, rel⟩ : base ≤ g ∧ ∃ D, wq.ownsMap Try.prog 24 hR g n D ∧ RelN wq base D (needS σ) := hq.map
 have hcq := hq.cols
 have eqD : ExtD base W wq := E2.toF
 have hbox : wq.heap[W.heap.size]? = some (.cells #[.int .i64 a1, .int .i64 a2] 24) := by rw [hwq]; exact HB0.out
 have hgm := (map_block hq.map).2
 have hOR : OwR wq base (.slice p ln cp) l := ownsRow_ext hv E2
 clear hq E2 hwq hD
 obtain ⟨es, cl, hgm⟩ := hgm
 obtain ⟨w9, hrun, own9, turn⟩ := World.ownsMap.store (w := wq.drew) (n := n) own kLaw Try.underlying54 (by unfold maxLen; omega) (val := .slice p ln cp) (d := .held (.slice p ln cp)) (ps := []) (key_mk a1 a2 iR iC) rfl
 have HR2 : Hid ((Instr.mapUpdate 54 (.map (some g)) (.agg #[.int .i64 a1, .int .i64 a2]) (.slice p ln cp)).run Try.prog wq.drew = .ok () w9) := hrun
 have tg : wq.grownBy w9 (some g) := grown_drew turn.grown
 have eD : ExtD base wq w9 := ExtF.grown tg (fun q hq => by cases hq; exact ⟨hbg, by rw [hgm]; rfl⟩)
 have hbox9 : w9.heap[W.heap.size]? = some (.cells #[.int .i64 a1, .int .i64 a2] 24) := (tg.block _ (heap_lt hbox) (fun e => by cases e; rw [hbox] at hgm; cases hgm)).trans hbox
 have hc9 : Cols w9 base b (some g) vs (fun c => colS σ (c : Int)) := hcq.turn tg (by rw [hgm]; rfl)
 have hO9 : OwR w9 base (.slice p ln cp) l := own_dep hOR eD (fun _ => rfl)
 have hm9 : MapS w9 base (n + 1) (some g) (needS (σ ++ [((a1, a2), l)])) := ⟨hbg, _, own9, by
   have := (rel.keep eD (fun _ => rfl)).put own.isMap a1 a2 iR iC (.slice p ln cp) l hO9
   have e : putM (needS σ) (a1, a2) l = needS (σ ++ [((a1, a2), l)]) := by funext x; rw [need_add ha]; rfl
   rw [← e]; exact this⟩
 have H9 : Hid (Cols w9 base b (some g) vs (fun c => colS σ (c : Int)) ∧ MapS w9 base (n + 1) (some g) (needS (σ ++ [((a1, a2), l)])) ∧ ExtD base W w9 ∧ w9.heap[W.heap.size]? = some (.cells #[.int .i64 a1, .int .i64 a2] 24) ∧ OwR w9 base (.slice p ln cp) l ∧ base ≤ w9.heap.size) :=
   ⟨hc9, hm9, eqD.trans eD, hbox9, hO9, Nat.le_trans hb (eqD.trans eD).size⟩
 have HB : Hid (w9.cell? ⟨b, 0, none⟩ = some (.map (some g)) ∧ w9.cell? ⟨W.heap.size, 0, none⟩ = some (.int .i64 a1) ∧ w9.cell? ⟨W.heap.size, 1, none⟩ = some (.int .i64 a2)) := ⟨hc9.cell0, (cell_of_row w9 _ 0 _ _ _ hbox9).trans rfl, (cell_of_row w9 _ 1 _ _ _ hbox9).trans rfl⟩
 have HA : Hid (wq.drew.cell? ⟨b, 0, none⟩ = some (.map (some g)) ∧ wq.drew.cell? ⟨W.heap.size, 0, none⟩ = some (.int .i64 a1) ∧ wq.drew.cell? ⟨W.heap.size, 1, none⟩ = some (.int .i64 a2)) := ⟨hcq.cell0, (cell_of_row wq.drew _ 0 _ _ _ hbox).trans rfl, (cell_of_row wq.drew _ 1 _ _ _ hbox).trans rfl⟩
 clear hrun own own9 turn tg hgm hbox hbox9 hc9 hm9 hcq eD eqD rel iR iC hb hn hbg hv hl hc ha hi hOR hO9
 obtain ⟨A, hA⟩ : ∃ A, W.heap.size = A := ⟨_, rfl⟩
 rw [hA] at HA HB H9 ⊢
 clear hA HB0
 refine wp_region_held_drew (S := (fun V => V.cell? ⟨b, 0, none⟩ = some (.map (some g)) ∧ V.cell? ⟨A, 0, none⟩ = some (.int .i64 a1) ∧ V.cell? ⟨A, 1, none⟩ = some (.int .i64 a2))) (by kernel_rfl) ?_ (fun hHeld0 => ?_)
 · (first | exact HA.out | exact HB.out)
 refine wpAnyH_take (i := 0) (oi := ⟨some 21, .move (.tmp 0), 25, "deps.go:103", #[], none⟩) (v := ?_) rfl (by kernel_rfl) (by kernel_rfl) (by kernel_rfl) (fun _ _ _ h => h) (Or.inl ⟨by rfl, ?_⟩) (by assumption) ?_
 rotate_left
 · intro w hSw; (try dsimp only at hSw); first | (go_simp; done) | (go_simp; with_reducible rfl)
 try go_frame
 refine wpAnyH_take (i := 1) (oi := ⟨some 22, .nilCheck (.tmp 21), 0, "deps.go:103", #[⟨0, .data⟩], none⟩) (v := ?_) rfl (by kernel_rfl) (by kernel_rfl) (by kernel_rfl) (fun _ _ _ h => h) (Or.inl ⟨by rfl, ?_⟩) (by assumption) ?_
 rotate_left
 · intro w hSw; (try dsimp only at hSw); first | (go_simp; done) | (go_simp; with_reducible rfl)
 try go_frame
 refine wpAnyH_take (i := 2) (oi := ⟨some 23, .fieldAddr 58 (.tmp 22) 0, 0, "deps.go:103", #[⟨1, .data⟩], none⟩) (v := ?_) rfl (by kernel_rfl) (by kernel_rfl) (by kernel_rfl) (fun _ _ _ h => h) (Or.inl ⟨by rfl, ?_⟩) (by assumption) ?_
 rotate_left
 · intro w hSw; (try dsimp only at hSw); first | (go_simp; done) | (go_simp; with_reducible rfl)
 try go_frame
 refine wpAnyH_take (i := 3) (oi := ⟨some 24, .load 54 (.tmp 23), 54, "deps.go:103", #[⟨2, .data⟩], none⟩) (v := ?_) rfl (by kernel_rfl) (by kernel_rfl) (by kernel_rfl) (fun _ _ _ h => h) (Or.inl ⟨by rfl, ?_⟩) (by assumption) ?_
 rotate_left
 · intro w hSw; (try dsimp only at hSw); first | (go_simp; done) | (go_simp; with_reducible rfl)
 try go_frame
 refine wpAnyH_take (i := 4) (oi := ⟨some 25, .load 24 (.tmp 4), 24, "deps.go:103", #[], none⟩) (v := ?_) rfl (by kernel_rfl) (by kernel_rfl) (by kernel_rfl) (fun _ _ _ h => h) (Or.inl ⟨by rfl, ?_⟩) (by assumption) ?_
 rotate_left
 · intro w hSw; (try dsimp only at hSw); first | (go_simp; done) | (go_simp; with_reducible rfl)
 try go_frame
 refine wpAnyH_take (i := 5) (oi := ⟨some 26, .move (.tmp 2), 29, "deps.go:103", #[], none⟩) (v := ?_) rfl (by kernel_rfl) (by kernel_rfl) (by kernel_rfl) (fun _ _ _ h => h) (Or.inl ⟨by rfl, ?_⟩) (by assumption) ?_
 rotate_left
 · intro w hSw; (try dsimp only at hSw); first | (go_simp; done) | (go_simp; with_reducible rfl)
 try go_frame
 refine wpAnyH_ready (rs := [6]) (by kernel_rfl) (by simp) ?_
 refine AllReadyH.cons (o := ⟨none, .mapUpdate 54 (.tmp 24) (.tmp 25) (.tmp 26), 0, "deps.go:103", #[⟨3, .data⟩, ⟨4, .data⟩, ⟨5, .data⟩, ⟨0, .phase⟩, ⟨1, .phase⟩, ⟨2, .phase⟩, ⟨3, .phase⟩, ⟨4, .phase⟩, ⟨5, .phase⟩], none⟩) rfl (fun K hK => ?_) AllReadyH.nil
 refine step_update rfl _ _ _ _ rfl _ _ _ rfl rfl rfl _ HR2.out ?_
 refine hK.out _ _ ?_ (fun hHeld1 => ?_)
 · (try dsimp only); (first | exact HA.out | exact HB.out)
 clear hK K hHeld0
 try go_frame
 refine wpAnyH_done (by kernel_rfl) ?_ _
 clear HA HB HR2
 go_wp2_with fail
 have HS0 : Hid (LnS w9 base b (some g) σ (a1, a2) l 0 0 vs w9) := ⟨H9.out.1.congr (fun c _ => by unfold lnF; simp), ExtF.refl _, by omega⟩
 have HL : Hid (l.length = ln ∧ l.length ≤ 20) := ⟨by have := own_form H.out.2.2.2.2.1; obtain ⟨_, _, e, _⟩ := this; cases e; rfl, H.out.2.2.2.2.2.1⟩
 go_loopw [27] (fun x wr => ∃ (k : Nat) (vs' : List Value), x = .int .i64 (k : Int) ∧ LnS w9 base b (some g) σ (a1, a2) l k 0 vs' wr) (fun x _ => 53 - (intOf x).toNat)
 case atStart => exact ⟨0, vs, rfl, HS0.out⟩
 case round =>
   clear HS0 z0
   obtain ⟨k, vs', rfl, hS⟩ := hrel
   have HS : Hid (LnS w9 base b (some g) σ (a1, a2) l k 0 vs' wr) := hS
   have hkl := hS.kl
   clear hS
   rcases Nat.lt_or_ge k 53 with hlt | hge
   · have hltI : (k : Int) < 53 := by omega
     have cR := rows_any wr (.slice p ln cp) l (k : Int) (own_rdG cR_len (own_dep H9.out.2.2.2.2.1 HS.out.e (fun _ => rfl)) rfl) (by have := HL.out.2; omega) H.out.2.2.2.2.2.2.1
     go_wp2_with fail
     refine cR.mono ?_
     rintro e w2 ⟨v2, rfl, O2, E2⟩
     obtain ⟨p2, c2, rfl, _⟩ := own_form O2
     obtain ⟨R, hR⟩ : ∃ R, nrm (rowsOf l (k : Int)) = R := ⟨_, rfl⟩
     rw [hR] at O2
     obtain ⟨rn, hrn⟩ : ∃ rn, R.length = rn := ⟨_, rfl⟩
     have HR : Hid (nrm (rowsOf l (k : Int)) = R ∧ R.length = rn ∧ rn ≤ 20 ∧ w2.ownsRow wr.heap.size 72 2 (.slice p2 rn c2) rn (R.flatMap cP)) := ⟨hR, hrn, by have := (niceL l (k : Int)).2.2; have := HL.out.2; rw [hR] at *; omega, by rw [← hrn]; exact O2⟩
     have HS1 : Hid (LnS w9 base b (some g) σ (a1, a2) l k 0 vs' w2) := HS.out.ext E2
     rw [show (nrm (rowsOf l (k : Int))).length = rn by rw [hR, hrn]]
     clear cR O2 E2 hR hrn HS
     go_wp2_with fail
     go_loopw [34] (fun x wr2 => ∃ (i : Nat) (vs2 : List Value), x = .int .i64 (i : Int) ∧ i ≤ rn ∧ LnS w9 base b (some g) σ (a1, a2) l k i vs2 wr2 ∧ ExtC base w2 wr2) (fun x _ => rn - (intOf x).toNat)
     case atStart => exact ⟨0, vs', rfl, Nat.zero_le _, HS1.out, ExtF.refl _⟩
     case round =>
       clear HS1
       obtain ⟨i, vs2, rfl, hir, hS, hE⟩ := hrel
       have HS : Hid (LnS w9 base b (some g) σ (a1, a2) l k i vs2 wr) := hS
       have HE : Hid (ExtC base w2 wr) := hE
       clear hS hE
       rcases Nat.lt_or_ge i rn with hlt2 | hge2
       · have hltJ : (i : Int) < (rn : Int) := by omega
         have wi := wrapI i (by have := HR.out.2.2.1; omega)
         obtain ⟨s, hs⟩ : ∃ s, R[i]? = some s := ⟨_, List.getElem?_eq_getElem (by rw [HR.out.2.1]; exact hlt2)⟩
         obtain ⟨sb, so, rfl, _, c1, c2'⟩ := RdP.cell (own_rdG cP_len (own_dep HR.out.2.2.2 HE.out (fun _ => rfl)) HR.out.2.1.symm) hs
         obtain ⟨s1, s2⟩ := s
         have HRI : Hid ((nrm (rowsOf l (k : Int)))[i]? = some (s1, s2)) := by show _ = _; rw [HR.out.1]; exact hs
         obtain ⟨v, hv⟩ : ∃ v, vs2[k]? = some v := ⟨_, List.getElem?_eq_getElem (by rw [HS.out.co.len]; exact hlt)⟩
         obtain ⟨pv, cv, rfl, _⟩ := own_form (HS.out.co.row k v hv)
         have hrow := HS.out.co.row k _ hv
         obtain ⟨nv, hnv⟩ : ∃ nv, (lnF σ (a1, a2) l k i k).length = nv := ⟨_, rfl⟩
         rw [hnv] at hv hrow
         have HV : Hid (vs2[k]? = some (.slice pv nv cv)) := hv
         have HNL : Hid (nv = (lnF σ (a1, a2) l k i k).length) := hnv.symm
         have HNV : Hid (nv + 1 ≤ 1000000) := by
           have h1 := col_len (nice σ) (m := 20) H.out.1.few (k : Int)
           have h2 := H.out.1.n
           have h3 := H.out.2.2.2.1
           have h4 := HR.out
           rw [lnF_k] at hnv
           simp only [List.length_append, List.length_map, List.length_take] at hnv
           rw [h4.1] at hnv
           show _ ≤ _
           omega
         have BS : Hid (base ≤ wr.heap.size) := Nat.le_trans H9.out.2.2.2.2.2 HS.out.e.size
         have OW : Hid (∀ V, Ext (wr.alloc (.cells #[.int .i64 s1, .int .i64 s2] 72)) V → V.ownsRow base 74 4 (.slice pv nv cv) nv ((lnF σ (a1, a2) l k i k).flatMap cN)) := fun V e => ownsRow_ext hrow (((Ext.refl wr).alloc _).trans e)
         have hbx : wr.heap[A]? = some (.cells #[.int .i64 a1, .int .i64 a2] 24) := (HS.out.e.block A (heap_lt H9.out.2.2.2.1) (.inl (by rw [H9.out.2.2.2.1]; rfl))).trans H9.out.2.2.2.1
         have PS : Hid (∀ y w5, Ext (wr.alloc (.cells #[.int .i64 s1, .int .i64 s2] 72)) y → y.grownBy w5 (Value.slice pv nv cv).ownBlock → (fun V => V.cell? ⟨b, 1 + k, none⟩ = some (.slice pv nv cv) ∧ V.cell? ⟨wr.heap.size, 0, none⟩ = some (.int .i64 s1) ∧ V.cell? ⟨wr.heap.size, 1, none⟩ = some (.int .i64 s2) ∧ V.cell? ⟨A, 0, none⟩ = some (.int .i64 a1) ∧ V.cell? ⟨A, 1, none⟩ = some (.int .i64 a2)) w5) := fun y w5 e G => by
           have hy := HS.out.ext (((Ext.refl wr).alloc _).trans e)
           have hbx' : y.heap[A]? = some (.cells #[.int .i64 a1, .int .i64 a2] 24) := ((((Ext.refl wr).alloc _).trans e).block A (heap_lt hbx)).trans hbx
           have hsp : y.heap[wr.heap.size]? = some (.cells #[.int .i64 s1, .int .i64 s2] 72) := Ext.top e
           have no : ∀ (q : Nat) (cur : Array Value) (T : TypeId), y.heap[q]? = some (Obj.cells cur T (0, 0)) → T ≠ 74 → w5.heap[q]? = y.heap[q]? := fun q cur T hq hT => G.block q (heap_lt hq) (fun e' => by
             obtain ⟨_, cur', h3⟩ := own_heap (hy.co.row k _ hv) e'.symm
             rw [hq] at h3
             cases h3
             exact hT rfl)
           have n1 := fun o => (cells_heap (no _ _ _ hbx' (by decide)) o).1
           have n2 := fun o => (cells_heap (no _ _ _ hsp (by decide)) o).1
           have n3 := (cells_heap (G.block b hy.co.lt (fun e' => hy.co.ne hv e'.symm)) (1 + k)).1
           exact ⟨n3.trans (hy.co.cell hv), (n2 0).trans ((cell_of_row y _ 0 _ _ _ hsp).trans rfl), (n2 1).trans ((cell_of_row y _ 1 _ _ _ hsp).trans rfl), (n1 0).trans ((cell_of_row y _ 0 _ _ _ hbx').trans rfl), (n1 1).trans ((cell_of_row y _ 1 _ _ _ hbx').trans rfl)⟩
         have MK : Hid (∀ V, Ext (wr.alloc (.cells #[.int .i64 s1, .int .i64 s2] 72)) V → (fun V => V.cell? ⟨b, 1 + k, none⟩ = some (.slice pv nv cv) ∧ V.cell? ⟨wr.heap.size, 0, none⟩ = some (.int .i64 s1) ∧ V.cell? ⟨wr.heap.size, 1, none⟩ = some (.int .i64 s2) ∧ V.cell? ⟨A, 0, none⟩ = some (.int .i64 a1) ∧ V.cell? ⟨A, 1, none⟩ = some (.int .i64 a2)) V) := fun V e => PS.out V V e ⟨rfl, rfl, rfl, Nat.le_refl _, fun _ _ _ => rfl⟩
         clear hs hv hrow hnv hbx
         go_upto_region 11 with fail
         refine bar_begin (B := fun i => i == 16) (S := fun V => V.cell? ⟨b, 1 + k, none⟩ = some (.slice pv nv cv) ∧ V.cell? ⟨wr.heap.size, 0, none⟩ = some (.int .i64 s1) ∧ V.cell? ⟨wr.heap.size, 1, none⟩ = some (.int .i64 s2) ∧ V.cell? ⟨A, 0, none⟩ = some (.int .i64 a1) ∧ V.cell? ⟨A, 1, none⟩ = some (.int .i64 a2)) (by kernel_rfl) ?_
         obtain ⟨y0, hy0⟩ : ∃ y0, World.drew (wr.alloc (.cells #[.int .i64 s1, .int .i64 s2] 72)) = y0 := ⟨_, rfl⟩
         have EY : Hid (Ext (wr.alloc (.cells #[.int .i64 s1, .int .i64 s2] 72)) y0) := by
           show Ext _ _
           rw [← hy0]
           exact (Ext.refl _).drew
         rw [hy0]
         clear hy0
         have mkS : Hid (∀ V, Ext y0 V → (fun V => V.cell? ⟨b, 1 + k, none⟩ = some (.slice pv nv cv) ∧ V.cell? ⟨wr.heap.size, 0, none⟩ = some (.int .i64 s1) ∧ V.cell? ⟨wr.heap.size, 1, none⟩ = some (.int .i64 s2) ∧ V.cell? ⟨A, 0, none⟩ = some (.int .i64 a1) ∧ V.cell? ⟨A, 1, none⟩ = some (.int .i64 a2)) V) := fun V e => MK.out V (EY.out.trans e)
         have HOW : Hid (∀ V, Ext y0 V → V.ownsRow base 74 4 (.slice pv nv cv) nv ((lnF σ (a1, a2) l k i k).flatMap cN)) := fun V e => OW.out V (EY.out.trans e)
         have HBS : Hid (∀ V, Ext y0 V → base ≤ V.heap.size) := fun V e => Nat.le_trans BS.out (((Ext.refl wr).alloc _).trans (EY.out.trans e)).size
         have HPS : Hid (∀ w2, (y0.alloc (.cells #[.int .i64 s1, .int .i64 s2, .int .i64 a1, .int .i64 a2] 74)).grownBy w2 (Value.slice pv nv cv).ownBlock → (fun V => V.cell? ⟨b, 1 + k, none⟩ = some (.slice pv nv cv) ∧ V.cell? ⟨wr.heap.size, 0, none⟩ = some (.int .i64 s1) ∧ V.cell? ⟨wr.heap.size, 1, none⟩ = some (.int .i64 s2) ∧ V.cell? ⟨A, 0, none⟩ = some (.int .i64 a1) ∧ V.cell? ⟨A, 1, none⟩ = some (.int .i64 a2)) w2) := fun w2 G2 => PS.out _ w2 (EY.out.trans ((Ext.refl _).alloc _)) G2
         have hS0 := mkS.out y0 (Ext.refl _)
         refine barT_take (i := 0) (v := ?vz0) rfl (by kernel_rfl) (by kernel_rfl) (by kernel_rfl) (by kernel_rfl) (fun _ _ _ h => h) (Or.inl ⟨by rfl, ?hz0⟩) hS0 ?rz0
         case hz0 => (intro W9 hSW; (try dsimp only at hSW); first | (go_simp; done) | (go_simp; with_reducible rfl))
         try go_frame
         refine barT_take (i := 1) (v := ?vz1) rfl (by kernel_rfl) (by kernel_rfl) (by kernel_rfl) (by kernel_rfl) (fun _ _ _ h => h) (Or.inl ⟨by rfl, ?hz1⟩) hS0 ?rz1
         case hz1 => (intro W9 hSW; (try dsimp only at hSW); first | (go_simp; done) | (go_simp; with_reducible rfl))
         try go_frame
         refine barT_take (i := 2) (v := ?vz2) rfl (by kernel_rfl) (by kernel_rfl) (by kernel_rfl) (by kernel_rfl) (fun _ _ _ h => h) (Or.inl ⟨by rfl, ?hz2⟩) hS0 ?rz2
         case hz2 => (intro W9 hSW; (try dsimp only at hSW); first | (go_simp; done) | (go_simp; with_reducible rfl))
         try go_frame
         refine barT_take (i := 3) (v := ?vz3) rfl (by kernel_rfl) (by kernel_rfl) (by kernel_rfl) (by kernel_rfl) (fun _ _ _ h => h) (Or.inl ⟨by rfl, ?hz3⟩) hS0 ?rz3
         case hz3 => (intro W9 hSW; (try dsimp only at hSW); first | (go_simp; done) | (go_simp; with_reducible rfl))
         try go_frame
         refine barT_take (i := 4) (v := ?vz4) rfl (by kernel_rfl) (by kernel_rfl) (by kernel_rfl) (by kernel_rfl) (fun _ _ _ h => h) (Or.inl ⟨by rfl, ?hz4⟩) hS0 ?rz4
         case hz4 => (intro W9 hSW; (try dsimp only at hSW); first | (go_simp; done) | (go_simp; with_reducible rfl))
         try go_frame
         refine barT_take (i := 5) (v := ?vz5) rfl (by kernel_rfl) (by kernel_rfl) (by kernel_rfl) (by kernel_rfl) (fun _ _ _ h => h) (Or.inl ⟨by rfl, ?hz5⟩) hS0 ?rz5
         case hz5 => (intro W9 hSW; (try dsimp only at hSW); first | (go_simp; done) | (go_simp; with_reducible rfl))
         try go_frame
         refine barT_take (i := 6) (v := ?vz6) rfl (by kernel_rfl) (by kernel_rfl) (by kernel_rfl) (by kernel_rfl) (fun _ _ _ h => h) (Or.inl ⟨by rfl, ?hz6⟩) hS0 ?rz6
         case hz6 => (intro W9 hSW; (try dsimp only at hSW); first | (go_simp; done) | (go_simp; with_reducible rfl))
         try go_frame
         refine barT_take (i := 7) (v := ?vz7) rfl (by kernel_rfl) (by kernel_rfl) (by kernel_rfl) (by kernel_rfl) (fun _ _ _ h => h) (Or.inl ⟨by rfl, ?hz7⟩) hS0 ?rz7
         case hz7 => (intro W9 hSW; (try dsimp only at hSW); first | (go_simp; done) | (go_simp; with_reducible rfl))
         try go_frame
         refine barT_take (i := 8) (v := ?vz8) rfl (by kernel_rfl) (by kernel_rfl) (by kernel_rfl) (by kernel_rfl) (fun _ _ _ h => h) (Or.inl ⟨by rfl, ?hz8⟩) hS0 ?rz8
         case hz8 => (intro W9 hSW; (try dsimp only at hSW); first | (go_simp; done) | (go_simp; with_reducible rfl))
         try go_frame
         refine barT_take (i := 9) (v := ?vz9) rfl (by kernel_rfl) (by kernel_rfl) (by kernel_rfl) (by kernel_rfl) (fun _ _ _ h => h) (Or.inl ⟨by rfl, ?hz9⟩) hS0 ?rz9
         case hz9 => (intro W9 hSW; (try dsimp only at hSW); first | (go_simp; done) | (go_simp; with_reducible rfl))
         try go_frame
         refine barT_take (i := 10) (v := ?vz10) rfl (by kernel_rfl) (by kernel_rfl) (by kernel_rfl) (by kernel_rfl) (fun _ _ _ h => h) (Or.inl ⟨by rfl, ?hz10⟩) hS0 ?rz10
         case hz10 => (intro W9 hSW; (try dsimp only at hSW); first | (go_simp; done) | (go_simp; with_reducible rfl))
         try go_frame
         refine barT_take (i := 13) (v := ?vz13) rfl (by kernel_rfl) (by kernel_rfl) (by kernel_rfl) (by kernel_rfl) (fun _ _ _ h => h) (Or.inl ⟨by rfl, ?hz13⟩) hS0 ?rz13
         case hz13 => (intro W9 hSW; (try dsimp only at hSW); first | (go_simp; done) | (go_simp; with_reducible rfl))
         try go_frame
         refine barT_take (i := 14) (v := ?vz14) rfl (by kernel_rfl) (by kernel_rfl) (by kernel_rfl) (by kernel_rfl) (fun _ _ _ h => h) (Or.inl ⟨by rfl, ?hz14⟩) hS0 ?rz14
         case hz14 => (intro W9 hSW; (try dsimp only at hSW); first | (go_simp; done) | (go_simp; with_reducible rfl))
         try go_frame
         refine barT_hold (i := 11) (by kernel_rfl) rfl (fun KK hKK => ?_)
         go_simp
         skip
         try go_wp2_with fail
         refine hKK.out _ _ ?_ (fun hS1 => ?_)
         · (try dsimp only); (first | exact HS2.out | (refine mkS.out _ ?_; ((with_reducible (repeat (first | assumption | exact Ext.refl _ | apply Ext.drew | apply Ext.drewN | apply Ext.alloc))); done)))
         clear hKK KK hS0
         try go_frame
         refine barT_hold (i := 12) (by kernel_rfl) rfl (fun KK hKK => ?_)
         refine step_app eltN cN_len cN_one (by decide) _ _ _ _ _ nv 1 _ (lnF σ (a1, a2) l k i k) [⟨s1, s2, a1, a2⟩] base rfl rfl (by rfl) (by rfl) (HOW.out _ ((Ext.refl _).alloc _)) rfl (RdG.one (top_heap _ _) (nd_cells s1 s2 a1 a2)) HNV.out (HBS.out _ ((Ext.refl _).alloc _)) ?_; intro v2 w2 O2 G2 N2; obtain ⟨p2, c2, rfl, _⟩ := own_form O2; have H2 : Hid _ := LnS.step HS.out HV.out HRI.out (((Ext.refl wr).alloc _).trans (EY.out.alloc _)) HNL.out O2 G2 N2; have HS2 : Hid ((fun V => V.cell? ⟨b, 1 + k, none⟩ = some (.slice pv nv cv) ∧ V.cell? ⟨wr.heap.size, 0, none⟩ = some (.int .i64 s1) ∧ V.cell? ⟨wr.heap.size, 1, none⟩ = some (.int .i64 s2) ∧ V.cell? ⟨A, 0, none⟩ = some (.int .i64 a1) ∧ V.cell? ⟨A, 1, none⟩ = some (.int .i64 a2)) w2) := HPS.out w2 G2; obtain ⟨f1, f2⟩ := H2.out.1; clear O2 G2 N2
         refine hKK.out _ _ ?_ (fun hS2 => ?_)
         · (try dsimp only); (first | exact HS2.out | (refine mkS.out _ ?_; ((with_reducible (repeat (first | assumption | exact Ext.refl _ | apply Ext.drew | apply Ext.drewN | apply Ext.alloc))); done)))
         clear hKK KK hS1
         try go_frame
         refine barT_take (i := 15) (v := ?vz15) rfl (by kernel_rfl) (by kernel_rfl) (by kernel_rfl) (by kernel_rfl) (fun _ _ _ h => h) (Or.inl ⟨by rfl, ?hz15⟩) hS2 ?rz15
         case hz15 => (intro W9 hSW; (try dsimp only at hSW); first | (go_simp; done) | (go_simp; with_reducible rfl))
         try go_frame
         refine barT_one (i := 16) (by kernel_rfl) rfl (fun KK hKK => ?_)
         go_simp
         skip
         try go_wp2_with fail
         refine hKK.out _ _ (fun h => absurd h (by decide)) ?_
         clear hKK KK
         try go_frame
         refine bar_done (by kernel_rfl) ?_ _
         go_wp2_with fail
         go_roundw
         case rel => exact ⟨i + 1, _, by rw [wi], hlt2, H2.out.2.1, HE.out.trans H2.out.2.2⟩
         case measure => rw [wi]; simp [intOf]; omega
       · have hir2 : i = rn := by omega
         subst hir2
         have hltJ : ¬ (i : Int) < (i : Int) := by omega
         have HN : Hid (LnS w9 base b (some g) σ (a1, a2) l (k + 1) 0 vs2 wr) := HS.out.next hlt (by rw [HR.out.1]; exact HR.out.2.1.symm)
         clear HS HE
         go_wp2_with fail
         go_roundw
         case rel => exact ⟨k + 1, _, by simp, HN.out⟩
         case measure => simp [intOf]; omega
   · have hk : k = 53 := by omega
     subst hk
     have hltI : ¬ ((53 : Nat) : Int) < 53 := by omega
     have HQ : Hid (LnQ W base b n σ (a1, a2) l (.returned (.tuple #[])) wr) := by
       refine ⟨rfl, ⟨some g, vs', HS.out.co.congr (fun c hc => ?_), H9.out.2.1.keep HS.out.e, sg_add H.out.1.ok H.out.2.2.2.2.2.2.2.1 H.out.2.2.2.2.2.2.2.2 H.out.2.2.2.2.2.2.1, few_add H.out.1.few _ H.out.2.2.2.2.2.1, by simp; exact H.out.1.n⟩, H9.out.2.2.1.trans (HS.out.e.mono (fun _ h => dc_dk h))⟩
       unfold lnF
       rw [if_pos hc]
     go_wp2_with fail
     refine bodyPost_ret (v := .tuple #[]) (by simp [results, Try.results37, go_sem]) rfl ?_
     exact HQ.out

open Go.RowKit
set_option maxHeartbeats 1000000

set_option maxRecDepth 100000 in
theorem learnN (W : World) (base b n : Nat) (vs : List Value) (σ : Sg) (a1 a2 : Int) (p : Option Addr) (ln cp : Nat) (l : List Rc) (hb : base ≤ W.heap.size) (h : Dps W base b none n vs σ) (hn : n ≤ 1000) (hi : pin (a1, a2) = true) (ha : ∀ e ∈ σ, e.1 ≠ (a1, a2)) (hv : W.ownsRow base 32 4 (.slice p ln cp) l.length (l.flatMap cR)) (hln : ln = l.length) (hl : l.length ≤ 20) (hc : ∀ x ∈ l, x.can = true) (hne : l ≠ []) :
   Calls Try.prog 37 #[.pointer (some ⟨b, 0, none⟩), .agg #[.int .i64 a1, .int .i64 a2], .slice p ln cp] W (LnQ W base b n σ (a1, a2) l) := by
 obtain ⟨i1, i2⟩ := pin_i hi
 have z0 : ((ln : Int) == 0) = false := beq_eq_false_iff_ne.2 (by
   intro e
   apply hne
   exact List.eq_nil_of_length_eq_zero (by omega))
 have H : Hid (Dps W base b none n vs σ ∧ (I64 a1 ∧ I64 a2) ∧ base ≤ W.heap.size ∧ n ≤ 1000 ∧ W.ownsRow base 32 4 (.slice p ln cp) l.length (l.flatMap cR) ∧ l.length ≤ 20 ∧ (∀ x ∈ l, x.can = true) ∧ (∀ e ∈ σ, e.1 ≠ (a1, a2)) ∧ pin (a1, a2) = true) := ⟨h, ⟨i1, i2⟩, hb, hn, hv, hl, hc, ha, hi⟩
 have E2 : Ext W (W.alloc (.cells #[.int .i64 a1, .int .i64 a2] 24)) := (Ext.refl _).alloc _
 have hbox : (W.alloc (.cells #[.int .i64 a1, .int .i64 a2] 24)).heap[W.heap.size]? = some (.cells #[.int .i64 a1, .int .i64 a2] 24) := top_heap W _
 have bc := (h.ext E2).cols.cell0
 have bf := (h.ext E2).cols.fz 0
 have qm := eqm0
 have hmm := @run_makeMap Try.prog
 have bc2 := ((h.ext E2).ext ((Ext.refl _).alloc (.map #[] 0))).cols.cell0
 have bf2 := ((h.ext E2).ext ((Ext.refl _).alloc (.map #[] 0))).cols.fz 0
 have HB0 : Hid _ := hbox
 clear h hi ha hv hl hc hne hln i1 i2 hb hn hbox E2
 go_enter Try.func37, Try.ntmps37
 go_upto_region 4 with fail
 clear bc bf qm hmm bc2 bf2
 obtain ⟨g, hg⟩ : ∃ g, g = W.heap.size + 1 := ⟨_, rfl⟩
 have hW4 : ∃ wq, wq = ((W.alloc (.cells #[.int .i64 a1, .int .i64 a2] 24)).alloc (.map #[] 0)).setCell ⟨b, 0, none⟩ (.map (some g)) := ⟨_, rfl⟩
 rw [← hg]
 obtain ⟨wq, hwq⟩ := hW4
 rw [← hwq]
 obtain ⟨hD, ⟨iR, iC⟩, hb, hn, hv, hl, hc, ha, hi⟩ := H.out
 have hgs : (W.alloc (.cells #[.int .i64 a1, .int .i64 a2] 24)).heap.size = g := by rw [hg]; simp
 obtain ⟨W5, hW5⟩ : ∃ W5, W5 = (W.alloc (.cells #[.int .i64 a1, .int .i64 a2] 24)).alloc (.map #[] 0) := ⟨_, rfl⟩
 have E5 : Ext W W5 := by rw [hW5]; exact ((Ext.refl _).alloc _).alloc _
 have hD5 := hD.ext E5
 have hg5 : W5.heap[g]? = some (.map #[] 0) := by rw [hW5, ← hgs]; exact top_heap _ _
 have hx5 : W5.heap[W.heap.size]? = some (.cells #[.int .i64 a1, .int .i64 a2] 24) := by rw [hW5]; exact (((Ext.refl _).alloc (.map #[] 0)).block _ (by simp)).trans HB0.out
 rw [← hW5] at hwq
 have hgb : g ≠ b := by have := hD.cols.lt; omega
 have own : wq.ownsMap Try.prog 24 hR g 0 (.map []) := by
   have h0 := World.ownsMap_made (W.alloc (.cells #[.int .i64 a1, .int .i64 a2] 24)) Try.prog 24 hR
   rw [hgs, ← hW5] at h0
   rw [hwq]
   exact World.ownsMap.setCell h0 hgb _
 have own := own.mono (Nat.zero_le n)
 have rel : RelN wq base (.map []) (needS σ) := fun r c _ _ => ⟨.slice none 0 0, rfl, by
   rw [show needS σ (r, c) = [] from hD.map _]
   exact ⟨by simp, .inl ⟨rfl, rfl⟩⟩⟩
 have hcq : Cols wq base b (some g) vs (fun c => colS σ (c : Int)) := by rw [hwq]; exact hD5.cols.remap g
 have eqD : ExtD base W wq := by rw [hwq]; exact ExtF.set E5.toF hD.cols.bb (.inr (hD.cols.dk)) _
 have hbox : wq.heap[W.heap.size]? = some (.cells #[.int .i64 a1, .int .i64 a2] 24) := by
   rw [hwq]
   refine (heap_setCell_other W5 ⟨b, 0, none⟩ _ _ (fun e => ?_)).trans hx5
   have := hD.cols.lt
   simp at e
   omega
 have hgm : ∃ es cl, wq.heap[g]? = some (.map es cl) := ⟨#[], 0, by rw [hwq]; exact (heap_setCell_other W5 ⟨b, 0, none⟩ g _ hgb).trans hg5⟩
 have hbg : base ≤ g := by omega
 have hOR : OwR wq base (.slice p ln cp) l := own_dep hv eqD (fun _ => rfl)
 clear E5 hD5 hg5 hx5 hW5 hwq hgs hgb hD
 obtain ⟨es, cl, hgm⟩ := hgm
 obtain ⟨w9, hrun, own9, turn⟩ := World.ownsMap.store (w := wq.drew) (n := n) own kLaw Try.underlying54 (by unfold maxLen; omega) (val := .slice p ln cp) (d := .held (.slice p ln cp)) (ps := []) (key_mk a1 a2 iR iC) rfl
 have HR2 : Hid ((Instr.mapUpdate 54 (.map (some g)) (.agg #[.int .i64 a1, .int .i64 a2]) (.slice p ln cp)).run Try.prog wq.drew = .ok () w9) := hrun
 have tg : wq.grownBy w9 (some g) := grown_drew turn.grown
 have eD : ExtD base wq w9 := ExtF.grown tg (fun q hq => by cases hq; exact ⟨hbg, by rw [hgm]; rfl⟩)
 have hbox9 : w9.heap[W.heap.size]? = some (.cells #[.int .i64 a1, .int .i64 a2] 24) := (tg.block _ (heap_lt hbox) (fun e => by cases e; rw [hbox] at hgm; cases hgm)).trans hbox
 have hc9 : Cols w9 base b (some g) vs (fun c => colS σ (c : Int)) := hcq.turn tg (by rw [hgm]; rfl)
 have hO9 : OwR w9 base (.slice p ln cp) l := own_dep hOR eD (fun _ => rfl)
 have hm9 : MapS w9 base (n + 1) (some g) (needS (σ ++ [((a1, a2), l)])) := ⟨hbg, _, own9, by
   have := (rel.keep eD (fun _ => rfl)).put own.isMap a1 a2 iR iC (.slice p ln cp) l hO9
   have e : putM (needS σ) (a1, a2) l = needS (σ ++ [((a1, a2), l)]) := by funext x; rw [need_add ha]; rfl
   rw [← e]; exact this⟩
 have H9 : Hid (Cols w9 base b (some g) vs (fun c => colS σ (c : Int)) ∧ MapS w9 base (n + 1) (some g) (needS (σ ++ [((a1, a2), l)])) ∧ ExtD base W w9 ∧ w9.heap[W.heap.size]? = some (.cells #[.int .i64 a1, .int .i64 a2] 24) ∧ OwR w9 base (.slice p ln cp) l ∧ base ≤ w9.heap.size) :=
   ⟨hc9, hm9, eqD.trans eD, hbox9, hO9, Nat.le_trans hb (eqD.trans eD).size⟩
 have HB : Hid (w9.cell? ⟨b, 0, none⟩ = some (.map (some g)) ∧ w9.cell? ⟨W.heap.size, 0, none⟩ = some (.int .i64 a1) ∧ w9.cell? ⟨W.heap.size, 1, none⟩ = some (.int .i64 a2)) := ⟨hc9.cell0, (cell_of_row w9 _ 0 _ _ _ hbox9).trans rfl, (cell_of_row w9 _ 1 _ _ _ hbox9).trans rfl⟩
 have HA : Hid (wq.drew.cell? ⟨b, 0, none⟩ = some (.map (some g)) ∧ wq.drew.cell? ⟨W.heap.size, 0, none⟩ = some (.int .i64 a1) ∧ wq.drew.cell? ⟨W.heap.size, 1, none⟩ = some (.int .i64 a2)) := ⟨hcq.cell0, (cell_of_row wq.drew _ 0 _ _ _ hbox).trans rfl, (cell_of_row wq.drew _ 1 _ _ _ hbox).trans rfl⟩
 clear hrun own own9 turn tg hgm hbox hbox9 hc9 hm9 hcq eD eqD rel iR iC hb hn hbg hv hl hc ha hi hOR hO9 hg
 obtain ⟨A, hA⟩ : ∃ A, W.heap.size = A := ⟨_, rfl⟩
 rw [hA] at HA HB H9 ⊢
 clear hA HB0
 refine wp_region_held_drew (S := (fun V => V.cell? ⟨b, 0, none⟩ = some (.map (some g)) ∧ V.cell? ⟨A, 0, none⟩ = some (.int .i64 a1) ∧ V.cell? ⟨A, 1, none⟩ = some (.int .i64 a2))) (by kernel_rfl) ?_ (fun hHeld0 => ?_)
 · (first | exact HA.out | exact HB.out)
 refine wpAnyH_take (i := 0) (oi := ⟨some 21, .move (.tmp 0), 25, "deps.go:103", #[], none⟩) (v := ?_) rfl (by kernel_rfl) (by kernel_rfl) (by kernel_rfl) (fun _ _ _ h => h) (Or.inl ⟨by rfl, ?_⟩) (by assumption) ?_
 rotate_left
 · intro w hSw; (try dsimp only at hSw); first | (go_simp; done) | (go_simp; with_reducible rfl)
 try go_frame
 refine wpAnyH_take (i := 1) (oi := ⟨some 22, .nilCheck (.tmp 21), 0, "deps.go:103", #[⟨0, .data⟩], none⟩) (v := ?_) rfl (by kernel_rfl) (by kernel_rfl) (by kernel_rfl) (fun _ _ _ h => h) (Or.inl ⟨by rfl, ?_⟩) (by assumption) ?_
 rotate_left
 · intro w hSw; (try dsimp only at hSw); first | (go_simp; done) | (go_simp; with_reducible rfl)
 try go_frame
 refine wpAnyH_take (i := 2) (oi := ⟨some 23, .fieldAddr 58 (.tmp 22) 0, 0, "deps.go:103", #[⟨1, .data⟩], none⟩) (v := ?_) rfl (by kernel_rfl) (by kernel_rfl) (by kernel_rfl) (fun _ _ _ h => h) (Or.inl ⟨by rfl, ?_⟩) (by assumption) ?_
 rotate_left
 · intro w hSw; (try dsimp only at hSw); first | (go_simp; done) | (go_simp; with_reducible rfl)
 try go_frame
 refine wpAnyH_take (i := 3) (oi := ⟨some 24, .load 54 (.tmp 23), 54, "deps.go:103", #[⟨2, .data⟩], none⟩) (v := ?_) rfl (by kernel_rfl) (by kernel_rfl) (by kernel_rfl) (fun _ _ _ h => h) (Or.inl ⟨by rfl, ?_⟩) (by assumption) ?_
 rotate_left
 · intro w hSw; (try dsimp only at hSw); first | (go_simp; done) | (go_simp; with_reducible rfl)
 try go_frame
 refine wpAnyH_take (i := 4) (oi := ⟨some 25, .load 24 (.tmp 4), 24, "deps.go:103", #[], none⟩) (v := ?_) rfl (by kernel_rfl) (by kernel_rfl) (by kernel_rfl) (fun _ _ _ h => h) (Or.inl ⟨by rfl, ?_⟩) (by assumption) ?_
 rotate_left
 · intro w hSw; (try dsimp only at hSw); first | (go_simp; done) | (go_simp; with_reducible rfl)
 try go_frame
 refine wpAnyH_take (i := 5) (oi := ⟨some 26, .move (.tmp 2), 29, "deps.go:103", #[], none⟩) (v := ?_) rfl (by kernel_rfl) (by kernel_rfl) (by kernel_rfl) (fun _ _ _ h => h) (Or.inl ⟨by rfl, ?_⟩) (by assumption) ?_
 rotate_left
 · intro w hSw; (try dsimp only at hSw); first | (go_simp; done) | (go_simp; with_reducible rfl)
 try go_frame
 refine wpAnyH_ready (rs := [6]) (by kernel_rfl) (by simp) ?_
 refine AllReadyH.cons (o := ⟨none, .mapUpdate 54 (.tmp 24) (.tmp 25) (.tmp 26), 0, "deps.go:103", #[⟨3, .data⟩, ⟨4, .data⟩, ⟨5, .data⟩, ⟨0, .phase⟩, ⟨1, .phase⟩, ⟨2, .phase⟩, ⟨3, .phase⟩, ⟨4, .phase⟩, ⟨5, .phase⟩], none⟩) rfl (fun K hK => ?_) AllReadyH.nil
 refine step_update rfl _ _ _ _ rfl _ _ _ rfl rfl rfl _ HR2.out ?_
 refine hK.out _ _ ?_ (fun hHeld1 => ?_)
 · (try dsimp only); (first | exact HA.out | exact HB.out)
 clear hK K hHeld0
 try go_frame
 refine wpAnyH_done (by kernel_rfl) ?_ _
 clear HA HB HR2
 go_wp2_with fail
 have HS0 : Hid (LnS w9 base b (some g) σ (a1, a2) l 0 0 vs w9) := ⟨H9.out.1.congr (fun c _ => by unfold lnF; simp), ExtF.refl _, by omega⟩
 have HL : Hid (l.length = ln ∧ l.length ≤ 20) := ⟨by have := own_form H.out.2.2.2.2.1; obtain ⟨_, _, e, _⟩ := this; cases e; rfl, H.out.2.2.2.2.2.1⟩
 go_loopw [27] (fun x wr => ∃ (k : Nat) (vs' : List Value), x = .int .i64 (k : Int) ∧ LnS w9 base b (some g) σ (a1, a2) l k 0 vs' wr) (fun x _ => 53 - (intOf x).toNat)
 case atStart => exact ⟨0, vs, rfl, HS0.out⟩
 case round =>
   clear HS0 z0
   obtain ⟨k, vs', rfl, hS⟩ := hrel
   have HS : Hid (LnS w9 base b (some g) σ (a1, a2) l k 0 vs' wr) := hS
   have hkl := hS.kl
   clear hS
   rcases Nat.lt_or_ge k 53 with hlt | hge
   · have hltI : (k : Int) < 53 := by omega
     have cR := rows_any wr (.slice p ln cp) l (k : Int) (own_rdG cR_len (own_dep H9.out.2.2.2.2.1 HS.out.e (fun _ => rfl)) rfl) (by have := HL.out.2; omega) H.out.2.2.2.2.2.2.1
     go_wp2_with fail
     refine cR.mono ?_
     rintro e w2 ⟨v2, rfl, O2, E2⟩
     obtain ⟨p2, c2, rfl, _⟩ := own_form O2
     obtain ⟨R, hR⟩ : ∃ R, nrm (rowsOf l (k : Int)) = R := ⟨_, rfl⟩
     rw [hR] at O2
     obtain ⟨rn, hrn⟩ : ∃ rn, R.length = rn := ⟨_, rfl⟩
     have HR : Hid (nrm (rowsOf l (k : Int)) = R ∧ R.length = rn ∧ rn ≤ 20 ∧ w2.ownsRow wr.heap.size 72 2 (.slice p2 rn c2) rn (R.flatMap cP)) := ⟨hR, hrn, by have := (niceL l (k : Int)).2.2; have := HL.out.2; rw [hR] at *; omega, by rw [← hrn]; exact O2⟩
     have HS1 : Hid (LnS w9 base b (some g) σ (a1, a2) l k 0 vs' w2) := HS.out.ext E2
     rw [show (nrm (rowsOf l (k : Int))).length = rn by rw [hR, hrn]]
     clear cR O2 E2 hR hrn HS
     go_wp2_with fail
     go_loopw [34] (fun x wr2 => ∃ (i : Nat) (vs2 : List Value), x = .int .i64 (i : Int) ∧ i ≤ rn ∧ LnS w9 base b (some g) σ (a1, a2) l k i vs2 wr2 ∧ ExtC base w2 wr2) (fun x _ => rn - (intOf x).toNat)
     case atStart => exact ⟨0, vs', rfl, Nat.zero_le _, HS1.out, ExtF.refl _⟩
     case round =>
       clear HS1
       obtain ⟨i, vs2, rfl, hir, hS, hE⟩ := hrel
       have HS : Hid (LnS w9 base b (some g) σ (a1, a2) l k i vs2 wr) := hS
       have HE : Hid (ExtC base w2 wr) := hE
       clear hS hE
       rcases Nat.lt_or_ge i rn with hlt2 | hge2
       · have hltJ : (i : Int) < (rn : Int) := by omega
         have wi := wrapI i (by have := HR.out.2.2.1; omega)
         obtain ⟨s, hs⟩ : ∃ s, R[i]? = some s := ⟨_, List.getElem?_eq_getElem (by rw [HR.out.2.1]; exact hlt2)⟩
         obtain ⟨sb, so, rfl, _, c1, c2'⟩ := RdP.cell (own_rdG cP_len (own_dep HR.out.2.2.2 HE.out (fun _ => rfl)) HR.out.2.1.symm) hs
         obtain ⟨s1, s2⟩ := s
         have HRI : Hid ((nrm (rowsOf l (k : Int)))[i]? = some (s1, s2)) := by show _ = _; rw [HR.out.1]; exact hs
         obtain ⟨v, hv⟩ : ∃ v, vs2[k]? = some v := ⟨_, List.getElem?_eq_getElem (by rw [HS.out.co.len]; exact hlt)⟩
         obtain ⟨pv, cv, rfl, _⟩ := own_form (HS.out.co.row k v hv)
         have hrow := HS.out.co.row k _ hv
         obtain ⟨nv, hnv⟩ : ∃ nv, (lnF σ (a1, a2) l k i k).length = nv := ⟨_, rfl⟩
         rw [hnv] at hv hrow
         have HV : Hid (vs2[k]? = some (.slice pv nv cv)) := hv
         have HNL : Hid (nv = (lnF σ (a1, a2) l k i k).length) := hnv.symm
         have HNV : Hid (nv + 1 ≤ 1000000) := by
           have h1 := col_len (nice σ) (m := 20) H.out.1.few (k : Int)
           have h2 := H.out.1.n
           have h3 := H.out.2.2.2.1
           have h4 := HR.out
           rw [lnF_k] at hnv
           simp only [List.length_append, List.length_map, List.length_take] at hnv
           rw [h4.1] at hnv
           show _ ≤ _
           omega
         have BS : Hid (base ≤ wr.heap.size) := Nat.le_trans H9.out.2.2.2.2.2 HS.out.e.size
         have OW : Hid (∀ V, Ext (wr.alloc (.cells #[.int .i64 s1, .int .i64 s2] 72)) V → V.ownsRow base 74 4 (.slice pv nv cv) nv ((lnF σ (a1, a2) l k i k).flatMap cN)) := fun V e => ownsRow_ext hrow (((Ext.refl wr).alloc _).trans e)
         have hbx : wr.heap[A]? = some (.cells #[.int .i64 a1, .int .i64 a2] 24) := (HS.out.e.block A (heap_lt H9.out.2.2.2.1) (.inl (by rw [H9.out.2.2.2.1]; rfl))).trans H9.out.2.2.2.1
         have PS : Hid (∀ y w5, Ext (wr.alloc (.cells #[.int .i64 s1, .int .i64 s2] 72)) y → y.grownBy w5 (Value.slice pv nv cv).ownBlock → (fun V => V.cell? ⟨b, 1 + k, none⟩ = some (.slice pv nv cv) ∧ V.cell? ⟨wr.heap.size, 0, none⟩ = some (.int .i64 s1) ∧ V.cell? ⟨wr.heap.size, 1, none⟩ = some (.int .i64 s2) ∧ V.cell? ⟨A, 0, none⟩ = some (.int .i64 a1) ∧ V.cell? ⟨A, 1, none⟩ = some (.int .i64 a2)) w5) := fun y w5 e G => by
           have hy := HS.out.ext (((Ext.refl wr).alloc _).trans e)
           have hbx' : y.heap[A]? = some (.cells #[.int .i64 a1, .int .i64 a2] 24) := ((((Ext.refl wr).alloc _).trans e).block A (heap_lt hbx)).trans hbx
           have hsp : y.heap[wr.heap.size]? = some (.cells #[.int .i64 s1, .int .i64 s2] 72) := Ext.top e
           have no : ∀ (q : Nat) (cur : Array Value) (T : TypeId), y.heap[q]? = some (Obj.cells cur T (0, 0)) → T ≠ 74 → w5.heap[q]? = y.heap[q]? := fun q cur T hq hT => G.block q (heap_lt hq) (fun e' => by
             obtain ⟨_, cur', h3⟩ := own_heap (hy.co.row k _ hv) e'.symm
             rw [hq] at h3
             cases h3
             exact hT rfl)
           have n1 := fun o => (cells_heap (no _ _ _ hbx' (by decide)) o).1
           have n2 := fun o => (cells_heap (no _ _ _ hsp (by decide)) o).1
           have n3 := (cells_heap (G.block b hy.co.lt (fun e' => hy.co.ne hv e'.symm)) (1 + k)).1
           exact ⟨n3.trans (hy.co.cell hv), (n2 0).trans ((cell_of_row y _ 0 _ _ _ hsp).trans rfl), (n2 1).trans ((cell_of_row y _ 1 _ _ _ hsp).trans rfl), (n1 0).trans ((cell_of_row y _ 0 _ _ _ hbx').trans rfl), (n1 1).trans ((cell_of_row y _ 1 _ _ _ hbx').trans rfl)⟩
         have MK : Hid (∀ V, Ext (wr.alloc (.cells #[.int .i64 s1, .int .i64 s2] 72)) V → (fun V => V.cell? ⟨b, 1 + k, none⟩ = some (.slice pv nv cv) ∧ V.cell? ⟨wr.heap.size, 0, none⟩ = some (.int .i64 s1) ∧ V.cell? ⟨wr.heap.size, 1, none⟩ = some (.int .i64 s2) ∧ V.cell? ⟨A, 0, none⟩ = some (.int .i64 a1) ∧ V.cell? ⟨A, 1, none⟩ = some (.int .i64 a2)) V) := fun V e => PS.out V V e ⟨rfl, rfl, rfl, Nat.le_refl _, fun _ _ _ => rfl⟩
         clear hs hv hrow hnv hbx
         go_upto_region 11 with fail
         refine bar_begin (B := fun i => i == 16) (S := fun V => V.cell? ⟨b, 1 + k, none⟩ = some (.slice pv nv cv) ∧ V.cell? ⟨wr.heap.size, 0, none⟩ = some (.int .i64 s1) ∧ V.cell? ⟨wr.heap.size, 1, none⟩ = some (.int .i64 s2) ∧ V.cell? ⟨A, 0, none⟩ = some (.int .i64 a1) ∧ V.cell? ⟨A, 1, none⟩ = some (.int .i64 a2)) (by kernel_rfl) ?_
         obtain ⟨y0, hy0⟩ : ∃ y0, World.drew (wr.alloc (.cells #[.int .i64 s1, .int .i64 s2] 72)) = y0 := ⟨_, rfl⟩
         have EY : Hid (Ext (wr.alloc (.cells #[.int .i64 s1, .int .i64 s2] 72)) y0) := by
           show Ext _ _
           rw [← hy0]
           exact (Ext.refl _).drew
         rw [hy0]
         clear hy0
         have mkS : Hid (∀ V, Ext y0 V → (fun V => V.cell? ⟨b, 1 + k, none⟩ = some (.slice pv nv cv) ∧ V.cell? ⟨wr.heap.size, 0, none⟩ = some (.int .i64 s1) ∧ V.cell? ⟨wr.heap.size, 1, none⟩ = some (.int .i64 s2) ∧ V.cell? ⟨A, 0, none⟩ = some (.int .i64 a1) ∧ V.cell? ⟨A, 1, none⟩ = some (.int .i64 a2)) V) := fun V e => MK.out V (EY.out.trans e)
         have HOW : Hid (∀ V, Ext y0 V → V.ownsRow base 74 4 (.slice pv nv cv) nv ((lnF σ (a1, a2) l k i k).flatMap cN)) := fun V e => OW.out V (EY.out.trans e)
         have HBS : Hid (∀ V, Ext y0 V → base ≤ V.heap.size) := fun V e => Nat.le_trans BS.out (((Ext.refl wr).alloc _).trans (EY.out.trans e)).size
         have HPS : Hid (∀ w2, (y0.alloc (.cells #[.int .i64 s1, .int .i64 s2, .int .i64 a1, .int .i64 a2] 74)).grownBy w2 (Value.slice pv nv cv).ownBlock → (fun V => V.cell? ⟨b, 1 + k, none⟩ = some (.slice pv nv cv) ∧ V.cell? ⟨wr.heap.size, 0, none⟩ = some (.int .i64 s1) ∧ V.cell? ⟨wr.heap.size, 1, none⟩ = some (.int .i64 s2) ∧ V.cell? ⟨A, 0, none⟩ = some (.int .i64 a1) ∧ V.cell? ⟨A, 1, none⟩ = some (.int .i64 a2)) w2) := fun w2 G2 => PS.out _ w2 (EY.out.trans ((Ext.refl _).alloc _)) G2
         have hS0 := mkS.out y0 (Ext.refl _)
         refine barT_take (i := 0) (v := ?vz0) rfl (by kernel_rfl) (by kernel_rfl) (by kernel_rfl) (by kernel_rfl) (fun _ _ _ h => h) (Or.inl ⟨by rfl, ?hz0⟩) hS0 ?rz0
         case hz0 => (intro W9 hSW; (try dsimp only at hSW); first | (go_simp; done) | (go_simp; with_reducible rfl))
         try go_frame
         refine barT_take (i := 1) (v := ?vz1) rfl (by kernel_rfl) (by kernel_rfl) (by kernel_rfl) (by kernel_rfl) (fun _ _ _ h => h) (Or.inl ⟨by rfl, ?hz1⟩) hS0 ?rz1
         case hz1 => (intro W9 hSW; (try dsimp only at hSW); first | (go_simp; done) | (go_simp; with_reducible rfl))
         try go_frame
         refine barT_take (i := 2) (v := ?vz2) rfl (by kernel_rfl) (by kernel_rfl) (by kernel_rfl) (by kernel_rfl) (fun _ _ _ h => h) (Or.inl ⟨by rfl, ?hz2⟩) hS0 ?rz2
         case hz2 => (intro W9 hSW; (try dsimp only at hSW); first | (go_simp; done) | (go_simp; with_reducible rfl))
         try go_frame
         refine barT_take (i := 3) (v := ?vz3) rfl (by kernel_rfl) (by kernel_rfl) (by kernel_rfl) (by kernel_rfl) (fun _ _ _ h => h) (Or.inl ⟨by rfl, ?hz3⟩) hS0 ?rz3
         case hz3 => (intro W9 hSW; (try dsimp only at hSW); first | (go_simp; done) | (go_simp; with_reducible rfl))
         try go_frame
         refine barT_take (i := 4) (v := ?vz4) rfl (by kernel_rfl) (by kernel_rfl) (by kernel_rfl) (by kernel_rfl) (fun _ _ _ h => h) (Or.inl ⟨by rfl, ?hz4⟩) hS0 ?rz4
         case hz4 => (intro W9 hSW; (try dsimp only at hSW); first | (go_simp; done) | (go_simp; with_reducible rfl))
         try go_frame
         refine barT_take (i := 5) (v := ?vz5) rfl (by kernel_rfl) (by kernel_rfl) (by kernel_rfl) (by kernel_rfl) (fun _ _ _ h => h) (Or.inl ⟨by rfl, ?hz5⟩) hS0 ?rz5
         case hz5 => (intro W9 hSW; (try dsimp only at hSW); first | (go_simp; done) | (go_simp; with_reducible rfl))
         try go_frame
         refine barT_take (i := 6) (v := ?vz6) rfl (by kernel_rfl) (by kernel_rfl) (by kernel_rfl) (by kernel_rfl) (fun _ _ _ h => h) (Or.inl ⟨by rfl, ?hz6⟩) hS0 ?rz6
         case hz6 => (intro W9 hSW; (try dsimp only at hSW); first | (go_simp; done) | (go_simp; with_reducible rfl))
         try go_frame
         refine barT_take (i := 7) (v := ?vz7) rfl (by kernel_rfl) (by kernel_rfl) (by kernel_rfl) (by kernel_rfl) (fun _ _ _ h => h) (Or.inl ⟨by rfl, ?hz7⟩) hS0 ?rz7
         case hz7 => (intro W9 hSW; (try dsimp only at hSW); first | (go_simp; done) | (go_simp; with_reducible rfl))
         try go_frame
         refine barT_take (i := 8) (v := ?vz8) rfl (by kernel_rfl) (by kernel_rfl) (by kernel_rfl) (by kernel_rfl) (fun _ _ _ h => h) (Or.inl ⟨by rfl, ?hz8⟩) hS0 ?rz8
         case hz8 => (intro W9 hSW; (try dsimp only at hSW); first | (go_simp; done) | (go_simp; with_reducible rfl))
         try go_frame
         refine barT_take (i := 9) (v := ?vz9) rfl (by kernel_rfl) (by kernel_rfl) (by kernel_rfl) (by kernel_rfl) (fun _ _ _ h => h) (Or.inl ⟨by rfl, ?hz9⟩) hS0 ?rz9
         case hz9 => (intro W9 hSW; (try dsimp only at hSW); first | (go_simp; done) | (go_simp; with_reducible rfl))
         try go_frame
         refine barT_take (i := 10) (v := ?vz10) rfl (by kernel_rfl) (by kernel_rfl) (by kernel_rfl) (by kernel_rfl) (fun _ _ _ h => h) (Or.inl ⟨by rfl, ?hz10⟩) hS0 ?rz10
         case hz10 => (intro W9 hSW; (try dsimp only at hSW); first | (go_simp; done) | (go_simp; with_reducible rfl))
         try go_frame
         refine barT_take (i := 13) (v := ?vz13) rfl (by kernel_rfl) (by kernel_rfl) (by kernel_rfl) (by kernel_rfl) (fun _ _ _ h => h) (Or.inl ⟨by rfl, ?hz13⟩) hS0 ?rz13
         case hz13 => (intro W9 hSW; (try dsimp only at hSW); first | (go_simp; done) | (go_simp; with_reducible rfl))
         try go_frame
         refine barT_take (i := 14) (v := ?vz14) rfl (by kernel_rfl) (by kernel_rfl) (by kernel_rfl) (by kernel_rfl) (fun _ _ _ h => h) (Or.inl ⟨by rfl, ?hz14⟩) hS0 ?rz14
         case hz14 => (intro W9 hSW; (try dsimp only at hSW); first | (go_simp; done) | (go_simp; with_reducible rfl))
         try go_frame
         refine barT_hold (i := 11) (by kernel_rfl) rfl (fun KK hKK => ?_)
         go_simp
         skip
         try go_wp2_with fail
         refine hKK.out _ _ ?_ (fun hS1 => ?_)
         · (try dsimp only); (first | exact HS2.out | (refine mkS.out _ ?_; ((with_reducible (repeat (first | assumption | exact Ext.refl _ | apply Ext.drew | apply Ext.drewN | apply Ext.alloc))); done)))
         clear hKK KK hS0
         try go_frame
         refine barT_hold (i := 12) (by kernel_rfl) rfl (fun KK hKK => ?_)
         refine step_app eltN cN_len cN_one (by decide) _ _ _ _ _ nv 1 _ (lnF σ (a1, a2) l k i k) [⟨s1, s2, a1, a2⟩] base rfl rfl (by rfl) (by rfl) (HOW.out _ ((Ext.refl _).alloc _)) rfl (RdG.one (top_heap _ _) (nd_cells s1 s2 a1 a2)) HNV.out (HBS.out _ ((Ext.refl _).alloc _)) ?_; intro v2 w2 O2 G2 N2; obtain ⟨p2, c2, rfl, _⟩ := own_form O2; have H2 : Hid _ := LnS.step HS.out HV.out HRI.out (((Ext.refl wr).alloc _).trans (EY.out.alloc _)) HNL.out O2 G2 N2; have HS2 : Hid ((fun V => V.cell? ⟨b, 1 + k, none⟩ = some (.slice pv nv cv) ∧ V.cell? ⟨wr.heap.size, 0, none⟩ = some (.int .i64 s1) ∧ V.cell? ⟨wr.heap.size, 1, none⟩ = some (.int .i64 s2) ∧ V.cell? ⟨A, 0, none⟩ = some (.int .i64 a1) ∧ V.cell? ⟨A, 1, none⟩ = some (.int .i64 a2)) w2) := HPS.out w2 G2; obtain ⟨f1, f2⟩ := H2.out.1; clear O2 G2 N2
         refine hKK.out _ _ ?_ (fun hS2 => ?_)
         · (try dsimp only); (first | exact HS2.out | (refine mkS.out _ ?_; ((with_reducible (repeat (first | assumption | exact Ext.refl _ | apply Ext.drew | apply Ext.drewN | apply Ext.alloc))); done)))
         clear hKK KK hS1
         try go_frame
         refine barT_take (i := 15) (v := ?vz15) rfl (by kernel_rfl) (by kernel_rfl) (by kernel_rfl) (by kernel_rfl) (fun _ _ _ h => h) (Or.inl ⟨by rfl, ?hz15⟩) hS2 ?rz15
         case hz15 => (intro W9 hSW; (try dsimp only at hSW); first | (go_simp; done) | (go_simp; with_reducible rfl))
         try go_frame
         refine barT_one (i := 16) (by kernel_rfl) rfl (fun KK hKK => ?_)
         go_simp
         skip
         try go_wp2_with fail
         refine hKK.out _ _ (fun h => absurd h (by decide)) ?_
         clear hKK KK
         try go_frame
         refine bar_done (by kernel_rfl) ?_ _
         go_wp2_with fail
         go_roundw
         case rel => exact ⟨i + 1, _, by rw [wi], hlt2, H2.out.2.1, HE.out.trans H2.out.2.2⟩
         case measure => rw [wi]; simp [intOf]; omega
       · have hir2 : i = rn := by omega
         subst hir2
         have hltJ : ¬ (i : Int) < (i : Int) := by omega
         have HN : Hid (LnS w9 base b (some g) σ (a1, a2) l (k + 1) 0 vs2 wr) := HS.out.next hlt (by rw [HR.out.1]; exact HR.out.2.1.symm)
         clear HS HE
         go_wp2_with fail
         go_roundw
         case rel => exact ⟨k + 1, _, by simp, HN.out⟩
         case measure => simp [intOf]; omega
   · have hk : k = 53 := by omega
     subst hk
     have hltI : ¬ ((53 : Nat) : Int) < 53 := by omega
     have HQ : Hid (LnQ W base b n σ (a1, a2) l (.returned (.tuple #[])) wr) := by
       refine ⟨rfl, ⟨some g, vs', HS.out.co.congr (fun c hc => ?_), H9.out.2.1.keep HS.out.e, sg_add H.out.1.ok H.out.2.2.2.2.2.2.2.1 H.out.2.2.2.2.2.2.2.2 H.out.2.2.2.2.2.2.1, few_add H.out.1.few _ H.out.2.2.2.2.2.1, by simp; exact H.out.1.n⟩, H9.out.2.2.1.trans (HS.out.e.mono (fun _ h => dc_dk h))⟩
       unfold lnF
       rw [if_pos hc]
     go_wp2_with fail
     refine bodyPost_ret (v := .tuple #[]) (by simp [results, Try.results37, go_sem]) rfl ?_
     exact HQ.out
theorem learn_any (W : World) (base b n : Nat) (g : Option Nat) (vs : List Value) (σ : Sg) (a1 a2 : Int) (v : Value) (l : List Rc) (hb : base ≤ W.heap.size) (h : Dps W base b g n vs σ) (hn : n ≤ 1000) (hi : pin (a1, a2) = true) (ha : ∀ e ∈ σ, e.1 ≠ (a1, a2)) (hv : W.ownsRow base 32 4 v l.length (l.flatMap cR)) (hl : l.length ≤ 20) (hc : ∀ x ∈ l, x.can = true) :
   Calls Try.prog 37 #[.pointer (some ⟨b, 0, none⟩), .agg #[.int .i64 a1, .int .i64 a2], v] W (LnQ W base b n σ (a1, a2) l) := by
 obtain ⟨p, cp, rfl, _⟩ := own_form hv
 by_cases hne : l = []
 · subst hne
   exact learn0 W base b n g vs σ a1 a2 p cp h hi ha
 · cases g with
   | none => exact learnN W base b n vs σ a1 a2 p l.length cp l hb h hn hi ha hv rfl hl hc hne
   | some g => exact learnS W base b n g vs σ a1 a2 p l.length cp l hb h hn hi ha hv rfl hl hc hne

open Go.RowKit
set_option maxHeartbeats 1000000

theorem Dps.more {W : World} {base b n m : Nat} {g : Option Nat} {vs : List Value} {σ : Sg} (h : Dps W base b g n vs σ) (e : n ≤ m) : Dps W base b g m vs σ := ⟨h.cols, h.map.more e, h.ok, h.few, Nat.le_trans h.n e⟩
theorem own_low {W W0 : World} {base k n : Nat} {T : TypeId} {v : Value} {xs : List Value} (hb : ∀ V, Ext W0 V → base ≤ V.heap.size) (h : W.ownsRow W0.heap.size T k v n xs) : W.ownsRow base T k v n xs := ownsRow_mono h (hb W0 (Ext.refl _))
theorem new_any (W : World) (base : Nat) (hb : base ≤ W.heap.size) : Calls Try.prog 23 #[] W fun e w' => e = .returned (.pointer (some ⟨W.heap.size, 0, none⟩)) ∧ (∃ vs, Dps w' base W.heap.size none 0 vs []) ∧ Ext W w' := by
 go_enter Try.func23, Try.ntmps23
 go_wp2_with fail
 go_ret
 refine ⟨rfl, ⟨List.replicate 53 (.slice none 0 0), ⟨⟨_, top_heap W _, rfl⟩, rfl, hb, fun c v hv => ?_, fun c c' v v' q _ hv _ hq => ?_⟩, fun _ => rfl, sg_nil, by simp, by simp⟩, (Ext.refl _).alloc _⟩
 · have hv' := List.eq_of_mem_replicate (List.mem_of_getElem? hv)
   subst hv'
   exact ⟨by simp [colS], .inl ⟨rfl, by simp [colS]⟩⟩
 · have hv' := List.eq_of_mem_replicate (List.mem_of_getElem? hv)
   subst hv'
   cases hq
theorem cloneR_any (w : World) (base : Nat) (v : Value) (l : List Rc) (h : OwR w base v l) (hl : l.length ≤ 1000) :
   Calls Try.prog 25 #[v] w fun e w' => ∃ v', e = .returned v' ∧ OwR w' w.heap.size v' l ∧ Ext w w' := by
 rcases h.2 with ⟨rfl, h0⟩ | ⟨b, cap, cur, rfl, h2, h3, h4, h5, h6, h7⟩
 · have hl0 : l = [] := List.eq_nil_of_length_eq_zero h0
   subst hl0
   refine (AnyE.slices_Clone_nil Try.laysCloneR 0 0 w).mono ?_
   rintro e w' ⟨rfl, rfl⟩
   exact ⟨_, rfl, ⟨by simp, .inl ⟨rfl, rfl⟩⟩, Ext.refl _⟩
 · obtain ⟨i, z, hi, hz, hs, hb, hzs⟩ := eltR.i
   have hc := h.cells (g := b) rfl
   refine (AnyE.slices_Clone Try.laysCloneR i z 4 32 hi hz hs hb hzs (by decide) Try.sizeOf32 b 0 l.length cap (l.flatMap cR) w (gm_len cR_len l) (by unfold maxLen; omega) (by omega) (fun j u hu => ?_) (gm_one cR_one l)).mono ?_
   · have := hc j u hu
     rwa [Addr.add_lit] at this
   · rintro e w' ⟨v', rfl, k1, _, k3⟩
     exact ⟨v', rfl, k1, k3⟩
theorem needs_any (W : World) (base b n : Nat) (g : Option Nat) (vs : List Value) (σ : Sg) (r c : Int) (h : Dps W base b g n vs σ) (hr : I64 r) (hc : I64 c) :
   Calls Try.prog 9 #[.pointer (some ⟨b, 0, none⟩), .int .i64 r, .int .i64 c] W fun e w' => ∃ v', e = .returned v' ∧ OwR w' W.heap.size v' (needS σ (r, c)) ∧ Ext W w' := by
 obtain ⟨v, k1, k2⟩ := h.map.look r c hr hc
 have hrun : Hid ((Instr.lookup 54 (.map g) (.agg #[.int .i64 r, .int .i64 c]) false).run Try.prog W = .ok v W) := k1 W (Ext.refl _)
 have bc := h.cols.cell0
 have hle : (needS σ (r, c)).length ≤ 1000 := by
   by_cases he : needS σ (r, c) = []
   · rw [he]; simp
   · obtain ⟨e, he, e2⟩ := need_from he
     rw [← e2]
     have := h.few e he
     omega
 have cC := cloneR_any W base v _ k2 hle
 clear h hr hc k1 k2 hle
 go_enter Try.func9, Try.ntmps9
 go_wp2_with (at_lookup; refine wpList_look _ rfl _ _ _ rfl _ _ _ rfl rfl hrun.out ?_)
 refine cC.mono ?_
 rintro e w2 ⟨v2, rfl, O2, E2⟩
 have H2 : Hid (OwR w2 W.heap.size v2 (needS σ (r, c)) ∧ Ext W w2) := ⟨O2, E2⟩
 clear O2 E2 cC
 go_wp2_with fail
 go_ret
 exact ⟨_, rfl, H2.out.1, H2.out.2⟩
/-- What Set leaves. -/
def SetD (W : World) (base b n : Nat) (σ : Sg) (a : Pl) (l : List Rc) (e : Ending) (w' : World) : Prop := e = .returned (.int .i64 (if pin a then 0 else 121)) ∧ (∃ g' vs', Dps w' base b g' (n + 1) vs' (setS σ a l)) ∧ ExtD base W w'
set_option maxRecDepth 100000 in
theorem set_any (W : World) (base b n : Nat) (g : Option Nat) (vs : List Value) (σ : Sg) (r c : Int) (v : Value) (l : List Rc) (hb : base ≤ W.heap.size) (h : Dps W base b g n vs σ) (hn : n ≤ 1000) (hR : RdR W v l) (hk : ∀ a m cp, v = .slice (some a) m cp → l ≠ [] → dkO W.heap[a.block]? = false ∨ a.block < base) (hl : l.length ≤ 20) :
   Calls Try.prog 21 #[.pointer (some ⟨b, 0, none⟩), .int .i64 r, .int .i64 c, v] W (SetD W base b n σ (r, c) l) := by
 have c1 := fun W => in_any r c W
 cases hp : inB r c
 · have hp' : pin (r, c) = false := hp
   have HQ : Hid (SetD W base b n σ (r, c) l (.returned (.int .i64 121)) W) := by
     refine ⟨by rw [hp']; rfl, ⟨g, vs, ?_⟩, ExtF.refl _⟩
     unfold setS
     rw [if_neg (by rw [hp']; simp)]
     exact h.more (Nat.le_succ _)
   rw [hp] at c1
   clear h hR hk hp hp'
   go_enter Try.func21, Try.ntmps21
   go_wp2_with fail
   refine (c1 _).mono ?_
   rintro e w1 ⟨rfl, rfl⟩
   go_wp2_with fail
   go_ret
   exact HQ.out
 · have hp' : pin (r, c) = true := hp
   have E1 : Ext W (W.alloc (.cells #[.int .i64 r, .int .i64 c] 24)) := (Ext.refl _).alloc _
   have cF := forget_any (W.alloc (.cells #[.int .i64 r, .int .i64 c] 24)) base b n g vs σ r c (Nat.le_trans hb E1.size) (h.ext E1) hn hp'
   have HR1 : Hid (∀ w2, ExtD base (W.alloc (.cells #[.int .i64 r, .int .i64 c] 24)) w2 → RdR w2 v l) := fun w2 e => (hR.ext E1).dep e (fun a m cp ev hne => by
     have hlt : a.block < W.heap.size := by
       obtain ⟨p', c', q1, q2, q3⟩ := hR
       rw [ev] at q1
       cases q1
       rcases q3 with q3 | ⟨b', o', q4, q5, _⟩
       · exact absurd q3 hne
       · cases q4; exact q5
     rw [E1.block _ hlt]
     exact hk a m cp ev hne)
   have H : Hid (base ≤ W.heap.size ∧ n ≤ 1000 ∧ l.length ≤ 20 ∧ pin (r, c) = true) := ⟨hb, hn, hl, hp'⟩
   rw [hp] at c1
   clear h hR hk hp hp' E1 hb hn hl
   go_enter Try.func21, Try.ntmps21
   go_wp2_with fail
   refine (c1 _).mono ?_
   rintro e w1 ⟨rfl, rfl⟩
   go_wp2_with fail
   refine cF.mono ?_
   rintro e w2 ⟨rfl, ⟨vs2, D2⟩, E2⟩
   have H2 : Hid (Dps w2 base b g n vs2 (delS σ (r, c)) ∧ ExtD base (w1.alloc (.cells #[.int .i64 r, .int .i64 c] 24)) w2) := ⟨D2, E2⟩
   have hbox : w2.heap[w1.heap.size]? = some (.cells #[.int .i64 r, .int .i64 c] 24) := (E2.block _ (by simp) (.inl (by rw [top_heap]; rfl))).trans (top_heap _ _)
   have HBX : Hid (w2.heap[w1.heap.size]? = some (.cells #[.int .i64 r, .int .i64 c] 24)) := hbox
   have mkS : Hid (∀ V, Ext w2 V → (fun V => V.cell? ⟨w1.heap.size, 0, none⟩ = some (.int .i64 r) ∧ V.cell? ⟨w1.heap.size, 1, none⟩ = some (.int .i64 c)) V) := fun V e => by
     have hV := (e.block _ (heap_lt hbox)).trans hbox
     exact ⟨(cell_of_row V _ 0 _ _ _ hV).trans rfl, (cell_of_row V _ 1 _ _ _ hV).trans rfl⟩
   have HP4 : Hid (∀ w3 w4, Ext w2 w3 → ExtD base w3 w4 → (fun V => V.cell? ⟨w1.heap.size, 0, none⟩ = some (.int .i64 r) ∧ V.cell? ⟨w1.heap.size, 1, none⟩ = some (.int .i64 c)) w4) := fun w3 w4 e e4 => by
     have h3 := (e.block _ (heap_lt hbox)).trans hbox
     have h4 := (e4.block _ (heap_lt h3) (.inl (by rw [h3]; rfl))).trans h3
     exact ⟨(cell_of_row w4 _ 0 _ _ _ h4).trans rfl, (cell_of_row w4 _ 1 _ _ _ h4).trans rfl⟩
   have HBS : Hid (∀ V, Ext w2 V → base ≤ V.heap.size) := fun V e => Nat.le_trans (Nat.le_trans H.out.1 (by have := E2.size; simp at this; omega)) e.size
   have cW : ∀ V, Ext w2 V → Calls Try.prog 38 #[v] V fun e w' => ∃ v', e = .returned v' ∧ w'.ownsRow w2.heap.size 32 4 v' (l.filter Rc.can).length ((l.filter Rc.can).flatMap cR) ∧ Ext V w' := fun V e => (with_any V v l ((HR1.out w2 E2).ext e) (by have := H.out.2.2.1; omega)).mono (fun e' w' h => by
     obtain ⟨v', h1, h2, h3⟩ := h
     exact ⟨v', h1, ownsRow_mono h2 e.size, h3⟩)
   have cL : ∀ w3 v3, Ext w2 w3 → w3.ownsRow base 32 4 v3 (l.filter Rc.can).length ((l.filter Rc.can).flatMap cR) → Calls Try.prog 37 #[.pointer (some ⟨b, 0, none⟩), .agg #[.int .i64 r, .int .i64 c], v3] w3 (LnQ w3 base b n (delS σ (r, c)) (r, c) (l.filter Rc.can)) := fun w3 v3 e o =>
     learn_any w3 base b n g vs2 _ r c v3 _ (HBS.out w3 e) (D2.ext e) H.out.2.1 H.out.2.2.2 (del_ne σ (r, c)) o (Nat.le_trans (List.length_filter_le _ _) H.out.2.2.1) (fun x hx => (List.mem_filter.1 hx).2)
   clear cF D2 E2 hbox c1
   go_upto_region 5 with fail
   refine wp_region_held_drew (S := (fun V => V.cell? ⟨w1.heap.size, 0, none⟩ = some (.int .i64 r) ∧ V.cell? ⟨w1.heap.size, 1, none⟩ = some (.int .i64 c))) (by kernel_rfl) ?_ (fun hHeld0 => ?_)
   · (first | exact HS9.out | (refine mkS.out _ ?_; ((with_reducible (repeat (first | assumption | exact Ext.refl _ | apply Ext.drew | apply Ext.drewN | apply Ext.alloc))); done)))
   refine wpAnyH_take (i := 0) (oi := ⟨some 20, .move (.tmp 0), 25, "deps.go:39", #[], none⟩) (v := ?_) rfl (by kernel_rfl) (by kernel_rfl) (by kernel_rfl) (fun _ _ _ h => h) (Or.inl ⟨by rfl, ?_⟩) (by assumption) ?_
   rotate_left
   · intro w hSw; (try dsimp only at hSw); first | (go_simp; done) | (go_simp; with_reducible rfl)
   try go_frame
   refine wpAnyH_take (i := 1) (oi := ⟨some 21, .load 24 (.tmp 9), 24, "deps.go:39", #[], none⟩) (v := ?_) rfl (by kernel_rfl) (by kernel_rfl) (by kernel_rfl) (fun _ _ _ h => h) (Or.inl ⟨by rfl, ?_⟩) (by assumption) ?_
   rotate_left
   · intro w hSw; (try dsimp only at hSw); first | (go_simp; done) | (go_simp; with_reducible rfl)
   try go_frame
   refine wpAnyH_take (i := 2) (oi := ⟨some 22, .move (.tmp 3), 29, "deps.go:39", #[], none⟩) (v := ?_) rfl (by kernel_rfl) (by kernel_rfl) (by kernel_rfl) (fun _ _ _ h => h) (Or.inl ⟨by rfl, ?_⟩) (by assumption) ?_
   rotate_left
   · intro w hSw; (try dsimp only at hSw); first | (go_simp; done) | (go_simp; with_reducible rfl)
   try go_frame
   refine wpAnyH_ready (rs := [3]) (by kernel_rfl) (by simp) ?_
   refine AllReadyH.cons (o := ⟨some 23, .call { callee := .value (.func 38), args := #[.tmp 22], argTypes := #[29] }, 29, "deps.go:39", #[⟨2, .data⟩], none⟩) rfl (fun K hK => ?_) AllReadyH.nil
   go_simp
   refine (cW _ (by first | exact Ext.refl _ | exact (Ext.refl _).drew)).mono ?_; rintro e w3 ⟨v3, rfl, O3, E3⟩; have X3 : Ext w2 w3 := Ext.trans (by first | exact Ext.refl _ | exact (Ext.refl _).drew) E3; have HX3 : Hid (Ext w2 w3 ∧ w3.ownsRow base 32 4 v3 (l.filter Rc.can).length ((l.filter Rc.can).flatMap cR)) := ⟨X3, own_low HBS.out O3⟩; clear O3 E3
   try go_wp2_with fail
   refine hK.out _ _ ?_ (fun hHeld1 => ?_)
   · (try dsimp only); (first | exact HS9.out | (refine mkS.out _ ?_; ((with_reducible (repeat (first | assumption | exact Ext.refl _ | apply Ext.drew | apply Ext.drewN | apply Ext.alloc))); done)))
   clear hK K hHeld0
   try go_frame
   refine wpAnyH_ready (rs := [4]) (by kernel_rfl) (by simp) ?_
   refine AllReadyH.cons (o := ⟨some 24, .call { callee := .value (.func 37), args := #[.tmp 20, .tmp 21, .tmp 23], argTypes := #[25, 24, 29] }, 0, "deps.go:39", #[⟨0, .data⟩, ⟨1, .data⟩, ⟨3, .data⟩, ⟨3, .chain⟩], none⟩) rfl (fun K hK => ?_) AllReadyH.nil
   go_simp
   refine (cL w3 v3 HX3.out.1 HX3.out.2).mono ?_; rintro e w4 ⟨rfl, D4, E4⟩; have H4 : Hid _ := And.intro D4 E4; have HS9 : Hid ((fun V => V.cell? ⟨w1.heap.size, 0, none⟩ = some (.int .i64 r) ∧ V.cell? ⟨w1.heap.size, 1, none⟩ = some (.int .i64 c)) w4) := HP4.out w3 w4 HX3.out.1 E4; clear D4 E4
   try go_wp2_with fail
   refine hK.out _ _ ?_ (fun hHeld2 => ?_)
   · (try dsimp only); (first | exact HS9.out | (refine mkS.out _ ?_; ((with_reducible (repeat (first | assumption | exact Ext.refl _ | apply Ext.drew | apply Ext.drewN | apply Ext.alloc))); done)))
   clear hK K hHeld1
   try go_frame
   refine wpAnyH_done (by kernel_rfl) ?_ _
   have HQ : Hid (SetD w1 base b n σ (r, c) l (.returned (.int .i64 0)) w4) := by
     refine ⟨by rw [H.out.2.2.2]; rfl, ?_, ((Ext.refl w1).alloc _).toF.trans (H2.out.2.trans (HX3.out.1.toF.trans H4.out.2))⟩
     rw [set_is H.out.2.2.2]
     exact H4.out.1
   clear mkS HP4 HS9 cW cL
   go_wp2_with fail
   go_ret
   exact HQ.out

open Go.RowKit
set_option maxHeartbeats 1000000

/-- A function that is shown places: I tells what it has seen; P: blocks that it leaves alone. -/
structure ShowI (W0 : World) (K : Nat) (caps : Array Value) (I : (Nat → Prop) → List Pl → World → Prop) : Prop where
 eg : ∀ args w, (callFunc K args).run Try.prog w = .ok (.enter K args) w
 e : ∀ P qs W, I P qs W → Ext W0 W
 a : ∀ P P' qs W W', I P qs W → Ext W W' → (∀ k, P' k → P k ∨ W.heap.size ≤ k ∧ k < W'.heap.size) → I P' qs W'
 s : ∀ P qs (r c : Int) W, qs.length ≤ 300000 → pin (r, c) = true → I P qs W → Calls Try.prog K (#[.agg #[.int .i64 r, .int .i64 c]] ++ caps) W fun e W' => e = .returned (.tuple #[]) ∧ I P (qs ++ [(r, c)]) W' ∧ ∀ k, P k → k < W.heap.size → W'.heap[k]? = W.heap[k]?
/-- What each leaves. -/
def EaQ (I : (Nat → Prop) → List Pl → World → Prop) (qs : List Pl) (e : Ending) (w' : World) : Prop := e = .returned (.tuple #[]) ∧ I (fun _ => False) qs w'
set_option maxRecDepth 100000 in
/-- Who is shown. -/
theorem each1_in (W0 w : World) (base b n : Nat) (g : Option Nat) (vs : List Value) (σ : Sg) (h : Dps W0 base b g n vs σ) (hn : n ≤ 1000) (K : Nat) (q1 : Nat) (I : (Nat → Prop) → List Pl → World → Prop) (hJ : ShowI W0 K #[.pointer (some ⟨q1, 0, none⟩)] I) (qs0 : List Pl) (h0 : I (fun _ => False) qs0 w) (hq0 : qs0.length ≤ 1000) (r : Int) (cn : Nat) (hp : pin (r, (cn : Int)) = true) :
   Calls Try.prog 26 #[.pointer (some ⟨b, 0, none⟩), .agg #[.int .i64 r, .int .i64 (cn : Int)], .func (.func K) #[] #[.pointer (some ⟨q1, 0, none⟩)]] w (EaQ I (qs0 ++ eachS σ (r, (cn : Int)))) := by
 have c1 := fun W => in_any r (cn : Int) W
 rw [show inB r (cn : Int) = true from hp] at c1
 have hb := pin_bd hp
 have hcn : cn < 53 := by have := hb.2.2.2; simp at this; omega
 have hcnI : (cn : Int) < 53 := by omega
 obtain ⟨v, hv⟩ : ∃ v, vs[cn]? = some v := ⟨_, List.getElem?_eq_getElem (by rw [h.cols.len]; exact hcn)⟩
 obtain ⟨pv, cv, rfl, _⟩ := own_form (h.cols.row cn v hv)
 have hrow := h.cols.row cn _ hv
 obtain ⟨L, hL⟩ : ∃ L, colS σ (cn : Int) = L := ⟨_, rfl⟩
 obtain ⟨nv, hnv⟩ : ∃ nv, L.length = nv := ⟨_, rfl⟩
 simp only [hL, hnv] at hv hrow
 have HL : Hid (colS σ (cn : Int) = L ∧ L.length = nv ∧ nv ≤ 200000 ∧ qs0.length ≤ 1000 ∧ ∀ s ∈ L, pin (s.r, s.c) = true) := ⟨hL, hnv, by
   have h1 := col_len (nice σ) (m := 20) h.few (cn : Int)
   have h2 := h.n
   rw [hL, hnv] at h1
   omega, hq0, fun s hs => col_pin h.ok (by rw [hL]; exact hs)⟩
 have E0 := hJ.e _ _ _ h0
 have HRD : Hid (∀ V, Ext W0 V → RdN V (.slice pv nv cv) L) := fun V e => own_rdG cN_len (ownsRow_ext hrow e) hnv.symm
 have HJ : Hid (ShowI W0 K #[.pointer (some ⟨q1, 0, none⟩)] I) := hJ
 have HI1 : Hid (I (fun k => k = w.heap.size) qs0 ((w.alloc (.cells #[.int .i64 r, .int .i64 (cn : Int)] 24)).drew)) := hJ.a _ _ _ _ _ h0 ((Ext.refl _).alloc _).drew (fun k hk => .inr (by rw [hk]; exact ⟨Nat.le_refl _, heap_lt (top_heap w _)⟩))
 have mkS : Hid (∀ V, Ext (w.alloc (.cells #[.int .i64 r, .int .i64 (cn : Int)] 24)) V → (fun V => V.cell? ⟨w.heap.size, 0, none⟩ = some (.int .i64 r) ∧ V.cell? ⟨w.heap.size, 1, none⟩ = some (.int .i64 (cn : Int)) ∧ V.cell? ⟨b, 1 + cn, none⟩ = some (.slice pv nv cv)) V) := fun V e => by
   obtain ⟨q1, q2⟩ := box2 e
   exact ⟨q1, q2, (h.cols.ext (E0.trans (((Ext.refl w).alloc _).trans e))).cell hv⟩
 have hbx : ((w.alloc (.cells #[.int .i64 r, .int .i64 (cn : Int)] 24)).drew).heap[w.heap.size]? = some (.cells #[.int .i64 r, .int .i64 (cn : Int)] 24) := top_heap w _
 have HBX : Hid _ := hbx
 have eg := hJ.eg
 have HE : Hid (eachS σ (r, (cn : Int)) = (L.filter (showN r)).map Nd.at) := by
   show _ = _
   unfold eachS
   rw [if_pos hp, hL]
 clear h hv hrow hL hnv E0 h0 hp hJ hbx hq0 hn
 go_enter Try.func26, Try.ntmps26
 go_wp2_with fail
 refine (c1 _).mono ?_
 rintro e w1 ⟨rfl, rfl⟩
 go_upto_region 2 with fail
 refine wp_region_held_drew (S := (fun V => V.cell? ⟨w.heap.size, 0, none⟩ = some (.int .i64 r) ∧ V.cell? ⟨w.heap.size, 1, none⟩ = some (.int .i64 (cn : Int)) ∧ V.cell? ⟨b, 1 + cn, none⟩ = some (.slice pv nv cv))) (by kernel_rfl) ?_ (fun hHeld0 => ?_)
 · (refine mkS.out _ ?_; ((with_reducible (repeat (first | assumption | exact Ext.refl _ | apply Ext.drew | apply Ext.drewN | apply Ext.alloc))); done))
 refine wpAnyH_take (i := 0) (oi := ⟨some 14, .move (.tmp 0), 25, "deps.go:116", #[], none⟩) (v := ?_) rfl (by kernel_rfl) (by kernel_rfl) (by kernel_rfl) (fun _ _ _ h => h) (Or.inl ⟨by rfl, ?_⟩) (by assumption) ?_
 rotate_left
 · intro w hSw; (try dsimp only at hSw); first | (go_simp; done) | (go_simp; with_reducible rfl)
 try go_frame
 refine wpAnyH_take (i := 1) (oi := ⟨some 15, .fieldAddr 24 (.tmp 4) 1, 0, "deps.go:116", #[], none⟩) (v := ?_) rfl (by kernel_rfl) (by kernel_rfl) (by kernel_rfl) (fun _ _ _ h => h) (Or.inl ⟨by rfl, ?_⟩) (by assumption) ?_
 rotate_left
 · intro w hSw; (try dsimp only at hSw); first | (go_simp; done) | (go_simp; with_reducible rfl)
 try go_frame
 refine wpAnyH_take (i := 2) (oi := ⟨some 16, .load 3 (.tmp 15), 3, "deps.go:116", #[⟨1, .data⟩], none⟩) (v := ?_) rfl (by kernel_rfl) (by kernel_rfl) (by kernel_rfl) (fun _ _ _ h => h) (Or.inl ⟨by rfl, ?_⟩) (by assumption) ?_
 rotate_left
 · intro w hSw; (try dsimp only at hSw); first | (go_simp; done) | (go_simp; with_reducible rfl)
 try go_frame
 refine wpAnyH_take (i := 3) (oi := ⟨some 17, .nilCheck (.tmp 14), 0, "deps.go:116", #[⟨0, .data⟩], none⟩) (v := ?_) rfl (by kernel_rfl) (by kernel_rfl) (by kernel_rfl) (fun _ _ _ h => h) (Or.inl ⟨by rfl, ?_⟩) (by assumption) ?_
 rotate_left
 · intro w hSw; (try dsimp only at hSw); first | (go_simp; done) | (go_simp; with_reducible rfl)
 try go_frame
 refine wpAnyH_take (i := 4) (oi := ⟨some 18, .fieldAddr 58 (.tmp 17) 1, 0, "deps.go:116", #[⟨3, .data⟩], none⟩) (v := ?_) rfl (by kernel_rfl) (by kernel_rfl) (by kernel_rfl) (fun _ _ _ h => h) (Or.inl ⟨by rfl, ?_⟩) (by assumption) ?_
 rotate_left
 · intro w hSw; (try dsimp only at hSw); first | (go_simp; done) | (go_simp; with_reducible rfl)
 try go_frame
 refine wpAnyH_take (i := 5) (oi := ⟨some 19, .indexAddr 56 (.tmp 18) (.tmp 16), 0, "deps.go:116", #[⟨4, .data⟩, ⟨2, .data⟩], none⟩) (v := ?_) rfl (by kernel_rfl) (by kernel_rfl) (by kernel_rfl) (fun _ _ _ h => h) (Or.inl ⟨by rfl, ?_⟩) (by assumption) ?_
 rotate_left
 · intro w hSw; (try dsimp only at hSw); first | (go_simp; done) | (go_simp; with_reducible rfl)
 try go_frame
 refine wpAnyH_take (i := 6) (oi := ⟨some 20, .load 55 (.tmp 19), 55, "deps.go:116", #[⟨5, .data⟩], none⟩) (v := ?_) rfl (by kernel_rfl) (by kernel_rfl) (by kernel_rfl) (fun _ _ _ h => h) (Or.inl ⟨by rfl, ?_⟩) (by assumption) ?_
 rotate_left
 · intro w hSw; (try dsimp only at hSw); first | (go_simp; done) | (go_simp; with_reducible rfl)
 try go_frame
 refine wpAnyH_take (i := 7) (oi := ⟨some 21, .call { callee := .builtin .len, args := #[.tmp 20], argTypes := #[55] }, 3, "deps.go:116", #[⟨6, .data⟩], none⟩) (v := ?_) rfl (by kernel_rfl) (by kernel_rfl) (by kernel_rfl) (fun _ _ _ h => h) (Or.inl ⟨by rfl, ?_⟩) (by assumption) ?_
 rotate_left
 · intro w hSw; (try dsimp only at hSw); first | (go_simp; done) | (go_simp; with_reducible rfl)
 try go_frame
 refine wpAnyH_take (i := 8) (oi := ⟨some 22, .move (.const (.int .i64 0)), 3, "deps.go:116", #[], none⟩) (v := ?_) rfl (by kernel_rfl) (by kernel_rfl) (by kernel_rfl) (fun _ _ _ h => h) (Or.inl ⟨by rfl, ?_⟩) (by assumption) ?_
 rotate_left
 · intro w hSw; (try dsimp only at hSw); first | (go_simp; done) | (go_simp; with_reducible rfl)
 try go_frame
 refine wpAnyH_done (by kernel_rfl) ?_ _
 clear mkS c1
 generalize ((w.alloc (.cells #[.int .i64 r, .int .i64 (cn : Int)] 24)).drew) = w1 at *
 generalize w.heap.size = B at *
 go_wp2_with fail
 go_loopw [22] (fun x wr => ∃ k : Nat, x = .int .i64 (k : Int) ∧ k ≤ nv ∧ I (fun k => k = B) (qs0 ++ ((L.take k).filter (showN r)).map Nd.at) wr ∧ wr.heap[B]? = some (.cells #[.int .i64 r, .int .i64 (cn : Int)] 24)) (fun x _ => nv - (intOf x).toNat)
 case atStart => exact ⟨0, rfl, Nat.zero_le _, by simpa using HI1.out, HBX.out⟩
 case round =>
   clear HI1 HBX
   obtain ⟨k, rfl, hk, hI, hbx⟩ := hrel
   have HI : Hid (I (fun k => k = B) (qs0 ++ ((L.take k).filter (showN r)).map Nd.at) wr) := hI
   have HBX : Hid (wr.heap[B]? = some (.cells #[.int .i64 r, .int .i64 (cn : Int)] 24)) := hbx
   have wk := wrapI k (by have := HL.out.2.2.1; omega)
   rcases Nat.lt_or_ge k nv with hlt | hge
   · have hltI : (k : Int) < (nv : Int) := by omega
     obtain ⟨s, hs⟩ : ∃ s, L[k]? = some s := ⟨_, List.getElem?_eq_getElem (by rw [HL.out.2.1]; exact hlt)⟩
     have E0 := HJ.out.e _ _ _ hI
     obtain ⟨sb, so, rfl, _, d1, d2, d3, d4⟩ := Rd4.cell (HRD.out wr E0) hs rfl
     have HK : Hid (L[k]? = some s) := hs
     have b1 : (wr.alloc (.cells #[.int .i64 s.f, .int .i64 s.t, .int .i64 s.r, .int .i64 s.c] 74)).cell? ⟨B, 0, none⟩ = some (.int .i64 r) := (((Ext.refl wr).alloc _).cell.1 B 0 (heap_lt hbx)).trans ((cell_of_row wr _ 0 _ _ _ hbx).trans rfl)
     have hEA : I (fun k => k = B) (qs0 ++ ((L.take k).filter (showN r)).map Nd.at) (wr.alloc (.cells #[.int .i64 s.f, .int .i64 s.t, .int .i64 s.r, .int .i64 s.c] 74)) := HJ.out.a _ _ _ _ _ hI ((Ext.refl _).alloc _) (fun _ h => .inl h)
     have HEA : Hid _ := hEA
     have HBA : Hid ((wr.alloc (.cells #[.int .i64 s.f, .int .i64 s.t, .int .i64 s.r, .int .i64 s.c] 74)).heap[B]? = some (.cells #[.int .i64 r, .int .i64 (cn : Int)] 24)) := (((Ext.refl wr).alloc _).block B (heap_lt hbx)).trans hbx
     have HNo : Hid (showN r s = false → (qs0 ++ ((L.take (k + 1)).filter (showN r)).map Nd.at) = (qs0 ++ ((L.take k).filter (showN r)).map Nd.at)) := fun hf => by
       rw [take_at HK.out, List.filter_append]
       simp [hf]
     have HYes : Hid (showN r s = true → (qs0 ++ ((L.take (k + 1)).filter (showN r)).map Nd.at) = (qs0 ++ ((L.take k).filter (showN r)).map Nd.at) ++ [(s.r, s.c)]) := fun hf => by
       rw [take_at HK.out, List.filter_append]
       simp [hf, Nd.at]
     have HSN : Hid (showN r s = (decide (s.f ≤ r) && decide (r < s.t))) := rfl
     clear hs hI hbx E0 hEA
     by_cases h1 : s.f ≤ r
     · by_cases h2 : r < s.t
       · have HY : Hid (showN r s = true) := by show showN r s = true; rw [HSN.out]; simp [h1, h2]
         have cS := HJ.out.s _ _ s.r s.c _ (by
           have h3 := List.length_filter_le (showN r) (L.take k)
           have h4 := HL.out
           simp only [List.length_append, List.length_map, List.length_take] at h3 ⊢
           omega) (HL.out.2.2.2.2 s (List.mem_of_getElem? HK.out)) HEA.out
         go_wp2_with fail
         refine cS.mono ?_
         rintro e w5 ⟨rfl, I5, K5⟩
         have H5 : Hid (I (fun k => k = B) (qs0 ++ ((L.take (k + 1)).filter (showN r)).map Nd.at) w5 ∧ w5.heap[B]? = some (.cells #[.int .i64 r, .int .i64 (cn : Int)] 24)) := ⟨by rw [HYes.out HY.out]; exact I5, (K5 B rfl (heap_lt HBA.out)).trans HBA.out⟩
         clear I5 K5 cS d1 d2 d3 d4 b1
         go_wp2_with fail
         go_roundw
         case rel => exact ⟨k + 1, by rw [wk], hlt, H5.out.1, H5.out.2⟩
         case measure => rw [wk]; simp [intOf]; omega
       · have HF : Hid (showN r s = false) := by show showN r s = false; rw [HSN.out]; simp [h2]
         go_wp2_with fail
         go_roundw
         case rel => exact ⟨k + 1, by rw [wk], hlt, by rw [HNo.out HF.out]; exact HEA.out, HBA.out⟩
         case measure => rw [wk]; simp [intOf]; omega
     · have HF : Hid (showN r s = false) := by show showN r s = false; rw [HSN.out]; simp [h1]
       go_wp2_with fail
       go_roundw
       case rel => exact ⟨k + 1, by rw [wk], hlt, by rw [HNo.out HF.out]; exact HEA.out, HBA.out⟩
       case measure => rw [wk]; simp [intOf]; omega
   · have hltI : ¬ (k : Int) < (nv : Int) := by omega
     have HQ : Hid (I (fun _ => False) (qs0 ++ eachS σ (r, (cn : Int))) wr) := by
       rw [show eachS σ (r, (cn : Int)) = _ from HE.out]
       have := hI
       rw [List.take_of_length_le (by rw [HL.out.2.1]; exact hge)] at this
       exact HJ.out.a _ _ _ _ _ this (Ext.refl _) (fun _ h => h.elim)
     clear hI hbx
     go_wp2_with fail
     refine bodyPost_ret (v := .tuple #[]) (by simp [results, Try.results26, go_sem]) rfl ?_
     exact ⟨rfl, HQ.out⟩
set_option maxRecDepth 100000 in
/-- Who is shown. -/
theorem each2_in (W0 w : World) (base b n : Nat) (g : Option Nat) (vs : List Value) (σ : Sg) (h : Dps W0 base b g n vs σ) (hn : n ≤ 1000) (K : Nat) (q1 q2 : Nat) (I : (Nat → Prop) → List Pl → World → Prop) (hJ : ShowI W0 K #[.pointer (some ⟨q1, 0, none⟩), .pointer (some ⟨q2, 0, none⟩)] I) (qs0 : List Pl) (h0 : I (fun _ => False) qs0 w) (hq0 : qs0.length ≤ 1000) (r : Int) (cn : Nat) (hp : pin (r, (cn : Int)) = true) :
   Calls Try.prog 26 #[.pointer (some ⟨b, 0, none⟩), .agg #[.int .i64 r, .int .i64 (cn : Int)], .func (.func K) #[] #[.pointer (some ⟨q1, 0, none⟩), .pointer (some ⟨q2, 0, none⟩)]] w (EaQ I (qs0 ++ eachS σ (r, (cn : Int)))) := by
 have c1 := fun W => in_any r (cn : Int) W
 rw [show inB r (cn : Int) = true from hp] at c1
 have hb := pin_bd hp
 have hcn : cn < 53 := by have := hb.2.2.2; simp at this; omega
 have hcnI : (cn : Int) < 53 := by omega
 obtain ⟨v, hv⟩ : ∃ v, vs[cn]? = some v := ⟨_, List.getElem?_eq_getElem (by rw [h.cols.len]; exact hcn)⟩
 obtain ⟨pv, cv, rfl, _⟩ := own_form (h.cols.row cn v hv)
 have hrow := h.cols.row cn _ hv
 obtain ⟨L, hL⟩ : ∃ L, colS σ (cn : Int) = L := ⟨_, rfl⟩
 obtain ⟨nv, hnv⟩ : ∃ nv, L.length = nv := ⟨_, rfl⟩
 simp only [hL, hnv] at hv hrow
 have HL : Hid (colS σ (cn : Int) = L ∧ L.length = nv ∧ nv ≤ 200000 ∧ qs0.length ≤ 1000 ∧ ∀ s ∈ L, pin (s.r, s.c) = true) := ⟨hL, hnv, by
   have h1 := col_len (nice σ) (m := 20) h.few (cn : Int)
   have h2 := h.n
   rw [hL, hnv] at h1
   omega, hq0, fun s hs => col_pin h.ok (by rw [hL]; exact hs)⟩
 have E0 := hJ.e _ _ _ h0
 have HRD : Hid (∀ V, Ext W0 V → RdN V (.slice pv nv cv) L) := fun V e => own_rdG cN_len (ownsRow_ext hrow e) hnv.symm
 have HJ : Hid (ShowI W0 K #[.pointer (some ⟨q1, 0, none⟩), .pointer (some ⟨q2, 0, none⟩)] I) := hJ
 have HI1 : Hid (I (fun k => k = w.heap.size) qs0 ((w.alloc (.cells #[.int .i64 r, .int .i64 (cn : Int)] 24)).drew)) := hJ.a _ _ _ _ _ h0 ((Ext.refl _).alloc _).drew (fun k hk => .inr (by rw [hk]; exact ⟨Nat.le_refl _, heap_lt (top_heap w _)⟩))
 have mkS : Hid (∀ V, Ext (w.alloc (.cells #[.int .i64 r, .int .i64 (cn : Int)] 24)) V → (fun V => V.cell? ⟨w.heap.size, 0, none⟩ = some (.int .i64 r) ∧ V.cell? ⟨w.heap.size, 1, none⟩ = some (.int .i64 (cn : Int)) ∧ V.cell? ⟨b, 1 + cn, none⟩ = some (.slice pv nv cv)) V) := fun V e => by
   obtain ⟨q1, q2⟩ := box2 e
   exact ⟨q1, q2, (h.cols.ext (E0.trans (((Ext.refl w).alloc _).trans e))).cell hv⟩
 have hbx : ((w.alloc (.cells #[.int .i64 r, .int .i64 (cn : Int)] 24)).drew).heap[w.heap.size]? = some (.cells #[.int .i64 r, .int .i64 (cn : Int)] 24) := top_heap w _
 have HBX : Hid _ := hbx
 have eg := hJ.eg
 have HE : Hid (eachS σ (r, (cn : Int)) = (L.filter (showN r)).map Nd.at) := by
   show _ = _
   unfold eachS
   rw [if_pos hp, hL]
 clear h hv hrow hL hnv E0 h0 hp hJ hbx hq0 hn
 go_enter Try.func26, Try.ntmps26
 go_wp2_with fail
 refine (c1 _).mono ?_
 rintro e w1 ⟨rfl, rfl⟩
 go_upto_region 2 with fail
 refine wp_region_held_drew (S := (fun V => V.cell? ⟨w.heap.size, 0, none⟩ = some (.int .i64 r) ∧ V.cell? ⟨w.heap.size, 1, none⟩ = some (.int .i64 (cn : Int)) ∧ V.cell? ⟨b, 1 + cn, none⟩ = some (.slice pv nv cv))) (by kernel_rfl) ?_ (fun hHeld0 => ?_)
 · (refine mkS.out _ ?_; ((with_reducible (repeat (first | assumption | exact Ext.refl _ | apply Ext.drew | apply Ext.drewN | apply Ext.alloc))); done))
 refine wpAnyH_take (i := 0) (oi := ⟨some 14, .move (.tmp 0), 25, "deps.go:116", #[], none⟩) (v := ?_) rfl (by kernel_rfl) (by kernel_rfl) (by kernel_rfl) (fun _ _ _ h => h) (Or.inl ⟨by rfl, ?_⟩) (by assumption) ?_
 rotate_left
 · intro w hSw; (try dsimp only at hSw); first | (go_simp; done) | (go_simp; with_reducible rfl)
 try go_frame
 refine wpAnyH_take (i := 1) (oi := ⟨some 15, .fieldAddr 24 (.tmp 4) 1, 0, "deps.go:116", #[], none⟩) (v := ?_) rfl (by kernel_rfl) (by kernel_rfl) (by kernel_rfl) (fun _ _ _ h => h) (Or.inl ⟨by rfl, ?_⟩) (by assumption) ?_
 rotate_left
 · intro w hSw; (try dsimp only at hSw); first | (go_simp; done) | (go_simp; with_reducible rfl)
 try go_frame
 refine wpAnyH_take (i := 2) (oi := ⟨some 16, .load 3 (.tmp 15), 3, "deps.go:116", #[⟨1, .data⟩], none⟩) (v := ?_) rfl (by kernel_rfl) (by kernel_rfl) (by kernel_rfl) (fun _ _ _ h => h) (Or.inl ⟨by rfl, ?_⟩) (by assumption) ?_
 rotate_left
 · intro w hSw; (try dsimp only at hSw); first | (go_simp; done) | (go_simp; with_reducible rfl)
 try go_frame
 refine wpAnyH_take (i := 3) (oi := ⟨some 17, .nilCheck (.tmp 14), 0, "deps.go:116", #[⟨0, .data⟩], none⟩) (v := ?_) rfl (by kernel_rfl) (by kernel_rfl) (by kernel_rfl) (fun _ _ _ h => h) (Or.inl ⟨by rfl, ?_⟩) (by assumption) ?_
 rotate_left
 · intro w hSw; (try dsimp only at hSw); first | (go_simp; done) | (go_simp; with_reducible rfl)
 try go_frame
 refine wpAnyH_take (i := 4) (oi := ⟨some 18, .fieldAddr 58 (.tmp 17) 1, 0, "deps.go:116", #[⟨3, .data⟩], none⟩) (v := ?_) rfl (by kernel_rfl) (by kernel_rfl) (by kernel_rfl) (fun _ _ _ h => h) (Or.inl ⟨by rfl, ?_⟩) (by assumption) ?_
 rotate_left
 · intro w hSw; (try dsimp only at hSw); first | (go_simp; done) | (go_simp; with_reducible rfl)
 try go_frame
 refine wpAnyH_take (i := 5) (oi := ⟨some 19, .indexAddr 56 (.tmp 18) (.tmp 16), 0, "deps.go:116", #[⟨4, .data⟩, ⟨2, .data⟩], none⟩) (v := ?_) rfl (by kernel_rfl) (by kernel_rfl) (by kernel_rfl) (fun _ _ _ h => h) (Or.inl ⟨by rfl, ?_⟩) (by assumption) ?_
 rotate_left
 · intro w hSw; (try dsimp only at hSw); first | (go_simp; done) | (go_simp; with_reducible rfl)
 try go_frame
 refine wpAnyH_take (i := 6) (oi := ⟨some 20, .load 55 (.tmp 19), 55, "deps.go:116", #[⟨5, .data⟩], none⟩) (v := ?_) rfl (by kernel_rfl) (by kernel_rfl) (by kernel_rfl) (fun _ _ _ h => h) (Or.inl ⟨by rfl, ?_⟩) (by assumption) ?_
 rotate_left
 · intro w hSw; (try dsimp only at hSw); first | (go_simp; done) | (go_simp; with_reducible rfl)
 try go_frame
 refine wpAnyH_take (i := 7) (oi := ⟨some 21, .call { callee := .builtin .len, args := #[.tmp 20], argTypes := #[55] }, 3, "deps.go:116", #[⟨6, .data⟩], none⟩) (v := ?_) rfl (by kernel_rfl) (by kernel_rfl) (by kernel_rfl) (fun _ _ _ h => h) (Or.inl ⟨by rfl, ?_⟩) (by assumption) ?_
 rotate_left
 · intro w hSw; (try dsimp only at hSw); first | (go_simp; done) | (go_simp; with_reducible rfl)
 try go_frame
 refine wpAnyH_take (i := 8) (oi := ⟨some 22, .move (.const (.int .i64 0)), 3, "deps.go:116", #[], none⟩) (v := ?_) rfl (by kernel_rfl) (by kernel_rfl) (by kernel_rfl) (fun _ _ _ h => h) (Or.inl ⟨by rfl, ?_⟩) (by assumption) ?_
 rotate_left
 · intro w hSw; (try dsimp only at hSw); first | (go_simp; done) | (go_simp; with_reducible rfl)
 try go_frame
 refine wpAnyH_done (by kernel_rfl) ?_ _
 clear mkS c1
 generalize ((w.alloc (.cells #[.int .i64 r, .int .i64 (cn : Int)] 24)).drew) = w1 at *
 generalize w.heap.size = B at *
 go_wp2_with fail
 go_loopw [22] (fun x wr => ∃ k : Nat, x = .int .i64 (k : Int) ∧ k ≤ nv ∧ I (fun k => k = B) (qs0 ++ ((L.take k).filter (showN r)).map Nd.at) wr ∧ wr.heap[B]? = some (.cells #[.int .i64 r, .int .i64 (cn : Int)] 24)) (fun x _ => nv - (intOf x).toNat)
 case atStart => exact ⟨0, rfl, Nat.zero_le _, by simpa using HI1.out, HBX.out⟩
 case round =>
   clear HI1 HBX
   obtain ⟨k, rfl, hk, hI, hbx⟩ := hrel
   have HI : Hid (I (fun k => k = B) (qs0 ++ ((L.take k).filter (showN r)).map Nd.at) wr) := hI
   have HBX : Hid (wr.heap[B]? = some (.cells #[.int .i64 r, .int .i64 (cn : Int)] 24)) := hbx
   have wk := wrapI k (by have := HL.out.2.2.1; omega)
   rcases Nat.lt_or_ge k nv with hlt | hge
   · have hltI : (k : Int) < (nv : Int) := by omega
     obtain ⟨s, hs⟩ : ∃ s, L[k]? = some s := ⟨_, List.getElem?_eq_getElem (by rw [HL.out.2.1]; exact hlt)⟩
     have E0 := HJ.out.e _ _ _ hI
     obtain ⟨sb, so, rfl, _, d1, d2, d3, d4⟩ := Rd4.cell (HRD.out wr E0) hs rfl
     have HK : Hid (L[k]? = some s) := hs
     have b1 : (wr.alloc (.cells #[.int .i64 s.f, .int .i64 s.t, .int .i64 s.r, .int .i64 s.c] 74)).cell? ⟨B, 0, none⟩ = some (.int .i64 r) := (((Ext.refl wr).alloc _).cell.1 B 0 (heap_lt hbx)).trans ((cell_of_row wr _ 0 _ _ _ hbx).trans rfl)
     have hEA : I (fun k => k = B) (qs0 ++ ((L.take k).filter (showN r)).map Nd.at) (wr.alloc (.cells #[.int .i64 s.f, .int .i64 s.t, .int .i64 s.r, .int .i64 s.c] 74)) := HJ.out.a _ _ _ _ _ hI ((Ext.refl _).alloc _) (fun _ h => .inl h)
     have HEA : Hid _ := hEA
     have HBA : Hid ((wr.alloc (.cells #[.int .i64 s.f, .int .i64 s.t, .int .i64 s.r, .int .i64 s.c] 74)).heap[B]? = some (.cells #[.int .i64 r, .int .i64 (cn : Int)] 24)) := (((Ext.refl wr).alloc _).block B (heap_lt hbx)).trans hbx
     have HNo : Hid (showN r s = false → (qs0 ++ ((L.take (k + 1)).filter (showN r)).map Nd.at) = (qs0 ++ ((L.take k).filter (showN r)).map Nd.at)) := fun hf => by
       rw [take_at HK.out, List.filter_append]
       simp [hf]
     have HYes : Hid (showN r s = true → (qs0 ++ ((L.take (k + 1)).filter (showN r)).map Nd.at) = (qs0 ++ ((L.take k).filter (showN r)).map Nd.at) ++ [(s.r, s.c)]) := fun hf => by
       rw [take_at HK.out, List.filter_append]
       simp [hf, Nd.at]
     have HSN : Hid (showN r s = (decide (s.f ≤ r) && decide (r < s.t))) := rfl
     clear hs hI hbx E0 hEA
     by_cases h1 : s.f ≤ r
     · by_cases h2 : r < s.t
       · have HY : Hid (showN r s = true) := by show showN r s = true; rw [HSN.out]; simp [h1, h2]
         have cS := HJ.out.s _ _ s.r s.c _ (by
           have h3 := List.length_filter_le (showN r) (L.take k)
           have h4 := HL.out
           simp only [List.length_append, List.length_map, List.length_take] at h3 ⊢
           omega) (HL.out.2.2.2.2 s (List.mem_of_getElem? HK.out)) HEA.out
         go_wp2_with fail
         refine cS.mono ?_
         rintro e w5 ⟨rfl, I5, K5⟩
         have H5 : Hid (I (fun k => k = B) (qs0 ++ ((L.take (k + 1)).filter (showN r)).map Nd.at) w5 ∧ w5.heap[B]? = some (.cells #[.int .i64 r, .int .i64 (cn : Int)] 24)) := ⟨by rw [HYes.out HY.out]; exact I5, (K5 B rfl (heap_lt HBA.out)).trans HBA.out⟩
         clear I5 K5 cS d1 d2 d3 d4 b1
         go_wp2_with fail
         go_roundw
         case rel => exact ⟨k + 1, by rw [wk], hlt, H5.out.1, H5.out.2⟩
         case measure => rw [wk]; simp [intOf]; omega
       · have HF : Hid (showN r s = false) := by show showN r s = false; rw [HSN.out]; simp [h2]
         go_wp2_with fail
         go_roundw
         case rel => exact ⟨k + 1, by rw [wk], hlt, by rw [HNo.out HF.out]; exact HEA.out, HBA.out⟩
         case measure => rw [wk]; simp [intOf]; omega
     · have HF : Hid (showN r s = false) := by show showN r s = false; rw [HSN.out]; simp [h1]
       go_wp2_with fail
       go_roundw
       case rel => exact ⟨k + 1, by rw [wk], hlt, by rw [HNo.out HF.out]; exact HEA.out, HBA.out⟩
       case measure => rw [wk]; simp [intOf]; omega
   · have hltI : ¬ (k : Int) < (nv : Int) := by omega
     have HQ : Hid (I (fun _ => False) (qs0 ++ eachS σ (r, (cn : Int))) wr) := by
       rw [show eachS σ (r, (cn : Int)) = _ from HE.out]
       have := hI
       rw [List.take_of_length_le (by rw [HL.out.2.1]; exact hge)] at this
       exact HJ.out.a _ _ _ _ _ this (Ext.refl _) (fun _ h => h.elim)
     clear hI hbx
     go_wp2_with fail
     refine bodyPost_ret (v := .tuple #[]) (by simp [results, Try.results26, go_sem]) rfl ?_
     exact ⟨rfl, HQ.out⟩
theorem each1_any (W0 w : World) (base b n : Nat) (g : Option Nat) (vs : List Value) (σ : Sg) (h : Dps W0 base b g n vs σ) (hn : n ≤ 1000) (K : Nat) (q1 : Nat) (I : (Nat → Prop) → List Pl → World → Prop) (hJ : ShowI W0 K #[.pointer (some ⟨q1, 0, none⟩)] I) (qs0 : List Pl) (h0 : I (fun _ => False) qs0 w) (hq0 : qs0.length ≤ 1000) (r c : Int) :
   Calls Try.prog 26 #[.pointer (some ⟨b, 0, none⟩), .agg #[.int .i64 r, .int .i64 c], .func (.func K) #[] #[.pointer (some ⟨q1, 0, none⟩)]] w (EaQ I (qs0 ++ eachS σ (r, c))) := by
 cases hp : pin (r, c)
 · have c1 := fun W => in_any r c W
   rw [show inB r c = false from hp] at c1
   have HQ : Hid (EaQ I (qs0 ++ eachS σ (r, c)) (.returned (.tuple #[])) (w.alloc (.cells #[.int .i64 r, .int .i64 c] 24))) := by
     refine ⟨rfl, ?_⟩
     rw [show eachS σ (r, c) = [] by unfold eachS; rw [if_neg (by rw [hp]; simp)], List.append_nil]
     exact hJ.a _ _ _ _ _ h0 ((Ext.refl _).alloc _) (fun _ h => h.elim)
   clear h hJ h0 hp
   go_enter Try.func26, Try.ntmps26
   go_wp2_with fail
   refine (c1 _).mono ?_
   rintro e w1 ⟨rfl, rfl⟩
   go_wp2_with fail
   refine bodyPost_ret (v := .tuple #[]) (by simp [results, Try.results26, go_sem]) rfl ?_
   exact HQ.out
 · have hb := pin_bd hp
   obtain ⟨cn, rfl⟩ : ∃ cn : Nat, c = (cn : Int) := ⟨c.toNat, by simp at hb; omega⟩
   exact each1_in W0 w base b n g vs σ h hn K q1 I hJ qs0 h0 hq0 r cn hp
theorem each2_any (W0 w : World) (base b n : Nat) (g : Option Nat) (vs : List Value) (σ : Sg) (h : Dps W0 base b g n vs σ) (hn : n ≤ 1000) (K : Nat) (q1 q2 : Nat) (I : (Nat → Prop) → List Pl → World → Prop) (hJ : ShowI W0 K #[.pointer (some ⟨q1, 0, none⟩), .pointer (some ⟨q2, 0, none⟩)] I) (qs0 : List Pl) (h0 : I (fun _ => False) qs0 w) (hq0 : qs0.length ≤ 1000) (r c : Int) :
   Calls Try.prog 26 #[.pointer (some ⟨b, 0, none⟩), .agg #[.int .i64 r, .int .i64 c], .func (.func K) #[] #[.pointer (some ⟨q1, 0, none⟩), .pointer (some ⟨q2, 0, none⟩)]] w (EaQ I (qs0 ++ eachS σ (r, c))) := by
 cases hp : pin (r, c)
 · have c1 := fun W => in_any r c W
   rw [show inB r c = false from hp] at c1
   have HQ : Hid (EaQ I (qs0 ++ eachS σ (r, c)) (.returned (.tuple #[])) (w.alloc (.cells #[.int .i64 r, .int .i64 c] 24))) := by
     refine ⟨rfl, ?_⟩
     rw [show eachS σ (r, c) = [] by unfold eachS; rw [if_neg (by rw [hp]; simp)], List.append_nil]
     exact hJ.a _ _ _ _ _ h0 ((Ext.refl _).alloc _) (fun _ h => h.elim)
   clear h hJ h0 hp
   go_enter Try.func26, Try.ntmps26
   go_wp2_with fail
   refine (c1 _).mono ?_
   rintro e w1 ⟨rfl, rfl⟩
   go_wp2_with fail
   refine bodyPost_ret (v := .tuple #[]) (by simp [results, Try.results26, go_sem]) rfl ?_
   exact HQ.out
 · have hb := pin_bd hp
   obtain ⟨cn, rfl⟩ : ∃ cn : Nat, c = (cn : Int) := ⟨c.toNat, by simp at hb; omega⟩
   exact each2_in W0 w base b n g vs σ h hn K q1 q2 I hJ qs0 h0 hq0 r cn hp

open Go.RowKit Go.Sort
set_option maxHeartbeats 1000000

def cmpP (x y : Pl) : Int := if Lib.compareInt x.1 y.1 ≠ 0 then Lib.compareInt x.1 y.1 else Lib.compareInt x.2 y.2
set_option maxRecDepth 100000 in
theorem cmpor_any (a b : Int) (g : Nat) (W : World) (h0 : W.cell? ⟨g, 0, none⟩ = some (.int .i64 a)) (h1 : W.cell? ⟨g, 1, none⟩ = some (.int .i64 b)) : Calls Try.prog 42 #[.slice (some ⟨g, 0, none⟩) 2 2] W fun e w' => e = .returned (.int .i64 (if a ≠ 0 then a else b)) ∧ w' = W := by
 go_enter Try.func42, Try.ntmps42
 go_wp2_with fail
 go_loopw [8] (fun iv wr => ∃ i : Nat, iv = .int .i64 (i : Int) ∧ i ≤ 2 ∧ (1 ≤ i → a = 0) ∧ (2 ≤ i → b = 0) ∧ wr = W) (fun iv _ => 2 - (intOf iv).toNat)
 case atStart => exact ⟨0, rfl, by omega, by omega, by omega, rfl⟩
 case round =>
   obtain ⟨i, rfl, hi, ha, hb, rfl⟩ := hrel
   match i, hi with
   | 0, _ =>
     by_cases hz : a = 0
     · have z0 : (a != 0) = false := by simpa using hz
       go_wp2_with fail
       go_roundw
       case rel => exact ⟨1, rfl, by omega, fun _ => hz, by omega, by first | rfl | trivial⟩
       case measure => exact (by show 2 - (1 : Int).toNat < 2 - (0 : Int).toNat; decide)
     · have z0 : (a != 0) = true := by simpa using hz
       go_wp2_with fail
       go_ret
       exact ⟨rfl, rfl⟩
   | 1, _ =>
     have hz := ha (by omega)
     by_cases hy : b = 0
     · have y0 : (b != 0) = false := by simpa using hy
       go_wp2_with fail
       go_roundw
       case rel => exact ⟨2, rfl, by omega, fun _ => hz, fun _ => hy, by first | rfl | trivial⟩
       case measure => exact (by show 2 - (2 : Int).toNat < 2 - (1 : Int).toNat; decide)
     · have y0 : (b != 0) = true := by simpa using hy
       go_wp2_with fail
       go_ret
       exact ⟨rfl, rfl⟩
   | 2, _ =>
     have hz := ha (by omega)
     have hy := hb (by omega)
     go_wp2_with fail
     go_ret
     exact ⟨rfl, rfl⟩
theorem lt_cmpP (x y : Pl) : ltOf cmpP x y = decide (x.1 < y.1 ∨ x.1 = y.1 ∧ x.2 < y.2) := by
 unfold ltOf cmpP Lib.compareInt
 by_cases h1 : x.1 < y.1
 · simp [h1]
 · by_cases h2 : y.1 < x.1
   · have : ¬ x.1 = y.1 := by omega
     simp [h1, h2, this]
   · have h3 : x.1 = y.1 := by omega
     by_cases h4 : x.2 < y.2
     · simp [h3, h4]
     · by_cases h5 : y.2 < x.2 <;> simp [h3, h4, h5]
theorem swo_cmpP : SWO (ltOf cmpP) where
 irrefl x := by rw [lt_cmpP]; simp
 trans x y z h1 h2 := by rw [lt_cmpP] at *; simp at *; omega
 ntrans x y z h1 h2 := by rw [lt_cmpP] at *; simp at *; omega
end Go.Proofs.Ytjpiphnbadggoaa

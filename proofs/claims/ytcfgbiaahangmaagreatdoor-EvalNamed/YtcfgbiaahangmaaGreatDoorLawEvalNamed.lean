/-
 EvalNamed is proved: for every tree and every two lists of values the call returns true and the arguments read as they did. Its condition: the listed tables lie as the program text lays them (the card ties them).
-/
import Derived.Test.YtcfgbiaahangmaaGreatDoorN35
import Derived.Test.YtcfgbiaahangmaaGreatDoorCards
import Derived.Test.YtcfgbiaahangmaaGreatDoorTie
import Derived.ChangeMaps5
import Derived.SizedLaws
set_option maxHeartbeats 1000000
set_option maxRecDepth 100000
namespace Go.Proofs.YtcfgbiaahangmaaGreatDoor.evalNamed
open Go.Proofs.Tryz
open Go.ChangeShapes Go.WideShapes Go.ChangeAt Go.RowKit
open Go.ChangeMaps (open_string shut_string)
open Go.Joins
def hasQ (qs : List Rq) (r c : Int) : Bool := qs.any (fun q => inQ q r c)
theorem hasQ_take {qs : List Rq} {k : Nat} {q : Rq} (h : qs[k]? = some q) (r c : Int) : hasQ (qs.take (k + 1)) r c = (hasQ (qs.take k) r c || inQ q r c) := by
 unfold hasQ
 rw [List.take_add_one, h, List.any_append]
 simp
structure NmI (w1 : World) (gq : Nat) (rs : List Rq) (M N2 : Bov) (g2 : Option Nat) (n : Nat) (wr : World) : Prop where
 e : Ext w1 wr
 br : Brd wr w1.heap.size g2 n N2
 gl : ∀ k, g2 = some k → w1.heap.size ≤ k
 lik : Lik rs M N2
 rq : gq < wr.heap.size ∧ ∀ j u, (flatR rs)[j]? = some u → wr.cell? ⟨gq, j, none⟩ = some u
theorem NmI.ext {w1 wr w' : World} {gq n : Nat} {rs : List Rq} {M N2 : Bov} {g2 : Option Nat} (h : NmI w1 gq rs M N2 g2 n wr) (e : Ext wr w') : NmI w1 gq rs M N2 g2 n w' :=
 ⟨h.e.trans e, h.br.ext e, h.gl, h.lik, llL h.rq.1 e.size, fun j u hj => (e.cell.1 gq j h.rq.1).trans (h.rq.2 j u hj)⟩
theorem NmI.put {w1 wr w' : World} {gq n : Nat} {rs : List Rq} {M N2 : Bov} {g2 g' : Option Nat} {r c : Int} {v : V} (h : NmI w1 gq rs M N2 g2 n wr) (hB : Brd w' w1.heap.size g' (n + 1) (bset N2 r c v)) (hg : g' = g2 ∨ (g2 = none ∧ ∃ q, g' = some q ∧ wr.heap.size ≤ q)) (e : ExtS (fun k => k = w1.heap.size ∨ g2 = some k) wr w') (hn : hasQ rs r c = false) : NmI w1 gq rs M (bset N2 r c v) g' (n + 1) w' := by
 have hS : ∀ k, (k = w1.heap.size ∨ g2 = some k) → w1.heap.size ≤ k := fun k hk => by
   rcases hk with rfl | hk
   · exact Nat.le_refl _
   · exact h.gl k hk
 refine ⟨e.ext h.e hS, hB, fun k hk => ?_, ?_, llL h.rq.1 e.size, fun j u hj => ?_⟩
 · exact K135
 · intro q hq r' c' hin
   rw [h.lik q hq r' c' hin]
   unfold bset
   split
   · unfold bput
     split
     · rename_i he
       obtain ⟨rfl, rfl⟩ := he
       unfold hasQ at hn
       rw [List.any_eq_false] at hn
       exact absurd hin (hn q hq)
     · rfl
   · rfl
 · have hc := h.rq.2 j u hj
   rw [(cell_of_heap (e.block gq h.rq.1 (fun hs => ?_)) j).1]
   · exact hc
   · rcases hs with hs | hs
     · obtain ⟨x, hx⟩ : ∃ x, rs[0]? = some x := by
         cases rs with
         | nil => simp [flatR] at hj
         | cons x l => exact ⟨x, rfl⟩
       have h0 := h.rq.2 _ _ (flatR_at rs 0 0 x _ hx rfl)
       rw [hs, Nat.zero_mul, Nat.zero_add, h.br.cell] at h0
       cases h0
     · exact h.br.notMap hc hs
theorem own_of {n : Nat} {t : T} (h : Hr n t) (W : World) (pp : Option Addr) (ln cl : Nat) (hI : IsL W (fun _ => True) (.slice pp ln cl) t.l) : Calls Tryz.prog 15 #[.agg #[.int .i64 t.k, .int .i64 t.n, .string (bs t.s), .int .i64 t.e, .int .i64 t.r.1, .int .i64 t.r.2.1, .bool t.r.2.2.1, .bool t.r.2.2.2, .int .i64 t.q.1, .int .i64 t.q.2.1, .bool t.q.2.2.1, .bool t.q.2.2.2, .slice pp ln cl]] W fun e w' => ∃ p1 n1 c1, e = .returned (.agg #[.int .i64 t.k, .int .i64 t.n, .string (bs t.s), .int .i64 t.e, .int .i64 t.r.1, .int .i64 t.r.2.1, .bool t.r.2.2.1, .bool t.r.2.2.2, .int .i64 t.q.1, .int .i64 t.q.2.1, .bool t.q.2.2.1, .bool t.q.2.2.2, .slice p1 n1 c1]) ∧ IsL w' (fun _ => True) (.slice p1 n1 c1) t.l ∧ Ext W w' := by
 refine (own_any n t h W _ pp ln cl hI).mono ?_
 rintro e w' ⟨lv, rfl, hL, hE⟩
 obtain ⟨p1, c1, rfl, _⟩ := hL.form
 exact ⟨p1, _, c1, rfl, hL.mono (fun _ _ _ => trivial), hE⟩
theorem walk (T0 : T) (pp0 : Option Addr) (ln0 cl0 : Nat) (l1 : List Kn) (pp1 : Option Addr) (ln1 cl1 : Nat) (l2 : List Kn) (pp2 : Option Addr) (ln2 cl2 : Nat) (w : World) (wT0 : Wf T0) (hLI0 : IsL w (fun _ => True) (.slice pp0 ln0 cl0) T0.l) (rd1 : RdKn w (.slice pp1 ln1 cl1) l1) (ki1 : KnI l1) (rd2 : RdKn w (.slice pp2 ln2 cl2) l2) (ki2 : KnI l2) (hN : Nm w) (hT : Tab w) :
   Calls Tryz.prog 5 #[.agg #[.int .i64 T0.k, .int .i64 T0.n, .string (bs T0.s), .int .i64 T0.e, .int .i64 T0.r.1, .int .i64 T0.r.2.1, .bool T0.r.2.2.1, .bool T0.r.2.2.2, .int .i64 T0.q.1, .int .i64 T0.q.2.1, .bool T0.q.2.2.1, .bool T0.q.2.2.2, .slice pp0 ln0 cl0], .slice pp1 ln1 cl1, .slice pp2 ln2 cl2] w fun e w' => e = .returned (.bool true) ∧ Ext w w' := by
 have cB := fun V (e : Ext w V) => boards_any V l1 pp1 ln1 cl1 (rd1.ext e) ki1 (hN.ext e)
 have cV := fun V (e : Ext w V) => lives15_any V (hN.ext e) (hT.ext e)
 have cS := fun V (e : Ext w V) => small15_any V T0 pp0 ln0 cl0 (hLI0.ext e)
 have hn2 := rd2.len
 have HN : Hid (Nm w ∧ Tab w ∧ Wf T0 ∧ IsL w (fun _ => True) (.slice pp0 ln0 cl0) T0.l ∧ RdKn w (.slice pp2 ln2 cl2) l2 ∧ KnI l2 ∧ ln2 = l2.length) := ⟨hN, hT, wT0, hLI0, rd2, ki2, hn2⟩
 clear rd1 ki1 rd2 ki2 hN hT wT0 hLI0 hn2
 obtain ⟨W0, hW0⟩ : ∃ W0, W0 = w.alloc (.cells #[.int .i64 T0.k, .int .i64 T0.n, .string (bs T0.s), .int .i64 T0.e, .int .i64 T0.r.1, .int .i64 T0.r.2.1, .bool T0.r.2.2.1, .bool T0.r.2.2.2, .int .i64 T0.q.1, .int .i64 T0.q.2.1, .bool T0.q.2.2.1, .bool T0.q.2.2.2, .slice pp0 ln0 cl0] 43) := ⟨_, rfl⟩
 have H0 : Hid (Ext w W0 ∧ Blk13 W0 w.heap.size (.int .i64 T0.k) (.int .i64 T0.n) (.string (bs T0.s)) (.int .i64 T0.e) (.int .i64 T0.r.1) (.int .i64 T0.r.2.1) (.bool T0.r.2.2.1) (.bool T0.r.2.2.2) (.int .i64 T0.q.1) (.int .i64 T0.q.2.1) (.bool T0.q.2.2.1) (.bool T0.q.2.2.2) (.slice pp0 ln0 cl0)) := by rw [hW0]; exact ⟨xr.alloc _, blk13_top rfl xr⟩
 go_enter func5, ntmps5
 go_wp2_with fail
 rw [← hW0]
 clear hW0
 refine (cB _ H0.out.1).mono ?_
 rintro e w1 ⟨d, g, p, c, rfl, hB⟩
 have HB : Hid (BdI W0 W0.heap.size d g p c 200 (bM (l1.take 200)) (bL (l1.take 200)) w1) := hB
 clear hB
 go_wp2_with fail
 refine (cB _ (H0.out.1.trans HB.out.e)).mono ?_
 rintro e w2 ⟨d2, g2, p2, c2, rfl, hB2⟩
 have HC : Hid (BdI w1 w1.heap.size d2 g2 p2 c2 200 (bM (l1.take 200)) (bL (l1.take 200)) w2) := hB2
 clear hB2 cB
 generalize bM (l1.take 200) = M at HB HC
 generalize bL (l1.take 200) = LL at HB HC
 generalize W0.heap.size = BB at HB ⊢
 have HE1 : Hid (Ext w w1 ∧ Ext w w2) := ⟨H0.out.1.trans HB.out.e, (H0.out.1.trans HB.out.e).trans HC.out.e⟩
 obtain ⟨_, ⟨a0, a1, a2, a3, a4, a5, a6, a7, a8, a9, a10, a11, a12⟩, _⟩ := H0.out.2.ext (HB.out.e.trans HC.out.e)
 go_wp2_with fail
 refine (cS _ HE1.out.2).mono ?_
 rintro e w3 ⟨ok, rfl, E3, hok⟩
 have H3 : Hid (Ext w2 w3 ∧ Ext w w3 ∧ (ok = true → Hr 401 T0 ∧ szT 401 T0 ≤ 300)) := ⟨E3, HE1.out.2.trans E3, hok⟩
 clear E3 hok cS a0 a1 a2 a3 a4 a5 a6 a7 a8 a9 a10 a11 a12
 cases ok with
 | false =>
   go_wp2_with fail
   refine (cV _ H3.out.2.1).mono ?_
   rintro e w4 ⟨rfl, E4⟩
   have H4 : Hid (Ext w w4) := H3.out.2.1.trans E4
   clear E4
   go_wp2_with fail
   go_ret
   exact ⟨rfl, H4.out⟩
 | true =>
   obtain ⟨hH, hsz⟩ := H3.out.2.2 rfl
   have HH : Hid (Hr 401 T0) := hH
   have cR := fun V (e : Ext w V) => rrefs_any 401 T0 hH V _ pp0 ln0 cl0 (HN.out.2.2.2.1.ext e) (Nat.le_trans (refs_len 401 T0) J2)
   obtain ⟨_, ⟨a0, a1, a2, a3, a4, a5, a6, a7, a8, a9, a10, a11, a12⟩, _⟩ := H0.out.2.ext ((HB.out.e.trans HC.out.e).trans H3.out.1)
   have HRL : Hid ((refsT 401 T0).length ≤ 300) := Nat.le_trans (refs_len 401 T0) hsz
   obtain ⟨rs, hrs⟩ : ∃ rs, refsT 401 T0 = rs := ⟨_, rfl⟩
   rw [hrs] at cR HRL
   have HRS : Hid (refsT 401 T0 = rs) := hrs
   clear hH hsz hrs
   go_wp2_with fail
   refine (cR _ H3.out.2.1).mono ?_
   rintro e w4 ⟨gq, cq, rfl, hgq, hq4, E4⟩
   have HI4 : Hid (NmI w1 gq rs M M g2 200 w4) := ⟨(HC.out.e.trans H3.out.1).trans E4, (HC.out.br.ext H3.out.1).ext E4, HC.out.gl, fun _ _ _ _ _ => rfl, hgq, hq4⟩
   obtain ⟨nr, hnr⟩ : ∃ nr, rs.length = nr := ⟨_, rfl⟩
   rw [hnr]
   have HNR : Hid (rs.length = nr ∧ nr ≤ 300) := ⟨hnr, by rw [← hnr]; exact HRL.out⟩
   clear hgq hq4 E4 cR a0 a1 a2 a3 a4 a5 a6 a7 a8 a9 a10 a11 a12 hnr HRL
   go_wp2_with fail
   go_loopw [12] (fun iv wr => ∃ (i : Nat) (g2 : Option Nat) (N2 : Bov), iv = .int .i64 (i : Int) ∧ i ≤ ln2 ∧ i ≤ 200 ∧ NmI w1 gq rs M N2 g2 (200 + i) wr) (fun iv _ => 200 - (intOf iv).toNat)
   case atStart => exact ⟨0, _, _, rfl, Nat.zero_le _, Nat.zero_le _, HI4.out⟩
   case round =>
     clear HI4
     obtain ⟨i, g2, N2, rfl, hi, hi2, hS⟩ := hrel
     have HI0 : Hid (NmI w1 gq rs M N2 g2 (200 + i) wr) := hS
     clear hS
     by_cases hdo : i < ln2 ∧ i < 200
     · obtain ⟨hlt, h200⟩ := hdo
       have hltI : (i : Int) < (ln2 : Int) := J2
       have t1 : decide ((i : Int) < (ln2 : Int)) = true := J103
       have h200I : (i : Int) < 200 := J2
       obtain ⟨x, hx⟩ : ∃ x, l2[i]? = some x := ⟨_, gEq (by rw [← HN.out.2.2.2.2.2.2]; exact hlt)⟩
       have HX : Hid (l2[i]? = some x ∧ I64 x.r ∧ I64 x.c ∧ I64 x.v.n) := ⟨hx, HN.out.2.2.2.2.2.1 x (List.mem_of_getElem? hx)⟩
       obtain ⟨gb, off, rfl, hgb, c0, c1, c2', c3, c4, c5⟩ := HN.out.2.2.2.2.1.at hx
       have HK : Hid (∀ W2, Ext w W2 → (fun W2 => (W2.cell? ⟨gb, off + i * 6, none⟩ = some (.int .i64 x.r) ∧ W2.cell? ⟨gb, off + i * 6 + 1, none⟩ = some (.int .i64 x.c) ∧ W2.cell? ⟨gb, off + i * 6 + 2, none⟩ = some (.int .i64 x.v.k) ∧ W2.cell? ⟨gb, off + i * 6 + 3, none⟩ = some (.int .i64 x.v.n) ∧ W2.cell? ⟨gb, off + i * 6 + 4, none⟩ = some (.string x.v.s) ∧ W2.cell? ⟨gb, off + i * 6 + 5, none⟩ = some (.int .i64 x.v.e))) W2) := fun W2 e => by
         have k := fun o => e.cell.1 gb o hgb
         exact ⟨(k _).trans c0, (k _).trans c1, (k _).trans c2', (k _).trans c3, (k _).trans c4, (k _).trans c5⟩
       have HJ : Hid (i < ln2 ∧ i < 200) := ⟨hlt, h200⟩
       clear c0 c1 c2' c3 c4 c5 hgb hx hlt h200 hi hi2
       go_wp2_with fail
       go_loopw [14, 13] (fun kv nv w5 => ∃ k : Nat, kv = .int .i64 (k : Int) ∧ k ≤ nr ∧ nv = .bool (hasQ (rs.take k) x.r x.c) ∧ NmI w1 gq rs M N2 g2 (200 + i) w5) (fun kv _ _ => nr - (intOf kv).toNat)
       case atStart => exact ⟨0, rfl, Nat.zero_le _, rfl, HI0.out⟩
       case round =>
         clear HI0
         obtain ⟨k, rfl, hk, rfl, hS⟩ := hrel
         have HI0 : Hid (NmI w1 gq rs M N2 g2 (200 + i) wr) := hS
         clear hS
         by_cases hkl : k < nr
         · have hklI : (k : Int) < (nr : Int) := J2
           obtain ⟨q, hq⟩ : ∃ q, rs[k]? = some q := ⟨_, gEq (by rw [HNR.out.1]; exact hkl)⟩
           have HT : Hid (hasQ (rs.take (k + 1)) x.r x.c = (hasQ (rs.take k) x.r x.c || inQ q x.r x.c)) := hasQ_take hq x.r x.c
           have HQ : Hid (rs[k]? = some q ∧ k < nr) := ⟨hq, hkl⟩
           have nr3 : nr ≤ 300 := HNR.out.2
           clear hq hkl hk
           obtain ⟨W9, hW9⟩ : ∃ W9, W9 = wr := ⟨_, rfl⟩
           generalize hasQ (rs.take k) x.r x.c = nb at *
           cases nb with
           | false =>
             have cH := fun V => rhas6_any q.1 q.2.1 q.2.2.1 q.2.2.2 x.r x.c V
             have HV : Hid (inQ q x.r x.c = hasR q.1 q.2.1 q.2.2.1 q.2.2.2 x.r x.c) := rfl
             generalize hasR q.1 q.2.1 q.2.2.1 q.2.2.2 x.r x.c = hb at *
             have mkS : Hid (∀ W2, Ext W9 W2 → (fun W2 => (W2.cell? ⟨gb, off + i * 6, none⟩ = some (.int .i64 x.r) ∧ W2.cell? ⟨gb, off + i * 6 + 1, none⟩ = some (.int .i64 x.c) ∧ W2.cell? ⟨gq, k * 4, none⟩ = some (.int .i64 q.1) ∧ W2.cell? ⟨gq, k * 4 + 1, none⟩ = some (.int .i64 q.2.1) ∧ W2.cell? ⟨gq, k * 4 + 2, none⟩ = some (.int .i64 q.2.2.1) ∧ W2.cell? ⟨gq, k * 4 + 3, none⟩ = some (.int .i64 q.2.2.2)) ∧ Ext W9 W2) W2) := fun W2 e => by
               have e' : Ext wr W2 := by rw [← hW9]; exact e
               have k1 := HK.out W2 ((HE1.out.1.trans HI0.out.e).trans e')
               have k2 := fun j u (h : (cellsR q)[j]? = some u) => (HI0.out.ext e').rq.2 _ u (flatR_at rs k j q u HQ.out.1 h)
               exact ⟨⟨k1.1, k1.2.1, k2 0 _ rfl, k2 1 _ rfl, k2 2 _ rfl, k2 3 _ rfl⟩, e⟩
             go_wp2_with fail
             rw [← hW9]
             refine wp_region_held_drew (S := (fun W2 => (W2.cell? ⟨gb, off + i * 6, none⟩ = some (.int .i64 x.r) ∧ W2.cell? ⟨gb, off + i * 6 + 1, none⟩ = some (.int .i64 x.c) ∧ W2.cell? ⟨gq, k * 4, none⟩ = some (.int .i64 q.1) ∧ W2.cell? ⟨gq, k * 4 + 1, none⟩ = some (.int .i64 q.2.1) ∧ W2.cell? ⟨gq, k * 4 + 2, none⟩ = some (.int .i64 q.2.2.1) ∧ W2.cell? ⟨gq, k * 4 + 3, none⟩ = some (.int .i64 q.2.2.2)) ∧ Ext W9 W2)) J3 ?_ (fun hHeld0 => ?_)
             · (refine mkS.out _ ?_; ((with_reducible (repeat (first | assumption | exact HX1.out | exact xr | apply Ext.drew))); done))
             refine tkI (i := 0) (oi := ⟨some 53, .move (.tmp 13), 4, "law.go:89", #[], none⟩) ?_
             try simp only [Act.put, List.setIfInBounds_toArray, List.set_cons_zero, List.set_cons_succ]
             refine tkI (i := 1) (oi := ⟨some 54, .move (.tmp 53), 4, "law.go:89", #[⟨0, .data⟩], none⟩) ?_
             try simp only [Act.put, List.setIfInBounds_toArray, List.set_cons_zero, List.set_cons_succ]
             refine tkI (i := 2) (oi := ⟨some 55, .move (.tmp 11), 50, "law.go:89", #[⟨1, .guard⟩], some (1, false)⟩) ?_
             try simp only [Act.put, List.setIfInBounds_toArray, List.set_cons_zero, List.set_cons_succ]
             refine tkI (i := 3) (oi := ⟨some 56, .move (.tmp 14), 3, "law.go:89", #[⟨1, .guard⟩], some (1, false)⟩) ?_
             try simp only [Act.put, List.setIfInBounds_toArray, List.set_cons_zero, List.set_cons_succ]
             refine tkI (i := 4) (oi := ⟨some 57, .indexAddr 50 (.tmp 55) (.tmp 56), 0, "law.go:89", #[⟨2, .data⟩, ⟨3, .data⟩, ⟨1, .guard⟩], some (1, false)⟩) ?_
             try simp only [Act.put, List.setIfInBounds_toArray, List.set_cons_zero, List.set_cons_succ]
             refine tkI (i := 5) (oi := ⟨some 58, .load 54 (.tmp 57), 54, "law.go:89", #[⟨4, .data⟩, ⟨1, .guard⟩], some (1, false)⟩) ?_
             try simp only [Act.put, List.setIfInBounds_toArray, List.set_cons_zero, List.set_cons_succ]
             refine tkI (i := 6) (oi := ⟨some 59, .move (.tmp 2), 22, "law.go:89", #[⟨1, .guard⟩], some (1, false)⟩) ?_
             try simp only [Act.put, List.setIfInBounds_toArray, List.set_cons_zero, List.set_cons_succ]
             refine tkI (i := 7) (oi := ⟨some 60, .move (.tmp 12), 3, "law.go:89", #[⟨1, .guard⟩], some (1, false)⟩) ?_
             try simp only [Act.put, List.setIfInBounds_toArray, List.set_cons_zero, List.set_cons_succ]
             refine tkI (i := 8) (oi := ⟨some 61, .indexAddr 22 (.tmp 59) (.tmp 60), 0, "law.go:89", #[⟨6, .data⟩, ⟨7, .data⟩, ⟨1, .guard⟩], some (1, false)⟩) ?_
             try simp only [Act.put, List.setIfInBounds_toArray, List.set_cons_zero, List.set_cons_succ]
             refine tkI (i := 9) (oi := ⟨some 62, .fieldAddr 35 (.tmp 61) 0, 0, "law.go:89", #[⟨8, .data⟩, ⟨1, .guard⟩], some (1, false)⟩) ?_
             try simp only [Act.put, List.setIfInBounds_toArray, List.set_cons_zero, List.set_cons_succ]
             refine tkI (i := 10) (oi := ⟨some 63, .load 3 (.tmp 62), 3, "law.go:89", #[⟨9, .data⟩, ⟨1, .guard⟩], some (1, false)⟩) ?_
             try simp only [Act.put, List.setIfInBounds_toArray, List.set_cons_zero, List.set_cons_succ]
             refine tkI (i := 11) (oi := ⟨some 64, .move (.tmp 2), 22, "law.go:89", #[⟨1, .guard⟩], some (1, false)⟩) ?_
             try simp only [Act.put, List.setIfInBounds_toArray, List.set_cons_zero, List.set_cons_succ]
             refine tkI (i := 12) (oi := ⟨some 65, .move (.tmp 12), 3, "law.go:89", #[⟨1, .guard⟩], some (1, false)⟩) ?_
             try simp only [Act.put, List.setIfInBounds_toArray, List.set_cons_zero, List.set_cons_succ]
             refine tkI (i := 13) (oi := ⟨some 66, .indexAddr 22 (.tmp 64) (.tmp 65), 0, "law.go:89", #[⟨11, .data⟩, ⟨12, .data⟩, ⟨1, .guard⟩], some (1, false)⟩) ?_
             try simp only [Act.put, List.setIfInBounds_toArray, List.set_cons_zero, List.set_cons_succ]
             refine tkI (i := 14) (oi := ⟨some 67, .fieldAddr 35 (.tmp 66) 1, 0, "law.go:89", #[⟨13, .data⟩, ⟨1, .guard⟩], some (1, false)⟩) ?_
             try simp only [Act.put, List.setIfInBounds_toArray, List.set_cons_zero, List.set_cons_succ]
             refine tkI (i := 15) (oi := ⟨some 68, .load 3 (.tmp 67), 3, "law.go:89", #[⟨14, .data⟩, ⟨1, .guard⟩], some (1, false)⟩) ?_
             try simp only [Act.put, List.setIfInBounds_toArray, List.set_cons_zero, List.set_cons_succ]
             refine wpAnyH_ready (rs := [16]) J3 J60 ?_
             refine AllReadyH.cons (o := ⟨some 69, .call { callee := .value (.func 21), args := #[.tmp 58, .tmp 63, .tmp 68], argTypes := #[54, 3, 3] }, 4, "law.go:89", #[⟨5, .data⟩, ⟨10, .data⟩, ⟨15, .data⟩, ⟨1, .chain⟩, ⟨1, .guard⟩], some (1, false)⟩) rfl (fun K hK => ?_) AllReadyH.nil
             go_simp
             refine (cH _).mono ?_; rintro e x1 ⟨rfl, G1⟩; have HX1 : Hid (Ext W9 x1) := (by rw [hW9]; exact Ext.trans (Ext.drew xr) G1); clear G1
             try go_wp2_with fail
             refine hK.out _ _ ?_ (fun hHeld1 => ?_)
             · (try dsimp only); (refine mkS.out _ ?_; ((with_reducible (repeat (first | assumption | exact HX1.out | exact xr | apply Ext.drew))); done))
             clear hK K hHeld0
             try simp only [Act.put, List.setIfInBounds_toArray, List.set_cons_zero, List.set_cons_succ]
             refine tkI (i := 17) (oi := ⟨some 70, .pick (.tmp 54) (.const (.bool true)) (.tmp 69), 4, "law.go:89", #[⟨1, .data⟩, ⟨16, .data⟩], none⟩) ?_
             try simp only [Act.put, List.setIfInBounds_toArray, List.set_cons_zero, List.set_cons_succ]
             refine tkI (i := 18) (oi := ⟨some 13, .assign (.tmp 70), 4, "law.go:89", #[⟨17, .data⟩, ⟨16, .chain⟩, ⟨0, .phase⟩, ⟨1, .phase⟩, ⟨2, .phase⟩, ⟨3, .phase⟩, ⟨4, .phase⟩, ⟨5, .phase⟩, ⟨6, .phase⟩, ⟨7, .phase⟩, ⟨8, .phase⟩, ⟨9, .phase⟩, ⟨10, .phase⟩, ⟨11, .phase⟩, ⟨12, .phase⟩, ⟨13, .phase⟩, ⟨14, .phase⟩, ⟨15, .phase⟩, ⟨16, .phase⟩, ⟨17, .phase⟩], none⟩) ?_
             try simp only [Act.put, List.setIfInBounds_toArray, List.set_cons_zero, List.set_cons_succ]
             refine wpAnyH_done J3 ?_ _
             go_wp2_with fail
             go_roundw
             case rel => exact ⟨k + 1, by go_num, HQ.out.2, by rw [HT.out, HV.out]; simp, HI0.out.ext (by rw [← hW9]; exact HX1.out)⟩
             case measure => exact (by show nr - ((k : Int) + 1).toNat < nr - ((k : Int)).toNat; have := HQ.out.2; omega)
           | true =>
             go_wp2_with fail
             rw [← hW9]
             refine wp_region_held_drew (S := (fun W2 => Ext W9 W2)) J3 ?_ (fun hHeld0 => ?_)
             · ((with_reducible (repeat (first | assumption | exact xr | apply Ext.drew))); done)
             refine tkI (i := 0) (oi := ⟨some 53, .move (.tmp 13), 4, "law.go:89", #[], none⟩) ?_
             try simp only [Act.put, List.setIfInBounds_toArray, List.set_cons_zero, List.set_cons_succ]
             refine tkI (i := 1) (oi := ⟨some 54, .move (.tmp 53), 4, "law.go:89", #[⟨0, .data⟩], none⟩) ?_
             try simp only [Act.put, List.setIfInBounds_toArray, List.set_cons_zero, List.set_cons_succ]
             refine tkU (i := 2) (oi := ⟨some 55, .move (.tmp 11), 50, "law.go:89", #[⟨1, .guard⟩], some (1, false)⟩) ?_
             try simp only [Act.put, List.setIfInBounds_toArray, List.set_cons_zero, List.set_cons_succ]
             refine tkU (i := 3) (oi := ⟨some 56, .move (.tmp 14), 3, "law.go:89", #[⟨1, .guard⟩], some (1, false)⟩) ?_
             try simp only [Act.put, List.setIfInBounds_toArray, List.set_cons_zero, List.set_cons_succ]
             refine tkU (i := 4) (oi := ⟨some 57, .indexAddr 50 (.tmp 55) (.tmp 56), 0, "law.go:89", #[⟨2, .data⟩, ⟨3, .data⟩, ⟨1, .guard⟩], some (1, false)⟩) ?_
             try simp only [Act.put, List.setIfInBounds_toArray, List.set_cons_zero, List.set_cons_succ]
             refine tkU (i := 5) (oi := ⟨some 58, .load 54 (.tmp 57), 54, "law.go:89", #[⟨4, .data⟩, ⟨1, .guard⟩], some (1, false)⟩) ?_
             try simp only [Act.put, List.setIfInBounds_toArray, List.set_cons_zero, List.set_cons_succ]
             refine tkU (i := 6) (oi := ⟨some 59, .move (.tmp 2), 22, "law.go:89", #[⟨1, .guard⟩], some (1, false)⟩) ?_
             try simp only [Act.put, List.setIfInBounds_toArray, List.set_cons_zero, List.set_cons_succ]
             refine tkU (i := 7) (oi := ⟨some 60, .move (.tmp 12), 3, "law.go:89", #[⟨1, .guard⟩], some (1, false)⟩) ?_
             try simp only [Act.put, List.setIfInBounds_toArray, List.set_cons_zero, List.set_cons_succ]
             refine tkU (i := 8) (oi := ⟨some 61, .indexAddr 22 (.tmp 59) (.tmp 60), 0, "law.go:89", #[⟨6, .data⟩, ⟨7, .data⟩, ⟨1, .guard⟩], some (1, false)⟩) ?_
             try simp only [Act.put, List.setIfInBounds_toArray, List.set_cons_zero, List.set_cons_succ]
             refine tkU (i := 9) (oi := ⟨some 62, .fieldAddr 35 (.tmp 61) 0, 0, "law.go:89", #[⟨8, .data⟩, ⟨1, .guard⟩], some (1, false)⟩) ?_
             try simp only [Act.put, List.setIfInBounds_toArray, List.set_cons_zero, List.set_cons_succ]
             refine tkU (i := 10) (oi := ⟨some 63, .load 3 (.tmp 62), 3, "law.go:89", #[⟨9, .data⟩, ⟨1, .guard⟩], some (1, false)⟩) ?_
             try simp only [Act.put, List.setIfInBounds_toArray, List.set_cons_zero, List.set_cons_succ]
             refine tkU (i := 11) (oi := ⟨some 64, .move (.tmp 2), 22, "law.go:89", #[⟨1, .guard⟩], some (1, false)⟩) ?_
             try simp only [Act.put, List.setIfInBounds_toArray, List.set_cons_zero, List.set_cons_succ]
             refine tkU (i := 12) (oi := ⟨some 65, .move (.tmp 12), 3, "law.go:89", #[⟨1, .guard⟩], some (1, false)⟩) ?_
             try simp only [Act.put, List.setIfInBounds_toArray, List.set_cons_zero, List.set_cons_succ]
             refine tkU (i := 13) (oi := ⟨some 66, .indexAddr 22 (.tmp 64) (.tmp 65), 0, "law.go:89", #[⟨11, .data⟩, ⟨12, .data⟩, ⟨1, .guard⟩], some (1, false)⟩) ?_
             try simp only [Act.put, List.setIfInBounds_toArray, List.set_cons_zero, List.set_cons_succ]
             refine tkU (i := 14) (oi := ⟨some 67, .fieldAddr 35 (.tmp 66) 1, 0, "law.go:89", #[⟨13, .data⟩, ⟨1, .guard⟩], some (1, false)⟩) ?_
             try simp only [Act.put, List.setIfInBounds_toArray, List.set_cons_zero, List.set_cons_succ]
             refine tkU (i := 15) (oi := ⟨some 68, .load 3 (.tmp 67), 3, "law.go:89", #[⟨14, .data⟩, ⟨1, .guard⟩], some (1, false)⟩) ?_
             try simp only [Act.put, List.setIfInBounds_toArray, List.set_cons_zero, List.set_cons_succ]
             refine tkU (i := 16) (oi := ⟨some 69, .call { callee := .value (.func 21), args := #[.tmp 58, .tmp 63, .tmp 68], argTypes := #[54, 3, 3] }, 4, "law.go:89", #[⟨5, .data⟩, ⟨10, .data⟩, ⟨15, .data⟩, ⟨1, .chain⟩, ⟨1, .guard⟩], some (1, false)⟩) ?_
             try simp only [Act.put, List.setIfInBounds_toArray, List.set_cons_zero, List.set_cons_succ]
             refine tkI (i := 17) (oi := ⟨some 70, .pick (.tmp 54) (.const (.bool true)) (.tmp 69), 4, "law.go:89", #[⟨1, .data⟩, ⟨16, .data⟩], none⟩) ?_
             try simp only [Act.put, List.setIfInBounds_toArray, List.set_cons_zero, List.set_cons_succ]
             refine tkI (i := 18) (oi := ⟨some 13, .assign (.tmp 70), 4, "law.go:89", #[⟨17, .data⟩, ⟨16, .chain⟩, ⟨0, .phase⟩, ⟨1, .phase⟩, ⟨2, .phase⟩, ⟨3, .phase⟩, ⟨4, .phase⟩, ⟨5, .phase⟩, ⟨6, .phase⟩, ⟨7, .phase⟩, ⟨8, .phase⟩, ⟨9, .phase⟩, ⟨10, .phase⟩, ⟨11, .phase⟩, ⟨12, .phase⟩, ⟨13, .phase⟩, ⟨14, .phase⟩, ⟨15, .phase⟩, ⟨16, .phase⟩, ⟨17, .phase⟩], none⟩) ?_
             try simp only [Act.put, List.setIfInBounds_toArray, List.set_cons_zero, List.set_cons_succ]
             refine wpAnyH_done J3 ?_ _
             go_wp2_with fail
             go_roundw
             case rel => exact ⟨k + 1, by go_num, HQ.out.2, by rw [HT.out]; simp, (HI0.out.ext xr.drew)⟩
             case measure => exact (by show nr - ((k : Int) + 1).toNat < nr - ((k : Int)).toNat; have := HQ.out.2; omega)
         · have hklI : ¬ (k : Int) < (nr : Int) := J2
           have HT : Hid (rs.take k = rs) := by show _ = _; exact List.take_of_length_le (by rw [HNR.out.1]; omega)
           rw [HT.out]
           clear hkl hk
           cases hnm : hasQ rs x.r x.c with
           | true =>
             clear hnm
             go_wp2_with fail
             go_roundw
             case rel => exact ⟨i + 1, _, _, by go_num, HJ.out.1, HJ.out.2, (have h9 := HI0.out; ⟨h9.e, h9.br.mono J2, h9.gl, h9.lik, h9.rq⟩)⟩
             case measure => exact (by show 200 - ((i : Int) + 1).toNat < 200 - ((i : Int)).toNat; have := HJ.out; omega)
           | false =>
             have HNM : Hid (hasQ rs x.r x.c = false) := hnm
             clear hnm
             have mkS : Hid (∀ W2, Ext w1 W2 → (fun W2 => (W2.cell? ⟨gb, off + i * 6, none⟩ = some (.int .i64 x.r) ∧ W2.cell? ⟨gb, off + i * 6 + 1, none⟩ = some (.int .i64 x.c) ∧ W2.cell? ⟨gb, off + i * 6 + 2, none⟩ = some (.int .i64 x.v.k) ∧ W2.cell? ⟨gb, off + i * 6 + 3, none⟩ = some (.int .i64 x.v.n) ∧ W2.cell? ⟨gb, off + i * 6 + 4, none⟩ = some (.string x.v.s) ∧ W2.cell? ⟨gb, off + i * 6 + 5, none⟩ = some (.int .i64 x.v.e))) W2) := fun W2 e => HK.out W2 (HE1.out.1.trans e)
             have cP := fun V (g2 : Option Nat) (h : NmI w1 gq rs M N2 g2 (200 + i) V) => put_any V.drew w1.heap.size (200 + i) g2 N2 (h.br.ext xr.drew) (by have := HJ.out; omega) x.r x.c x.v.k x.v.n x.v.s x.v.e HX.out.2.2.2 (HN.out.1.ext ((HE1.out.1.trans h.e).drew))
             go_wp2_with fail
             refine wp_region_held_drew (S := (fun W2 => (W2.cell? ⟨gb, off + i * 6, none⟩ = some (.int .i64 x.r) ∧ W2.cell? ⟨gb, off + i * 6 + 1, none⟩ = some (.int .i64 x.c) ∧ W2.cell? ⟨gb, off + i * 6 + 2, none⟩ = some (.int .i64 x.v.k) ∧ W2.cell? ⟨gb, off + i * 6 + 3, none⟩ = some (.int .i64 x.v.n) ∧ W2.cell? ⟨gb, off + i * 6 + 4, none⟩ = some (.string x.v.s) ∧ W2.cell? ⟨gb, off + i * 6 + 5, none⟩ = some (.int .i64 x.v.e)))) J3 ?_ (fun hHeld0 => ?_)
             · (first | exact mkS.out _ HI0.out.e.drew | exact mkS.out _ HI1.out.e)
             refine tkI (i := 0) (oi := ⟨some 73, .move (.tmp 9), 25, "law.go:92", #[], none⟩) ?_
             try simp only [Act.put, List.setIfInBounds_toArray, List.set_cons_zero, List.set_cons_succ]
             refine tkI (i := 1) (oi := ⟨some 74, .move (.tmp 2), 22, "law.go:92", #[], none⟩) ?_
             try simp only [Act.put, List.setIfInBounds_toArray, List.set_cons_zero, List.set_cons_succ]
             refine tkI (i := 2) (oi := ⟨some 75, .move (.tmp 12), 3, "law.go:92", #[], none⟩) ?_
             try simp only [Act.put, List.setIfInBounds_toArray, List.set_cons_zero, List.set_cons_succ]
             refine tkI (i := 3) (oi := ⟨some 76, .indexAddr 22 (.tmp 74) (.tmp 75), 0, "law.go:92", #[⟨1, .data⟩, ⟨2, .data⟩], none⟩) ?_
             try simp only [Act.put, List.setIfInBounds_toArray, List.set_cons_zero, List.set_cons_succ]
             refine tkI (i := 4) (oi := ⟨some 77, .fieldAddr 35 (.tmp 76) 0, 0, "law.go:92", #[⟨3, .data⟩], none⟩) ?_
             try simp only [Act.put, List.setIfInBounds_toArray, List.set_cons_zero, List.set_cons_succ]
             refine tkI (i := 5) (oi := ⟨some 78, .load 3 (.tmp 77), 3, "law.go:92", #[⟨4, .data⟩], none⟩) ?_
             try simp only [Act.put, List.setIfInBounds_toArray, List.set_cons_zero, List.set_cons_succ]
             refine tkI (i := 6) (oi := ⟨some 79, .move (.tmp 2), 22, "law.go:92", #[], none⟩) ?_
             try simp only [Act.put, List.setIfInBounds_toArray, List.set_cons_zero, List.set_cons_succ]
             refine tkI (i := 7) (oi := ⟨some 80, .move (.tmp 12), 3, "law.go:92", #[], none⟩) ?_
             try simp only [Act.put, List.setIfInBounds_toArray, List.set_cons_zero, List.set_cons_succ]
             refine tkI (i := 8) (oi := ⟨some 81, .indexAddr 22 (.tmp 79) (.tmp 80), 0, "law.go:92", #[⟨6, .data⟩, ⟨7, .data⟩], none⟩) ?_
             try simp only [Act.put, List.setIfInBounds_toArray, List.set_cons_zero, List.set_cons_succ]
             refine tkI (i := 9) (oi := ⟨some 82, .fieldAddr 35 (.tmp 81) 1, 0, "law.go:92", #[⟨8, .data⟩], none⟩) ?_
             try simp only [Act.put, List.setIfInBounds_toArray, List.set_cons_zero, List.set_cons_succ]
             refine tkI (i := 10) (oi := ⟨some 83, .load 3 (.tmp 82), 3, "law.go:92", #[⟨9, .data⟩], none⟩) ?_
             try simp only [Act.put, List.setIfInBounds_toArray, List.set_cons_zero, List.set_cons_succ]
             refine tkI (i := 11) (oi := ⟨some 84, .move (.tmp 2), 22, "law.go:92", #[], none⟩) ?_
             try simp only [Act.put, List.setIfInBounds_toArray, List.set_cons_zero, List.set_cons_succ]
             refine tkI (i := 12) (oi := ⟨some 85, .move (.tmp 12), 3, "law.go:92", #[], none⟩) ?_
             try simp only [Act.put, List.setIfInBounds_toArray, List.set_cons_zero, List.set_cons_succ]
             refine tkI (i := 13) (oi := ⟨some 86, .indexAddr 22 (.tmp 84) (.tmp 85), 0, "law.go:92", #[⟨11, .data⟩, ⟨12, .data⟩], none⟩) ?_
             try simp only [Act.put, List.setIfInBounds_toArray, List.set_cons_zero, List.set_cons_succ]
             refine tkI (i := 14) (oi := ⟨some 87, .fieldAddr 35 (.tmp 86) 2, 0, "law.go:92", #[⟨13, .data⟩], none⟩) ?_
             try simp only [Act.put, List.setIfInBounds_toArray, List.set_cons_zero, List.set_cons_succ]
             refine tkI (i := 15) (oi := ⟨some 88, .load 33 (.tmp 87), 33, "law.go:92", #[⟨14, .data⟩], none⟩) ?_
             try simp only [Act.put, List.setIfInBounds_toArray, List.set_cons_zero, List.set_cons_succ]
             refine wpAnyH_ready (rs := [16]) J3 J60 ?_
             refine AllReadyH.cons (o := ⟨some 89, .call { callee := .value (.func 22), args := #[.tmp 73, .tmp 78, .tmp 83, .tmp 88], argTypes := #[25, 3, 3, 33] }, 0, "law.go:92", #[⟨0, .data⟩, ⟨5, .data⟩, ⟨10, .data⟩, ⟨15, .data⟩], none⟩) rfl (fun K hK => ?_) AllReadyH.nil
             go_simp
             refine (cP _ _ HI0.out).mono ?_; rintro e x1 ⟨rfl, g1, hB1, hg1, S1⟩; have HI1 : Hid (NmI w1 gq rs M (bset N2 x.r x.c x.v.v) g1 (200 + i + 1) x1) := (HI0.out.ext xr.drew).put hB1 hg1 S1 HNM.out; clear hB1 hg1 S1
             try go_wp2_with fail
             refine hK.out _ _ ?_ (fun hHeld1 => ?_)
             · (try dsimp only); (first | exact mkS.out _ HI0.out.e.drew | exact mkS.out _ HI1.out.e)
             clear hK K hHeld0
             try simp only [Act.put, List.setIfInBounds_toArray, List.set_cons_zero, List.set_cons_succ]
             refine wpAnyH_done J3 ?_ _
             go_wp2_with fail
             go_roundw
             case rel => exact ⟨i + 1, _, _, by go_num, HJ.out.1, HJ.out.2, HI1.out⟩
             case measure => exact (by show 200 - ((i : Int) + 1).toNat < 200 - ((i : Int)).toNat; have := HJ.out; omega)
     · obtain ⟨W9, hW9⟩ : ∃ W9, W9 = wr := ⟨_, rfl⟩
       have H9 : Hid (Ext w W9 ∧ Ent W9 BB g 200 M ∧ Ent W9 w1.heap.size g2 (200 + i) N2 ∧ IsL W9 (fun _ => True) (.slice pp0 ln0 cl0) T0.l ∧ Blk13 W9 w.heap.size (.int .i64 T0.k) (.int .i64 T0.n) (.string (bs T0.s)) (.int .i64 T0.e) (.int .i64 T0.r.1) (.int .i64 T0.r.2.1) (.bool T0.r.2.2.1) (.bool T0.r.2.2.2) (.int .i64 T0.q.1) (.int .i64 T0.q.2.1) (.bool T0.q.2.2.1) (.bool T0.q.2.2.2) (.slice pp0 ln0 cl0)) := by
         rw [hW9]
         have e1 := HI0.out.e
         have e2 := HE1.out.1.trans e1
         exact ⟨e2, ⟨HB.out.br.ext e1, HN.out.1.ext e2, HN.out.2.1.ext e2⟩, ⟨HI0.out.br, HN.out.1.ext e2, HN.out.2.1.ext e2⟩, HN.out.2.2.2.1.ext e2, H0.out.2.ext (HB.out.e.trans e1)⟩
       have hve : expV 401 M T0 = expV 401 N2 T0 := expV_same 401 T0 HH.out (by rw [HRS.out]; exact HI0.out.lik)
       have cO := fun V (e : Ext W9 V) => own_of HH.out V pp0 ln0 cl0 (H9.out.2.2.2.1.ext e)
       have cE1 := fun V p n c (e : Ext W9 V) (hL : IsL V (fun _ => True) (.slice p n c) T0.l) => exp_any BB g 200 M H9.out.2.1.b.ok 401 T0 HN.out.2.2.1 HH.out V p n c (H9.out.2.1.ext e) hL
       have cE2 := fun V p n c (e : Ext W9 V) (hL : IsL V (fun _ => True) (.slice p n c) T0.l) => exp_any w1.heap.size g2 (200 + i) N2 H9.out.2.2.1.b.ok 401 T0 HN.out.2.2.1 HH.out V p n c (H9.out.2.2.1.ext e) hL
       rw [hve] at cE1
       generalize expV 401 N2 T0 = v at *
       clear hve
       have mkS : Hid (∀ XB, Blk13 W9 XB (.int .i64 T0.k) (.int .i64 T0.n) (.string (bs T0.s)) (.int .i64 T0.e) (.int .i64 T0.r.1) (.int .i64 T0.r.2.1) (.bool T0.r.2.2.1) (.bool T0.r.2.2.2) (.int .i64 T0.q.1) (.int .i64 T0.q.2.1) (.bool T0.q.2.2.1) (.bool T0.q.2.2.2) (.slice pp0 ln0 cl0) → ∀ V, Ext W9 V → (fun W2 => (W2.cell? ⟨XB, 0, none⟩ = some (.int .i64 T0.k) ∧ W2.cell? ⟨XB, 1, none⟩ = some (.int .i64 T0.n) ∧ W2.cell? ⟨XB, 2, none⟩ = some (.string (bs T0.s)) ∧ W2.cell? ⟨XB, 3, none⟩ = some (.int .i64 T0.e) ∧ W2.cell? ⟨XB, 4, none⟩ = some (.int .i64 T0.r.1) ∧ W2.cell? ⟨XB, 5, none⟩ = some (.int .i64 T0.r.2.1) ∧ W2.cell? ⟨XB, 6, none⟩ = some (.bool T0.r.2.2.1) ∧ W2.cell? ⟨XB, 7, none⟩ = some (.bool T0.r.2.2.2) ∧ W2.cell? ⟨XB, 8, none⟩ = some (.int .i64 T0.q.1) ∧ W2.cell? ⟨XB, 9, none⟩ = some (.int .i64 T0.q.2.1) ∧ W2.cell? ⟨XB, 10, none⟩ = some (.bool T0.q.2.2.1) ∧ W2.cell? ⟨XB, 11, none⟩ = some (.bool T0.q.2.2.2) ∧ W2.cell? ⟨XB, 12, none⟩ = some (.slice pp0 ln0 cl0)) ∧ Ext W9 W2) V) := by
         intro XB h1 V e
         obtain ⟨_, ⟨a0, a1, a2, a3, a4, a5, a6, a7, a8, a9, a10, a11, a12⟩, _⟩ := h1.ext e
         exact ⟨⟨a0, a1, a2, a3, a4, a5, a6, a7, a8, a9, a10, a11, a12⟩, e⟩
       have qE := eq_val
       have qG := gd_val
       replace mkS : Hid (∀ V, Ext W9 V → _) := fun V e => mkS.out w.heap.size H9.out.2.2.2.2 V e
       obtain ⟨XB, hXB⟩ : ∃ XB, w.heap.size = XB := ⟨_, rfl⟩
       rw [hXB] at mkS ⊢
       clear hXB
       by_cases hlt : i < ln2
       · have hltI : (i : Int) < (ln2 : Int) := J2
         have t1 : decide ((i : Int) < (ln2 : Int)) = true := J103
         have h200I : ¬ (i : Int) < 200 := J2
         exact K2
       · have hltI : ¬ (i : Int) < (ln2 : Int) := J2
         have t1 : decide ((i : Int) < (ln2 : Int)) = false := J103
         exact K2
theorem laidOut : laidOutB Tryz.prog = true := J3
theorem contract (H : Type) (enc : TypeId × Value → H) (W : World) (base : Nat) (args : Array Value) (ds gs : List (DataW H)) (before : List MemPlace)
   (hval0 : ∀ (j : Nat) t v, Tryz.f5.params[j]? = some t → args[j]? = some v → Value.okWide Tryz.prog W .any base t v)
   (hW : DataW.Whole enc Tryz.prog Tryz.f5.params.toList Rows.evalNamedSpec.vars false W args.toList ds gs before) (hL : laidMetH Tryz.prog Rows.evalNamedRow.laid W) :
   Calls Tryz.prog 5 args W fun e W' => ∃ v, e = .returned v ∧ Rows.evalNamedSpec.post enc Tryz.prog Tryz.f5 false true false false W args v W' := by
 have hval := hval0
 have hW' := hW
 obtain ⟨p, q, hA0, hV, rfl, hfz, hnd⟩ := hW'
 have hA : DataW.TrodAll enc Tryz.prog W 0 (fun _ => true) true Tryz.f5.params.toList args.toList ds p := hA0
 rw [Tryz.params5] at hA hval
 obtain ⟨v0, vs0, d0, ds0, p0, q0, hargs, rfl, rfl, h0, r0⟩ := trodAll_cons hA
 obtain ⟨v1, vs1, d1, ds1, p1, q1, rfl, rfl, rfl, h1, r1⟩ := trodAll_cons r0
 obtain ⟨v2, vs2, d2, ds2, p2, q2, rfl, rfl, rfl, h2, r2⟩ := trodAll_cons r1
 obtain ⟨rfl, rfl, rfl⟩ := trodAll_nil r2
 obtain rfl : args = #[v0, v1, v2] := by cases args; simp_all
 obtain ⟨rfl, rfl⟩ := trodVars_none hV
 have j0 := h0
 have lt0 : ∀ x ∈ p0, x.block < W.heap.size := by obtain ⟨m, hm⟩ := j0; exact DataW.trod_lt m _ _ _ hm
 obtain ⟨cs0, rfl, _⟩ := okWide_struct Tryz.underlying43 (hval 0 43 v0 rfl rfl)
 obtain ⟨fu0, hf0⟩ := h0
 obtain ⟨T0, lv0, hcs0, hLI0, wT0⟩ := open_exp fu0 _ _ hf0
 obtain ⟨pp0, cl0, hlv0, _⟩ := hLI0.form
 obtain ⟨ln0, hln0⟩ : ∃ ln, T0.l.length = ln := ⟨_, rfl⟩
 rw [hln0] at hlv0
 subst hlv0
 obtain rfl : cs0 = (cellsT T0 (.slice pp0 ln0 cl0)).toArray := by rw [← hcs0]; simp [Value.cells]
 have j1 := h1
 have lt1 : ∀ x ∈ p1, x.block < W.heap.size := by obtain ⟨m, hm⟩ := j1; exact DataW.trod_lt m _ _ _ hm
 obtain ⟨pp1, ln1, cl1, rfl⟩ := okWide_slice Tryz.underlying22 (hval 1 22 v1 rfl rfl)
 obtain ⟨l1, rd1, ki1⟩ : ∃ l, RdKn W (.slice pp1 ln1 cl1) l ∧ KnI l := by
   obtain ⟨fuel, hf⟩ := h1
   obtain ⟨l, g1, g2, _⟩ := open_kns hf
   exact ⟨l, g1, g2⟩
 have j2 := h2
 have lt2 : ∀ x ∈ p2, x.block < W.heap.size := by obtain ⟨m, hm⟩ := j2; exact DataW.trod_lt m _ _ _ hm
 obtain ⟨pp2, ln2, cl2, rfl⟩ := okWide_slice Tryz.underlying22 (hval 2 22 v2 rfl rfl)
 obtain ⟨l2, rd2, ki2⟩ : ∃ l, RdKn W (.slice pp2 ln2 cl2) l ∧ KnI l := by
   obtain ⟨fuel, hf⟩ := h2
   obtain ⟨l, g1, g2, _⟩ := open_kns hf
   exact ⟨l, g1, g2⟩
 clear hA0 hval0
 refine (walk T0 pp0 ln0 cl0 l1 pp1 ln1 cl1 l2 pp2 ln2 cl2 W wT0 hLI0 rd1 ki1 rd2 ki2 (nm_ofE hL) (tab_ofE hL)).mono fun e W' ⟨he, bel⟩ => ?_
 subst he
 exact ⟨_, rfl, _, _, _, [], _, [], hW, trodAll_mk1 (shut_bool Tryz.underlying4 _), (trodAll_cons_mk (Below.trod laidOut J3 (of_decide_eq_true J3) j0 bel lt0) (trodAll_cons_mk (Below.trod laidOut J3 (of_decide_eq_true J3) j1 bel lt1) (trodAll_cons_mk (Below.trod laidOut J3 (of_decide_eq_true J3) j2 bel lt2) trodAll_mk0))), rfl, Below.frame bel _, fun h => by cases h⟩
theorem laid_met (os : Os) : laidMet Tryz.prog Rows.evalNamedRow.laid ((laidWorldE os).forCall (fun _ _ => 0) ⟨#[], #[.agg #[.int .i64 0, .int .i64 0, .string ⟨#[]⟩, .int .i64 0, .int .i64 0, .int .i64 0, .bool false, .bool false, .int .i64 0, .int .i64 0, .bool false, .bool false, .slice none 0 0], .slice none 0 0, .slice none 0 0], []⟩).memory :=
 laidMet_of_run' 8 J3 J3
theorem reads (os : Os) {H : Type} (enc : TypeId × Value → H) : ∃ places, DataW.whole enc Tryz.prog ((laidWorldE os).forCall (fun _ _ => 0) ⟨#[], #[.agg #[.int .i64 0, .int .i64 0, .string ⟨#[]⟩, .int .i64 0, .int .i64 0, .int .i64 0, .bool false, .bool false, .int .i64 0, .int .i64 0, .bool false, .bool false, .slice none 0 0], .slice none 0 0, .slice none 0 0], []⟩).memory Tryz.f5.params.toList Rows.evalNamedSpec.vars false (#[.agg #[.int .i64 0, .int .i64 0, .string ⟨#[]⟩, .int .i64 0, .int .i64 0, .int .i64 0, .bool false, .bool false, .int .i64 0, .int .i64 0, .bool false, .bool false, .slice none 0 0], .slice none 0 0, .slice none 0 0] : Array Value).toList 8 = some ([.agg [.lit (.int .i64 0), .lit (.int .i64 0), .lit (.string []), .lit (.int .i64 0), .agg [.lit (.int .i64 0), .lit (.int .i64 0), .lit (.bool false), .lit (.bool false)], .agg [.lit (.int .i64 0), .lit (.int .i64 0), .lit (.bool false), .lit (.bool false)], .nil], .nil, .nil], [], places) :=
 ⟨[], by kernel_rfl⟩
theorem lifted (os : Os) (started : os.Started) (H : Type) (enc : TypeId × Value → H) (F : Stop.Interp) :
   ReturnsInHanded {} Tryz.checked os 5 .any ((OpenSpec.ofChange Rows.evalNamedSpec).preRow enc Tryz.prog Tryz.f5 Rows.evalNamedRow.domain false Rows.evalNamedRow.laid) (((OpenSpec.ofChange Rows.evalNamedSpec).at F).post enc Tryz.prog Tryz.f5 false true false false) := by
 obtain ⟨places, hx⟩ := reads os enc
 refine returnsInHanded_of_row (C := Tryz.checked) (s := (OpenSpec.ofChange Rows.evalNamedSpec)) ownK started J3 func5
   (witness_row_at (enc := enc) (C := Tryz.checked) false (laidWorldE os) #[.agg #[.int .i64 0, .int .i64 0, .string ⟨#[]⟩, .int .i64 0, .int .i64 0, .int .i64 0, .bool false, .bool false, .int .i64 0, .int .i64 0, .bool false, .bool false, .slice none 0 0], .slice none 0 0, .slice none 0 0] rfl J3 J3 J3
     (OpenSpec.preRow_of_cond 8 hx J3 (fun k hk => by cases hk) J3 (by
       rw [MakeChecks.laidMetH_plain _ _ _ J3]
       exact laid_met os))) ?_
 intro W base args ds gs before hval hW _ _ _ hL _ _
 exact contract H enc W base args ds gs before hval hW hL
theorem said : Rows.EvalNamedSaid :=
 OpenClaim.holds_of_cond 5 Tryz.f5 rfl rfl rfl rfl rfl rfl rfl ⟨rfl, rfl, rfl, rfl, rfl⟩ rfl rfl rfl rfl rfl J3 func5 J3
   (of_decide_eq_true J3) (by unfold Func.isWrapper; first | (rw [if_pos (by decide +kernel)]; kernel_rfl) | (rw [if_neg (by decide +kernel)]; exact ⟨rfl, rfl⟩))
   (fun os started H enc _ F => by rw [OpenClaim.pre_eq_preRow]; exact lifted os started H enc F)
theorem plain (f : FuncId) (fn : Func) (hf : Tryz.pinned.checked.prog.funcNamed Rows.evalNamedRow.func = some f) (hfn : Tryz.pinned.checked.prog.funcs[f]? = some fn) :
   true = Tryz.pinned.checked.prog.looks [] ∧ ∀ (j : Nat) t, fn.params[j]? = some t → Tryz.pinned.checked.prog.wantsStandIn t = false := by
 obtain rfl : f = 5 := Option.some.inj ((show Tryz.prog.funcNamed Rows.evalNamedRow.func = some 5 by kernel_rfl).symm.trans hf) |>.symm
 obtain rfl : fn = Tryz.f5 := (Option.some.inj (Tryz.func5.symm.trans hfn)).symm
 refine ⟨by kernel_rfl, fun j t ht => ?_⟩
 rw [Tryz.params5] at ht
 have hm : t ∈ [43, 22, 22] := by simpa using Array.mem_of_getElem? ht
 have hall : ([43, 22, 22].all fun u => !Tryz.prog.wantsStandIn u) = true := J3
 exact (show Tryz.prog.wantsStandIn t = false by simpa using List.all_eq_true.1 hall t hm)
theorem card : Rows.EvalNamedCardSaid :=
 Claim7.holds_tied_plain_at .later [] _ _ _ _ said (fun _ h => by cases h) J3 (fun _ h => by cases h) evalNamed_row_tie rfl ⟨rfl, rfl⟩ J3 rfl plain J3
end Go.Proofs.YtcfgbiaahangmaaGreatDoor.evalNamed
namespace Go.Proofs.YtcfgbiaahangmaaGreatDoor
theorem evalNamed_card : Rows.EvalNamedCardSaid := evalNamed.card
end Go.Proofs.YtcfgbiaahangmaaGreatDoor

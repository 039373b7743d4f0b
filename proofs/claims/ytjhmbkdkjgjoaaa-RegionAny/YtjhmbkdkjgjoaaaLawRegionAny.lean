/-
 RegionAny is proved: of whatever cells, the runs are as the document's words have them. No condition.
-/
import Derived.Test.YtjhmbkdkjgjoaaaX30
import Derived.Test.YtjhmbkdkjgjoaaaX31
import Derived.Test.YtjhmbkdkjgjoaaaX12
import Derived.Test.YtjhmbkdkjgjoaaaRows
import Derived.ProofKit
import Derived.OpenShut
import Derived.ChangeOld
import Derived.SizedLaws
import Derived.Lib.SmallJoins
namespace Go.Proofs.Ytjhmbkdkjgjoaaa.regionAny
open Go.ChangeShapes Go.WideShapes Go.ChangeAt Go.RowKit Go.Joins
set_option maxHeartbeats 6000000
set_option maxRecDepth 100000
theorem own : ownKnob Try.prog.godebug = none := by kernel_rfl
theorem walk (l : List Cl) (pp : Option Addr) (ln cl : Nat) {w : World} (rd : RdC w.heap.size w (.slice pp ln cl) l) (_ci : ∀ y ∈ l, ClI y) :
   Calls Try.prog 3 #[.slice pp ln cl] w fun e w' => e = .returned (.bool true) ∧ Ext w w' := by
 clear _ci
 have cL := fun V => lives20_any V
 have hlen := rd.len
 by_cases hgt : 40 < ln
 · have h1 := rd.part (m := 40) (by omega)
   obtain ⟨l1, hl1⟩ : ∃ l1, l.take 40 = l1 := ⟨_, rfl⟩
   rw [hl1] at h1
   have hn40 : l1.length = 40 := by rw [← hl1, List.length_take]; omega
   have hcl : 40 ≤ cl := by
     obtain ⟨_, c0, hv, hc0⟩ := rd.form
     injection hv with _ _ hcc
     omega
   obtain ⟨gb0, off0, rfl⟩ : ∃ b o, pp = some ⟨b, o, none⟩ := by
     obtain ⟨b, o, _, hb, _⟩ := rd.at (i := 0) (List.getElem?_eq_getElem (by omega))
     exact ⟨b, o, hb⟩
   obtain ⟨n, hn⟩ : ∃ n : Nat, n = 40 := ⟨_, rfl⟩
   have HL : Hid (RdC w.heap.size w (.slice (some ⟨gb0, off0, none⟩) n cl) l1 ∧ l1.length = n ∧ n ≤ 40) := ⟨by rw [hn]; exact h1, by omega, by omega⟩
   have hgI : (40 : Int) < (ln : Int) := by omega
   have HN : Hid (n = 40) := hn
   clear rd hlen hl1 h1 hn40 hn
   go_enter Try.func3, Try.ntmps3
   go_wp2_with fail
   rw [← HN.out]
   clear hgI hgt hcl HN
   go_loopw [3] (fun iv wr => ∃ i : Nat, iv = .int .i64 (i : Int) ∧ i ≤ n ∧ Ext w wr ∧ ∀ c ∈ l1.take i, Hr 401 c.x) (fun iv _ => n - (intOf iv).toNat)
   case atStart => exact ⟨0, rfl, Nat.zero_le _, Ext.refl _, by simp⟩
   case round =>
     obtain ⟨i, rfl, hi, hE, hq⟩ := hrel
     have HQ : Hid (Ext w wr ∧ (∀ c ∈ l1.take i, Hr 401 c.x) ∧ i ≤ n) := ⟨hE, hq, hi⟩
     have wk : wrap64 ((i : Int) + 1) = ((i + 1 : Nat) : Int) := wrapNr i (by have := HL.out.2.2; omega)
     clear hE hq
     rcases Nat.lt_or_ge i n with hlt | hge
     · have hltI : (i : Int) < (n : Int) := by omega
       obtain ⟨x, hx⟩ : ∃ x, l1[i]? = some x := ⟨_, List.getElem?_eq_getElem (by rw [HL.out.2.1]; exact hlt)⟩
       obtain ⟨gb, off, lv, hpp, _hgb, hT, hce⟩ := (HL.out.1.ext HQ.out.1).at hx
       cases hpp
       obtain ⟨lp, lc, hlv, _⟩ := hT.form
       obtain ⟨ln, hln⟩ : ∃ ln, x.x.l.length = ln := ⟨_, rfl⟩
       rw [hln] at hlv
       subst hlv
       have HR : Hid (wr.rangeAt gb0 (off0 + i * 21 + 4) [.int .i64 x.x.k, .int .i64 x.x.n, .string (bs x.x.s), .int .i64 x.x.e, .int .i64 x.x.r.1, .int .i64 x.x.r.2.1, .bool x.x.r.2.2.1, .bool x.x.r.2.2.2, .int .i64 x.x.q.1, .int .i64 x.x.q.2.1, .bool x.x.q.2.2.1, .bool x.x.q.2.2.2, .slice lp ln lc]) := fun m u hu => by
         rw [show off0 + i * 21 + 4 + m = off0 + i * 21 + (4 + m) by omega]
         exact hce (4 + m) u (cC_x hu)
       have cS := fun V (e : Ext wr V) => small_any 401 (by decide) x.x V (fun _ => True) lp ln lc 200 (by decide) (by decide) ((hT.ext e).mono (fun _ _ _ => trivial))
       rw [show (401 : Int) - ((401 : Nat) : Int) = 0 from rfl] at cS
       have HX : Hid (l1[i]? = some x ∧ i < n) := ⟨hx, hlt⟩
       clear hT hce hx hln hlt hi _hgb
       go_wp2_with (refine wpList_load_mid rfl 29 _ rfl gb0 (off0 + i * 21 + 4) rfl _ _ HR.out Try.underlying29 rfl (by kernel_rfl) ?_)
       refine (cS _ (Ext.refl _)).mono ?_
       rintro e w1 ⟨m, ok, rfl, E1, _h1, _h2, _h3, h4⟩
       have H1 : Hid (Ext w w1 ∧ (ok = true → Hr 401 x.x)) := ⟨HQ.out.1.trans E1, fun h => (h4 h).2.1⟩
       clear cS E1 _h1 _h2 _h3 h4
       cases ok with
       | false =>
         go_wp2_with fail
         refine (cL _).mono ?_
         rintro e w2 ⟨rfl, E2⟩
         have H2 : Hid (Ext w w2) := H1.out.1.trans E2
         clear E2
         go_wp2_with fail
         go_ret
         exact ⟨rfl, H2.out⟩
       | true =>
         have HN : Hid (∀ c ∈ l1.take (i + 1), Hr 401 c.x) := fun c hc => by
           rw [take_at HX.out.1] at hc
           rcases List.mem_append.1 hc with hc | hc
           · exact HQ.out.2.1 c hc
           · simp at hc; subst hc; exact H1.out.2 rfl
         go_wp2_with fail
         go_roundw
         case rel => exact ⟨i + 1, by first | rfl | (rw [wk]), HX.out.2, H1.out.1, HN.out⟩
         case measure =>
           have := HX.out.2
           first | (show n - ((i : Int) + 1).toNat < n - (i : Int).toNat; omega) | (rw [wk]; simp [intOf]; omega)
     · have hltI : (n : Int) ≤ (i : Int) := by omega
       have HH : Hid (∀ c ∈ l1, Hr 401 c.x) := fun c hc => HQ.out.2.1 c (by rw [List.take_of_length_le (by rw [HL.out.2.1]; omega)]; exact hc)
       have hz : Hr 401 tz := hr_leaf 400 _ rfl
       have HC : Hid (RdC w.heap.size wr (.slice (some ⟨gb0, off0, none⟩) n cl) l1) := HL.out.1.ext HQ.out.1
       obtain ⟨ps, hps, hrd, hpi⟩ := HC.out.ps
       have hpn : ps.length = n := by rw [← HL.out.2.1, ← hps, List.length_map]
       have HP : Hid (ps.map Prod.fst = l1 ∧ RdG cCV 21 wr (.slice (some ⟨gb0, off0, none⟩) n cl) ps ∧ (∀ p ∈ ps, IsL wr (fun k => k < w.heap.size) p.lv p.1.x.l) ∧ ps.length = n) := ⟨hps, hrd, hpi, hpn⟩
       have cF := fun W' v' (e : Ext wr W') (h : RdC W'.heap.size W' v' l1) => find_any 401 l1 W' v' h (by have := HL.out; omega) HH.out hz
       have cR := fun W' (e : Ext wr W') => rfind_any 401 w.heap.size l1 W' (.slice (some ⟨gb0, off0, none⟩) n cl) (HC.out.ext e) (by have := HL.out; omega) HH.out
       rw [show alk 401 = alkP 401 from rfl] at cF
       obtain ⟨rs, hrs⟩ : ∃ rs, findP (alkP 401) l1 = rs := ⟨_, rfl⟩
       have hrl : rs.length ≤ 200000 := by
         rw [← hrs, find_ref]
         split
         · have h1 := refP_len (alkP 401) l1 52
           have := HL.out
           have h2 : l1.length * 52 ≤ 40 * 52 := Nat.mul_le_mul_right 52 (by omega)
           omega
         · simp
       have HRL : Hid (rs.length ≤ 200000) := hrl
       rw [hrs] at cF cR
       clear hps hrd hpi hpn hz hrs hrl hi hge
       go_wp2_with (at_builtin; refine app_g eltCl cCV_len cCV_one (by decide) _ wr _ _ _ _ 0 n [] ps wr.heap.size rfl rfl (by rfl) (by rfl) (own_new wr wr (Nat.le_refl _)) HP.out.2.2.2 (HP.out.2.1.ext ((Ext.refl _).alloc _)) (by have := HL.out; omega) ((Ext.refl _).alloc _) (Nat.le_refl _) (by simp) ?_; intro v9 w9 O9 E9 _ _; rw [Nat.zero_add, List.nil_append] at O9; have H9 : Hid (Ext wr w9 ∧ RdC w9.heap.size w9 v9 l1) := ⟨E9, by rw [← HP.out.1]; exact rdC_of (own_rdG cCV_len O9 HP.out.2.2.2.symm) (fun p hp => ((HP.out.2.2.1 p hp).ext E9).mono (fun b _ hb => hb))⟩; obtain ⟨p9, c9, rfl, _⟩ := own_form O9; clear O9 E9)
       refine (cF _ _ H9.out.1 H9.out.2).mono ?_
       rintro e w2 ⟨v2, rfl, R2, E2⟩
       obtain ⟨q2, d2, rfl, _⟩ := R2.form
       have H2 : Hid (Ext wr w2 ∧ RdRn w2 (.slice q2 rs.length d2) rs) := ⟨H9.out.1.trans E2, R2⟩
       clear cF R2 E2
       go_wp2_with fail
       refine (cR _ H2.out.1).mono ?_
       rintro e w3 ⟨v3, rfl, R3, E3⟩
       obtain ⟨q3, d3, rfl, _⟩ := R3.form
       have H3 : Hid (Ext w w3) := (HQ.out.1.trans H2.out.1).trans E3
       have cQ := rgsame_any w3 (.slice q2 rs.length d2) (.slice q3 rs.length d3) rs rs (H2.out.2.ext E3) R3 HRL.out
       clear cR R3 E3
       go_wp2_with fail
       refine cQ.mono ?_
       rintro e w4 ⟨rfl, E4⟩
       have H4 : Hid (Ext w w4) := H3.out.trans E4
       simp only [decide_true]
       clear cQ E4
       go_wp2_with fail
       refine (cL _).mono ?_
       rintro e w5 ⟨rfl, E5⟩
       have H5 : Hid (Ext w w5) := H4.out.trans E5
       clear E5
       go_wp2_with fail
       go_ret
       exact ⟨rfl, H5.out⟩
 · obtain ⟨n, hn0⟩ : ∃ n, n = ln := ⟨_, rfl⟩
   subst hn0
   have HL : Hid (RdC w.heap.size w (.slice pp n cl) l ∧ l.length = n ∧ n ≤ 40) := ⟨rd, by omega, by omega⟩
   have hgI : ¬ (40 : Int) < (n : Int) := by omega
   clear rd hlen hgt
   go_enter Try.func3, Try.ntmps3
   go_wp2_with fail
   go_loopw [3] (fun iv wr => ∃ i : Nat, iv = .int .i64 (i : Int) ∧ i ≤ n ∧ Ext w wr ∧ ∀ c ∈ l.take i, Hr 401 c.x) (fun iv _ => n - (intOf iv).toNat)
   case atStart => exact ⟨0, rfl, Nat.zero_le _, Ext.refl _, by simp⟩
   case round =>
     obtain ⟨i, rfl, hi, hE, hq⟩ := hrel
     have HQ : Hid (Ext w wr ∧ (∀ c ∈ l.take i, Hr 401 c.x) ∧ i ≤ n) := ⟨hE, hq, hi⟩
     have wk : wrap64 ((i : Int) + 1) = ((i + 1 : Nat) : Int) := wrapNr i (by have := HL.out.2.2; omega)
     clear hE hq
     rcases Nat.lt_or_ge i n with hlt | hge
     · have hltI : (i : Int) < (n : Int) := by omega
       obtain ⟨x, hx⟩ : ∃ x, l[i]? = some x := ⟨_, List.getElem?_eq_getElem (by rw [HL.out.2.1]; exact hlt)⟩
       obtain ⟨gb, off, lv, hpp, _hgb, hT, hce⟩ := (HL.out.1.ext HQ.out.1).at hx
       cases hpp
       obtain ⟨lp, lc, hlv, _⟩ := hT.form
       obtain ⟨ln, hln⟩ : ∃ ln, x.x.l.length = ln := ⟨_, rfl⟩
       rw [hln] at hlv
       subst hlv
       have HR : Hid (wr.rangeAt gb (off + i * 21 + 4) [.int .i64 x.x.k, .int .i64 x.x.n, .string (bs x.x.s), .int .i64 x.x.e, .int .i64 x.x.r.1, .int .i64 x.x.r.2.1, .bool x.x.r.2.2.1, .bool x.x.r.2.2.2, .int .i64 x.x.q.1, .int .i64 x.x.q.2.1, .bool x.x.q.2.2.1, .bool x.x.q.2.2.2, .slice lp ln lc]) := fun m u hu => by
         rw [show off + i * 21 + 4 + m = off + i * 21 + (4 + m) by omega]
         exact hce (4 + m) u (cC_x hu)
       have cS := fun V (e : Ext wr V) => small_any 401 (by decide) x.x V (fun _ => True) lp ln lc 200 (by decide) (by decide) ((hT.ext e).mono (fun _ _ _ => trivial))
       rw [show (401 : Int) - ((401 : Nat) : Int) = 0 from rfl] at cS
       have HX : Hid (l[i]? = some x ∧ i < n) := ⟨hx, hlt⟩
       clear hT hce hx hln hlt hi _hgb
       go_wp2_with (refine wpList_load_mid rfl 29 _ rfl gb (off + i * 21 + 4) rfl _ _ HR.out Try.underlying29 rfl (by kernel_rfl) ?_)
       refine (cS _ (Ext.refl _)).mono ?_
       rintro e w1 ⟨m, ok, rfl, E1, _h1, _h2, _h3, h4⟩
       have H1 : Hid (Ext w w1 ∧ (ok = true → Hr 401 x.x)) := ⟨HQ.out.1.trans E1, fun h => (h4 h).2.1⟩
       clear cS E1 _h1 _h2 _h3 h4
       cases ok with
       | false =>
         go_wp2_with fail
         refine (cL _).mono ?_
         rintro e w2 ⟨rfl, E2⟩
         have H2 : Hid (Ext w w2) := H1.out.1.trans E2
         clear E2
         go_wp2_with fail
         go_ret
         exact ⟨rfl, H2.out⟩
       | true =>
         have HN : Hid (∀ c ∈ l.take (i + 1), Hr 401 c.x) := fun c hc => by
           rw [take_at HX.out.1] at hc
           rcases List.mem_append.1 hc with hc | hc
           · exact HQ.out.2.1 c hc
           · simp at hc; subst hc; exact H1.out.2 rfl
         go_wp2_with fail
         go_roundw
         case rel => exact ⟨i + 1, by first | rfl | (rw [wk]), HX.out.2, H1.out.1, HN.out⟩
         case measure =>
           have := HX.out.2
           first | (show n - ((i : Int) + 1).toNat < n - (i : Int).toNat; omega) | (rw [wk]; simp [intOf]; omega)
     · have hltI : (n : Int) ≤ (i : Int) := by omega
       have HH : Hid (∀ c ∈ l, Hr 401 c.x) := fun c hc => HQ.out.2.1 c (by rw [List.take_of_length_le (by rw [HL.out.2.1]; omega)]; exact hc)
       have hz : Hr 401 tz := hr_leaf 400 _ rfl
       have HC : Hid (RdC w.heap.size wr (.slice pp n cl) l) := HL.out.1.ext HQ.out.1
       obtain ⟨ps, hps, hrd, hpi⟩ := HC.out.ps
       have hpn : ps.length = n := by rw [← HL.out.2.1, ← hps, List.length_map]
       have HP : Hid (ps.map Prod.fst = l ∧ RdG cCV 21 wr (.slice pp n cl) ps ∧ (∀ p ∈ ps, IsL wr (fun k => k < w.heap.size) p.lv p.1.x.l) ∧ ps.length = n) := ⟨hps, hrd, hpi, hpn⟩
       have cF := fun W' v' (e : Ext wr W') (h : RdC W'.heap.size W' v' l) => find_any 401 l W' v' h (by have := HL.out; omega) HH.out hz
       have cR := fun W' (e : Ext wr W') => rfind_any 401 w.heap.size l W' (.slice pp n cl) (HC.out.ext e) (by have := HL.out; omega) HH.out
       rw [show alk 401 = alkP 401 from rfl] at cF
       obtain ⟨rs, hrs⟩ : ∃ rs, findP (alkP 401) l = rs := ⟨_, rfl⟩
       have hrl : rs.length ≤ 200000 := by
         rw [← hrs, find_ref]
         split
         · have h1 := refP_len (alkP 401) l 52
           have := HL.out
           have h2 : l.length * 52 ≤ 40 * 52 := Nat.mul_le_mul_right 52 (by omega)
           omega
         · simp
       have HRL : Hid (rs.length ≤ 200000) := hrl
       rw [hrs] at cF cR
       clear hps hrd hpi hpn hz hrs hrl hi hge
       go_wp2_with (at_builtin; refine app_g eltCl cCV_len cCV_one (by decide) _ wr _ _ _ _ 0 n [] ps wr.heap.size rfl rfl (by rfl) (by rfl) (own_new wr wr (Nat.le_refl _)) HP.out.2.2.2 (HP.out.2.1.ext ((Ext.refl _).alloc _)) (by have := HL.out; omega) ((Ext.refl _).alloc _) (Nat.le_refl _) (by simp) ?_; intro v9 w9 O9 E9 _ _; rw [Nat.zero_add, List.nil_append] at O9; have H9 : Hid (Ext wr w9 ∧ RdC w9.heap.size w9 v9 l) := ⟨E9, by rw [← HP.out.1]; exact rdC_of (own_rdG cCV_len O9 HP.out.2.2.2.symm) (fun p hp => ((HP.out.2.2.1 p hp).ext E9).mono (fun b _ hb => hb))⟩; obtain ⟨p9, c9, rfl, _⟩ := own_form O9; clear O9 E9)
       refine (cF _ _ H9.out.1 H9.out.2).mono ?_
       rintro e w2 ⟨v2, rfl, R2, E2⟩
       obtain ⟨q2, d2, rfl, _⟩ := R2.form
       have H2 : Hid (Ext wr w2 ∧ RdRn w2 (.slice q2 rs.length d2) rs) := ⟨H9.out.1.trans E2, R2⟩
       clear cF R2 E2
       go_wp2_with fail
       refine (cR _ H2.out.1).mono ?_
       rintro e w3 ⟨v3, rfl, R3, E3⟩
       obtain ⟨q3, d3, rfl, _⟩ := R3.form
       have H3 : Hid (Ext w w3) := (HQ.out.1.trans H2.out.1).trans E3
       have cQ := rgsame_any w3 (.slice q2 rs.length d2) (.slice q3 rs.length d3) rs rs (H2.out.2.ext E3) R3 HRL.out
       clear cR R3 E3
       go_wp2_with fail
       refine cQ.mono ?_
       rintro e w4 ⟨rfl, E4⟩
       have H4 : Hid (Ext w w4) := H3.out.trans E4
       simp only [decide_true]
       clear cQ E4
       go_wp2_with fail
       refine (cL _).mono ?_
       rintro e w5 ⟨rfl, E5⟩
       have H5 : Hid (Ext w w5) := H4.out.trans E5
       clear E5
       go_wp2_with fail
       go_ret
       exact ⟨rfl, H5.out⟩
theorem laidOut : laidOutB Try.prog = true := by kernel_rfl
set_option maxRecDepth 100000 in
theorem lifted (os : Os) (started : os.Started) (H : Type) (enc : TypeId × Value → H) :
   ReturnsInHanded {} Try.checked os 3 .any (Rows.regionAnySpec.pre6 enc Try.prog Try.f3 Rows.regionAnyRow.domain false) (Rows.regionAnySpec.post enc Try.prog Try.f3 false true false false) := by
 refine returnsInHanded_of_change (C := Try.checked) own started (by kernel_rfl) Try.func3
   (ChangeSpec.witness6 (enc := enc) (C := Try.checked) false ⟨#[], #[.slice none 0 0], []⟩ 8 (by kernel_rfl) (by kernel_rfl) (by kernel_rfl) (by kernel_rfl)) ?_
 intro W base args ds gs before hval0 hW hcnd _
 have hval : ∀ (j : Nat) t v, Try.f3.params[j]? = some t → args[j]? = some v → Value.okWide Try.prog W .any base t v := hval0
 have hW' := hW
 obtain ⟨p, q, hA0, hV, rfl, hfz, hnd⟩ := hW
 have hA : DataW.TrodAll enc Try.prog W 0 (fun _ => true) true Try.f3.params.toList args.toList ds p := hA0
 rw [Try.params3] at hA hval
 obtain ⟨v0, vs0, d0, ds0, p0, q0, hargs, rfl, rfl, h0, r0⟩ := trodAll_cons hA
 obtain ⟨rfl, rfl, rfl⟩ := trodAll_nil r0
 obtain rfl : args = #[v0] := by cases args; simp_all
 obtain ⟨rfl, rfl⟩ := trodVars_none hV
 have j0 := h0
 have lt0 : ∀ x ∈ p0, x.block < W.heap.size := by obtain ⟨m, hm⟩ := j0; exact DataW.trod_lt m _ _ _ hm
 obtain ⟨pp0, ln0, cl0, rfl⟩ := okWide_slice Try.underlying22 (hval 0 22 v0 rfl rfl)
 obtain ⟨l0, rd0, ci0, _⟩ : ∃ l, RdC W.heap.size W (.slice pp0 ln0 cl0) l ∧ (∀ y ∈ l, ClI y) ∧ l.length ≤ maxLen := by
   obtain ⟨fuel, hf⟩ := h0
   exact open_cls hf
 clear hA0 hval0
 refine (walk l0 pp0 ln0 cl0 rd0 ci0).mono fun e W' ⟨he, bel⟩ => ?_
 subst he
 exact ⟨_, rfl, _, _, _, [], _, [], hW', trodAll_mk1 (shut_bool Try.underlying4 _), (trodAll_cons_mk (Below.trod laidOut (by kernel_rfl) (of_decide_eq_true (by kernel_rfl)) j0 bel lt0) trodAll_mk0), rfl, Below.frame bel _, fun h => by cases h⟩
theorem over : Rows.regionAnyRow.holds Try.pinned (OpenSpec.ofChange Rows.regionAnySpec) :=
 OpenClaim.holds_of_wide 3 Try.f3 rfl rfl rfl rfl rfl rfl rfl ⟨rfl, rfl, rfl, rfl, rfl⟩ rfl rfl rfl rfl rfl (by kernel_rfl) Try.func3 (by kernel_rfl)
   (of_decide_eq_true (by kernel_rfl)) (by unfold Func.isWrapper; first | (rw [if_pos (by decide +kernel)]; kernel_rfl) | (rw [if_neg (by decide +kernel)]; exact ⟨rfl, rfl⟩))
   (fun os started H enc _ => lifted os started H enc)
theorem proved : Rows.RegionAnySaid := over
end Go.Proofs.Ytjhmbkdkjgjoaaa.regionAny
namespace Go.Proofs.Ytjhmbkdkjgjoaaa
theorem regionAny_holds : Rows.RegionAnySaid := regionAny.proved
end Go.Proofs.Ytjhmbkdkjgjoaaa

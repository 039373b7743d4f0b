/-
 MovePlaces is proved: for every tree (without a ring) and every three uint16 the call returns true and the arguments read as they did. No condition but the form's own reach.
-/
import Derived.Test.YtcggiljlilbdfaaU43
import Derived.Test.YtcggiljlilbdfaaU48
import Derived.Test.YtcggiljlilbdfaaU30
import Derived.Test.YtcggiljlilbdfaaU14
import Derived.Test.YtcggiljlilbdfaaU18
import Derived.Test.YtcggiljlilbdfaaU45
import Derived.Test.YtcggiljlilbdfaaRows
import Derived.ProofKit
import Derived.OpenShut
import Derived.ChangeOld
import Derived.SizedLaws
import Derived.Lib.SmallJoins
namespace Go.Proofs.Ytcggiljlilbdfaa.movePlaces
open Go.ChangeShapes Go.WideShapes Go.ChangeAt Go.RowKit Go.Joins
set_option maxHeartbeats 6000000
set_option maxRecDepth 100000

theorem own : ownKnob Try.prog.godebug = none := by kernel_rfl
theorem small_law (t : T) (pp : Option Addr) (ln cl : Nat) (w : World) (hL : IsL w (fun _ => True) (.slice pp ln cl) t.l) :
   Calls Try.prog 32 #[.agg #[.int .i64 t.k, .int .i64 t.n, .string (bs t.s), .int .i64 t.e, .int .i64 t.r.1, .int .i64 t.r.2.1, .bool t.r.2.2.1, .bool t.r.2.2.2, .int .i64 t.q.1, .int .i64 t.q.2.1, .bool t.q.2.2.1, .bool t.q.2.2.2, .slice pp ln cl]] w fun e w' => ∃ ok, e = .returned (.bool ok) ∧ Ext w w' ∧ (ok = true → Hr 401 t ∧ szT 401 t ≤ 1000) := by
 have c1 := fun W h => small_any 401 (Nat.le_refl _) t W (fun _ => True) pp ln cl 1000 (by decide) (by decide) h
 rw [show (401 : Int) - ((401 : Nat) : Int) = 0 from rfl] at c1
 have HI : Hid (IsL w (fun _ => True) (.slice pp ln cl) t.l) := hL
 clear hL
 go_enter Try.func32, Try.ntmps32
 go_wp2_with fail
 refine (c1 _ (HI.out.ext ((Ext.refl _).alloc _))).mono ?_
 rintro e w1 ⟨m, ok, rfl, E1, h1, h2, h3, hok⟩
 have HR : Hid (Ext w w1 ∧ (ok = true → m = szT 401 t ∧ Hr 401 t ∧ m ≤ max 1000 1)) := ⟨((Ext.refl _).alloc _).trans E1, hok⟩
 clear hok E1 h3
 go_wp2_with fail
 go_ret
 refine ⟨ok, rfl, HR.out.1, fun h => ?_⟩
 obtain ⟨q1, q2, q3⟩ := HR.out.2 h
 exact ⟨q2, by omega⟩
theorem walk (t : T) (pp : Option Addr) (ln cl : Nat) (x0 x1 x2 : Int) (_hW : Wf t) {w : World} (hL : IsL w (fun _ => True) (.slice pp ln cl) t.l) (hx0 : (Lit.int .u16 x0).wf = true) (hx1 : (Lit.int .u16 x1).wf = true) (hx2 : (Lit.int .u16 x2).wf = true) :
   Calls Try.prog 9 #[.agg #[.int .i64 t.k, .int .i64 t.n, .string (bs t.s), .int .i64 t.e, .int .i64 t.r.1, .int .i64 t.r.2.1, .bool t.r.2.2.1, .bool t.r.2.2.2, .int .i64 t.q.1, .int .i64 t.q.2.1, .bool t.q.2.2.1, .bool t.q.2.2.2, .slice pp ln cl], .agg #[.int .u16 x0, .int .u16 x1, .int .u16 x2]] w fun e w' => e = .returned (.bool true) ∧ Ext w w' := by
 have HI : Hid (IsL w (fun _ => True) (.slice pp ln cl) t.l) := hL
 have i0 : 0 ≤ x0 ∧ x0 ≤ 65535 := (by simpa [Lit.wf] using hx0 : IntKind.u16.min ≤ x0 ∧ x0 ≤ IntKind.u16.max)
 have i1 : 0 ≤ x1 ∧ x1 ≤ 65535 := (by simpa [Lit.wf] using hx1 : IntKind.u16.min ≤ x1 ∧ x1 ≤ IntKind.u16.max)
 have i2 : 0 ≤ x2 ∧ x2 ≤ 65535 := (by simpa [Lit.wf] using hx2 : IntKind.u16.min ≤ x2 ∧ x2 ≤ IntKind.u16.max)
 clear hL hx0 hx1 hx2
 go_enter Try.func9, Try.ntmps9
 go_wp2_with fail
 have HA : Hid ((Ext w ((w.alloc (.cells #[.int .i64 t.k, .int .i64 t.n, .string (bs t.s), .int .i64 t.e, .int .i64 t.r.1, .int .i64 t.r.2.1, .bool t.r.2.2.1, .bool t.r.2.2.2, .int .i64 t.q.1, .int .i64 t.q.2.1, .bool t.q.2.2.1, .bool t.q.2.2.2, .slice pp ln cl] 26)).alloc (.cells #[.int .u16 x0, .int .u16 x1, .int .u16 x2] 44)) ∧ BlkX ((w.alloc (.cells #[.int .i64 t.k, .int .i64 t.n, .string (bs t.s), .int .i64 t.e, .int .i64 t.r.1, .int .i64 t.r.2.1, .bool t.r.2.2.1, .bool t.r.2.2.2, .int .i64 t.q.1, .int .i64 t.q.2.1, .bool t.q.2.2.1, .bool t.q.2.2.2, .slice pp ln cl] 26)).alloc (.cells #[.int .u16 x0, .int .u16 x1, .int .u16 x2] 44)) w.heap.size t (.slice pp ln cl)) ∧ ∀ V, Ext ((w.alloc (.cells #[.int .i64 t.k, .int .i64 t.n, .string (bs t.s), .int .i64 t.e, .int .i64 t.r.1, .int .i64 t.r.2.1, .bool t.r.2.2.1, .bool t.r.2.2.2, .int .i64 t.q.1, .int .i64 t.q.2.1, .bool t.q.2.2.1, .bool t.q.2.2.2, .slice pp ln cl] 26)).alloc (.cells #[.int .u16 x0, .int .u16 x1, .int .u16 x2] 44)) V → V.cell? ⟨w.heap.size + 1, 0, none⟩ = some (.int .u16 x0) ∧ V.cell? ⟨w.heap.size + 1, 1, none⟩ = some (.int .u16 x1) ∧ V.cell? ⟨w.heap.size + 1, 2, none⟩ = some (.int .u16 x2)) := ⟨⟨((Ext.refl _).alloc _).alloc _, blk13_top rfl ((Ext.refl _).alloc _)⟩, fun V e => by
   have hz : w.heap.size + 1 < ((w.alloc (.cells #[.int .i64 t.k, .int .i64 t.n, .string (bs t.s), .int .i64 t.e, .int .i64 t.r.1, .int .i64 t.r.2.1, .bool t.r.2.2.1, .bool t.r.2.2.2, .int .i64 t.q.1, .int .i64 t.q.2.1, .bool t.q.2.2.1, .bool t.q.2.2.2, .slice pp ln cl] 26)).alloc (.cells #[.int .u16 x0, .int .u16 x1, .int .u16 x2] 44)).heap.size := by simp
   refine ⟨(e.cell.1 _ _ hz).trans ?_, (e.cell.1 _ _ hz).trans ?_, (e.cell.1 _ _ hz).trans ?_⟩ <;> simp [go_sem]⟩
 generalize ((w.alloc (.cells #[.int .i64 t.k, .int .i64 t.n, .string (bs t.s), .int .i64 t.e, .int .i64 t.r.1, .int .i64 t.r.2.1, .bool t.r.2.2.1, .bool t.r.2.2.2, .int .i64 t.q.1, .int .i64 t.q.2.1, .bool t.q.2.2.1, .bool t.q.2.2.2, .slice pp ln cl] 26)).alloc (.cells #[.int .u16 x0, .int .u16 x1, .int .u16 x2] 44)) = w0 at *
 refine (small_law t pp ln cl _ (HI.out.ext HA.out.1.1)).mono ?_
 rintro e w1 ⟨ok, rfl, E1, hok⟩
 have HE1 : Hid ((Ext w w1 ∧ BlkX w1 w.heap.size t (.slice pp ln cl)) ∧ Ext w0 w1) := ⟨⟨HA.out.1.1.trans E1, HA.out.1.2.ext E1⟩, E1⟩
 clear E1
 cases ok
 · clear hok
   go_wp2_with fail
   refine (lives11_any _).mono ?_
   rintro e w9 ⟨rfl, E9⟩
   have HE9 : Hid (Ext w w9) := Ext.trans HE1.out.1.1 E9
   clear E9
   go_wp2_with fail
   go_ret
   exact ⟨rfl, HE9.out⟩
 · have HH : Hid (Hr 401 t ∧ szT 401 t ≤ 1000) := hok rfl
   obtain ⟨qz, ⟨k0, k1, k2, k3, k4, k5, k6, k7, k8, k9, k10, k11, k12⟩, gz⟩ := HE1.out.1.2
   clear hok gz qz
   have C0 := rwell_any (fun _ => True) 401 t HH.out.1 w1 pp ln cl (HI.out.ext HE1.out.1.1)
   go_wp2_with fail
   refine C0.mono ?_
   rintro e w2 ⟨rfl, E2⟩
   replace HE1 : Hid ((Ext w w2 ∧ BlkX w2 w.heap.size t (.slice pp ln cl)) ∧ Ext w0 w2) := ⟨⟨HE1.out.1.1.trans E2, HE1.out.1.2.ext E2⟩, HE1.out.2.trans E2⟩
   clear E2 C0 k0 k1 k2 k3 k4 k5 k6 k7 k8 k9 k10 k11 k12
   cases hwl : wellT 401 t
   · clear hwl
     go_wp2_with fail
     refine (lives11_any _).mono ?_
     rintro e w9 ⟨rfl, E9⟩
     have HE9 : Hid (Ext w w9) := Ext.trans HE1.out.1.1 E9
     clear E9
     go_wp2_with fail
     go_ret
     exact ⟨rfl, HE9.out⟩
   · have HWT : Hid (wellT 401 t = true) := hwl
     clear hwl
     obtain ⟨k, hk⟩ : ∃ k : Int, 1 + x0 % 1000 = k := ⟨_, rfl⟩
     obtain ⟨r, hr⟩ : ∃ r : Int, 1 + x1 % 1000 = r := ⟨_, rfl⟩
     obtain ⟨c, hc⟩ : ∃ c : Int, 1 + x2 % 52 = c := ⟨_, rfl⟩
     have hk1 : 1 ≤ k := by omega
     have hk2 : k ≤ 1000 := by omega
     go_upto_region 3 with fail
     go_cut [5, 6, 7] (fun vk vr vc wx => vk = .int .i64 k ∧ vr = .int .i64 r ∧ vc = .int .i64 c ∧ Ext w2 wx)
     case first =>
       obtain ⟨f0, f1, f2⟩ := HA.out.2 w2 HE1.out.2
       go_quiet (fail)
       go_wp2_with fail
       go_meet
       case rel => exact ⟨by first | rfl | (go_num) | (congr 1), by first | rfl | (go_num) | (congr 1), by first | rfl | (go_num) | (congr 1), (by with_reducible repeat (first | assumption | exact Ext.refl _ | apply Ext.drew | apply Ext.drewN))⟩
     case rest =>
       obtain ⟨rfl, rfl, rfl, hX⟩ := hcut
       replace HE1 : Hid (Ext w wc ∧ BlkX wc w.heap.size t (.slice pp ln cl)) := ⟨HE1.out.1.1.trans hX, HE1.out.1.2.ext hX⟩
       clear hX hk hr hc i0 i1 i2 HA
       obtain ⟨qz, ⟨k0, k1, k2, k3, k4, k5, k6, k7, k8, k9, k10, k11, k12⟩, gz⟩ := HE1.out.2
       clear gz qz
       have hrl : (refsT 401 t).length ≤ 1000 := Nat.le_trans (refs_len 401 t) HH.out.2
       have C1 := (rrefs_any 401 t HH.out.1 wc (fun _ => True) pp ln cl (HI.out.ext HE1.out.1) (by omega)).mono (fun e w' hq => RrQ.rd hq)
       have Hza : Hid (Hr 401 (mpT (chE (inR k) (inV k)) 401 t)) := hr_mpg 401 t HH.out.1 _ (chE_l _ _)
       have Hzb : Hid (Hr 401 (mpT (chE (deR k) (deV k)) 401 t)) := hr_mpg 401 t HH.out.1 _ (chE_l _ _)
       have HLra : Hid ((refsT 401 (mpT (chE (inR k) (inV k)) 401 t)).length ≤ 1000) := Nat.le_trans (refs_len 401 _) (Nat.le_trans (sz_mpg 401 t _ (chE_l _ _)) HH.out.2)
       have HLrb : Hid ((refsT 401 (mpT (chE (deR k) (deV k)) 401 t)).length ≤ 1000) := Nat.le_trans (refs_len 401 _) (Nat.le_trans (sz_mpg 401 t _ (chE_l _ _)) HH.out.2)
       have HIN : Hid (0 < inR k r → hasL (refsT 401 (mpT (chE (inR k) (inV k)) 401 t)) (inR k r) c = hasL (refsT 401 t) r c) := fun h => places_in k r c h 401 t (wa_arg HWT.out)
       have HDE : Hid (0 < deR k r → hasL (refsT 401 (mpT (chE (deR k) (deV k)) 401 t)) (deR k r) c = hasL (refsT 401 t) r c) := fun h => places_de k r c hk1 h 401 t (wa_arg HWT.out)
       have HBO : Hid (hasL (refsT 401 (mpT (chE (inR k) (inV k)) 401 t)) k c = bothL (refsT 401 t) k c) := places_both k c hk1 hk2 401 t (wa_arg HWT.out)
       have INc : Hid (∀ V p l c, IsL V (fun _ => True) (.slice p l c) t.l → Calls Try.prog 33 #[.agg #[.int .i64 t.k, .int .i64 t.n, .string (bs t.s), .int .i64 t.e, .int .i64 t.r.1, .int .i64 t.r.2.1, .bool t.r.2.2.1, .bool t.r.2.2.2, .int .i64 t.q.1, .int .i64 t.q.2.1, .bool t.q.2.2.1, .bool t.q.2.2.2, .slice p l c], .int .i64 k] V (MpQ V (mpT (chE (inR k) (inV k)) 401 t))) := fun V p l c h => by
         have := insert_any 401 t HH.out.1 k V (fun _ => True) p l c h
         rw [HWT.out, if_pos rfl] at this
         exact this
       have DEc : Hid (∀ V p l c, IsL V (fun _ => True) (.slice p l c) t.l → Calls Try.prog 34 #[.agg #[.int .i64 t.k, .int .i64 t.n, .string (bs t.s), .int .i64 t.e, .int .i64 t.r.1, .int .i64 t.r.2.1, .bool t.r.2.2.1, .bool t.r.2.2.2, .int .i64 t.q.1, .int .i64 t.q.2.1, .bool t.q.2.2.1, .bool t.q.2.2.2, .slice p l c], .int .i64 k] V (MpQ V (mpT (chE (deR k) (deV k)) 401 t))) := fun V p l c h => by
         have := delete_any 401 t HH.out.1 k V (fun _ => True) p l c h
         rw [HWT.out, if_pos rfl] at this
         exact this
       obtain ⟨za, hza⟩ : ∃ za, mpT (chE (inR k) (inV k)) 401 t = za := ⟨_, rfl⟩
       obtain ⟨zb, hzb⟩ : ∃ zb, mpT (chE (deR k) (deV k)) 401 t = zb := ⟨_, rfl⟩
       rw [hza] at Hza HLra HIN HBO INc
       rw [hzb] at Hzb HLrb HDE DEc
       obtain ⟨ra, hra⟩ : ∃ ra, refsT 401 za = ra := ⟨_, rfl⟩
       obtain ⟨rb, hrb⟩ : ∃ rb, refsT 401 zb = rb := ⟨_, rfl⟩
       obtain ⟨rs, hrs⟩ : ∃ rs, refsT 401 t = rs := ⟨_, rfl⟩
       have HEra : Hid (refsT 401 za = ra) := hra
       have HErb : Hid (refsT 401 zb = rb) := hrb
       rw [hra] at HLra HIN HBO
       rw [hrb] at HLrb HDE
       rw [hrs] at HIN HDE HBO C1 hrl
       have HLrs : Hid (rs.length ≤ 1000) := hrl
       have RAc : Hid (∀ V p l c, IsL V (fun _ => True) (.slice p l c) za.l → Calls Try.prog 26 #[.agg #[.int .i64 za.k, .int .i64 za.n, .string (bs za.s), .int .i64 za.e, .int .i64 za.r.1, .int .i64 za.r.2.1, .bool za.r.2.2.1, .bool za.r.2.2.2, .int .i64 za.q.1, .int .i64 za.q.2.1, .bool za.q.2.2.1, .bool za.q.2.2.2, .slice p l c]] V fun e w' => ∃ p c, e = .returned (.slice p ra.length c) ∧ RdR w' (.slice p ra.length c) ra ∧ Ext V w') := fun V p l c h => by
         have := (rrefs_any 401 za Hza.out V (fun _ => True) p l c h (by have := HLra.out; rw [HEra.out]; omega)).mono (fun e w' hq => RrQ.rd hq)
         rw [HEra.out] at this
         exact this
       have RBc : Hid (∀ V p l c, IsL V (fun _ => True) (.slice p l c) zb.l → Calls Try.prog 26 #[.agg #[.int .i64 zb.k, .int .i64 zb.n, .string (bs zb.s), .int .i64 zb.e, .int .i64 zb.r.1, .int .i64 zb.r.2.1, .bool zb.r.2.2.1, .bool zb.r.2.2.2, .int .i64 zb.q.1, .int .i64 zb.q.2.1, .bool zb.q.2.2.1, .bool zb.q.2.2.2, .slice p l c]] V fun e w' => ∃ p c, e = .returned (.slice p rb.length c) ∧ RdR w' (.slice p rb.length c) rb ∧ Ext V w') := fun V p l c h => by
         have := (rrefs_any 401 zb Hzb.out V (fun _ => True) p l c h (by have := HLrb.out; rw [HErb.out]; omega)).mono (fun e w' hq => RrQ.rd hq)
         rw [HErb.out] at this
         exact this
       have cin := fun V => (rinserted_any r k V).mono (R' := fun e w' => e = .returned (.int .i64 (inR k r)) ∧ Ext V w') (fun e w' q => ⟨q.1, by rw [q.2]; exact Ext.refl _⟩)
       have cde := fun V => (rdeleted_any r k V).mono (R' := fun e w' => e = .returned (.int .i64 (deR k r)) ∧ Ext V w') (fun e w' q => ⟨q.1, by rw [q.2]; exact Ext.refl _⟩)
       obtain ⟨ni, hni⟩ : ∃ ni, inR k r = ni := ⟨_, rfl⟩
       obtain ⟨nd, hnd⟩ : ∃ nd, deR k r = nd := ⟨_, rfl⟩
       rw [hni] at HIN cin
       rw [hnd] at HDE cde
       clear hza hzb hra hrb hrs hrl hni hnd
       go_wp2_with fail
       refine C1.mono ?_
       rintro e w4 ⟨p0, c0, rfl, R0, E4⟩
       replace HE1 : Hid (Ext w w4 ∧ BlkX w4 w.heap.size t (.slice pp ln cl)) := ⟨HE1.out.1.trans E4, HE1.out.2.ext E4⟩
       have HR0 : Hid (RdR w4 (.slice p0 rs.length c0) rs) := R0
       have OA : Hid (∀ V, Ext w4 V → Calls Try.prog 14 #[.agg #[.int .i64 t.k, .int .i64 t.n, .string (bs t.s), .int .i64 t.e, .int .i64 t.r.1, .int .i64 t.r.2.1, .bool t.r.2.2.1, .bool t.r.2.2.2, .int .i64 t.q.1, .int .i64 t.q.2.1, .bool t.q.2.2.1, .bool t.q.2.2.2, .slice pp ln cl]] V (OwnQ V t)) := fun V e => own_any 401 t HH.out.1 V (fun _ => True) pp ln cl (HI.out.ext (HE1.out.1.trans e))
       have mkS : Hid (∀ V, Ext w4 V → V.cell? ⟨w.heap.size, 0, none⟩ = some (.int .i64 t.k) ∧ V.cell? ⟨w.heap.size, 1, none⟩ = some (.int .i64 t.n) ∧ V.cell? ⟨w.heap.size, 2, none⟩ = some (.string (bs t.s)) ∧ V.cell? ⟨w.heap.size, 3, none⟩ = some (.int .i64 t.e) ∧ V.cell? ⟨w.heap.size, 4, none⟩ = some (.int .i64 t.r.1) ∧ V.cell? ⟨w.heap.size, 5, none⟩ = some (.int .i64 t.r.2.1) ∧ V.cell? ⟨w.heap.size, 6, none⟩ = some (.bool t.r.2.2.1) ∧ V.cell? ⟨w.heap.size, 7, none⟩ = some (.bool t.r.2.2.2) ∧ V.cell? ⟨w.heap.size, 8, none⟩ = some (.int .i64 t.q.1) ∧ V.cell? ⟨w.heap.size, 9, none⟩ = some (.int .i64 t.q.2.1) ∧ V.cell? ⟨w.heap.size, 10, none⟩ = some (.bool t.q.2.2.1) ∧ V.cell? ⟨w.heap.size, 11, none⟩ = some (.bool t.q.2.2.2) ∧ V.cell? ⟨w.heap.size, 12, none⟩ = some (.slice pp ln cl)) := fun V e => by
         obtain ⟨qz, ⟨k0, k1, k2, k3, k4, k5, k6, k7, k8, k9, k10, k11, k12⟩, gz⟩ := HE1.out.2.ext e
         exact ⟨k0, k1, k2, k3, k4, k5, k6, k7, k8, k9, k10, k11, k12⟩
       clear E4 R0 C1 k0 k1 k2 k3 k4 k5 k6 k7 k8 k9 k10 k11 k12
       go_wp2_with fail
       refine wp_region_held_drew (S := (fun V => V.cell? ⟨w.heap.size, 0, none⟩ = some (.int .i64 t.k) ∧ V.cell? ⟨w.heap.size, 1, none⟩ = some (.int .i64 t.n) ∧ V.cell? ⟨w.heap.size, 2, none⟩ = some (.string (bs t.s)) ∧ V.cell? ⟨w.heap.size, 3, none⟩ = some (.int .i64 t.e) ∧ V.cell? ⟨w.heap.size, 4, none⟩ = some (.int .i64 t.r.1) ∧ V.cell? ⟨w.heap.size, 5, none⟩ = some (.int .i64 t.r.2.1) ∧ V.cell? ⟨w.heap.size, 6, none⟩ = some (.bool t.r.2.2.1) ∧ V.cell? ⟨w.heap.size, 7, none⟩ = some (.bool t.r.2.2.2) ∧ V.cell? ⟨w.heap.size, 8, none⟩ = some (.int .i64 t.q.1) ∧ V.cell? ⟨w.heap.size, 9, none⟩ = some (.int .i64 t.q.2.1) ∧ V.cell? ⟨w.heap.size, 10, none⟩ = some (.bool t.q.2.2.1) ∧ V.cell? ⟨w.heap.size, 11, none⟩ = some (.bool t.q.2.2.2) ∧ V.cell? ⟨w.heap.size, 12, none⟩ = some (.slice pp ln cl))) (by kernel_rfl) ?_ (fun hHeld0 => ?_)
       · (refine mkS.out _ ?_; ((with_reducible (repeat (first | assumption | exact Ext.refl _ | apply Ext.alloc | apply Ext.drew | apply Ext.drewN))); done))
       refine wpAnyH_take (i := 0) (oi := ⟨some 39, .load 26 (.tmp 2), 26, "law.go:74", #[], none⟩) (v := ?_) rfl (by kernel_rfl) (by kernel_rfl) (by kernel_rfl) (fun _ _ _ h => h) (Or.inl ⟨by rfl, ?_⟩) (by assumption) ?_
       rotate_left
       · intro w hSw; (try dsimp only at hSw); first | (go_simp; done) | (go_simp; with_reducible rfl)
       try simp only [Act.put, List.setIfInBounds_toArray, List.set_cons_zero, List.set_cons_succ]
       refine wpAnyH_take (i := 2) (oi := ⟨some 41, .move (.tmp 5), 3, "law.go:74", #[], none⟩) (v := ?_) rfl (by kernel_rfl) (by kernel_rfl) (by kernel_rfl) (fun _ _ _ h => h) (Or.inl ⟨by rfl, ?_⟩) (by assumption) ?_
       rotate_left
       · intro w hSw; (try dsimp only at hSw); first | (go_simp; done) | (go_simp; with_reducible rfl)
       try simp only [Act.put, List.setIfInBounds_toArray, List.set_cons_zero, List.set_cons_succ]
       refine wpAnyH_take (i := 5) (oi := ⟨some 44, .load 26 (.tmp 2), 26, "law.go:74", #[], none⟩) (v := ?_) rfl (by kernel_rfl) (by kernel_rfl) (by kernel_rfl) (fun _ _ _ h => h) (Or.inl ⟨by rfl, ?_⟩) (by assumption) ?_
       rotate_left
       · intro w hSw; (try dsimp only at hSw); first | (go_simp; done) | (go_simp; with_reducible rfl)
       try simp only [Act.put, List.setIfInBounds_toArray, List.set_cons_zero, List.set_cons_succ]
       refine wpAnyH_take (i := 7) (oi := ⟨some 46, .move (.tmp 5), 3, "law.go:74", #[], none⟩) (v := ?_) rfl (by kernel_rfl) (by kernel_rfl) (by kernel_rfl) (fun _ _ _ h => h) (Or.inl ⟨by rfl, ?_⟩) (by assumption) ?_
       rotate_left
       · intro w hSw; (try dsimp only at hSw); first | (go_simp; done) | (go_simp; with_reducible rfl)
       try simp only [Act.put, List.setIfInBounds_toArray, List.set_cons_zero, List.set_cons_succ]
       refine wpAnyH_ready (rs := [1]) (by kernel_rfl) (by simp) ?_
       refine AllReadyH.cons (o := ⟨some 40, .call { callee := .value (.func 14), args := #[.tmp 39], argTypes := #[26] }, 26, "law.go:74", #[⟨0, .data⟩], none⟩) rfl (fun K hK => ?_) AllReadyH.nil
       go_simp
       (go_at_call 14; refine Calls.mono (OA.out _ (by with_reducible repeat (first | assumption | exact Ext.refl _ | apply Ext.alloc | apply Ext.drew | apply Ext.drewN))) ?_; rintro e y1 ⟨lv1, rfl, hL1, E1⟩; obtain ⟨p1, c1, hlv, hcl⟩ := hL1.form; have X1 : Ext w4 y1 := Ext.trans (by with_reducible repeat (first | assumption | exact Ext.refl _ | apply Ext.alloc | apply Ext.drew | apply Ext.drewN)) E1; obtain ⟨l1, hl1⟩ : ∃ l1, t.l.length = l1 := ⟨_, rfl⟩; rw [hl1] at hlv; subst hlv; have HO1 : Hid (IsL y1 (fun _ => True) (.slice p1 l1 c1) t.l) := hL1.mono (fun _ _ _ => trivial); clear hL1 hcl hl1; unfold aggX)
       try go_wp2_with fail
       refine hK.out _ _ ?_ (fun hHeld1 => ?_)
       · (try dsimp only); (refine mkS.out _ ?_; ((with_reducible (repeat (first | assumption | exact Ext.refl _ | apply Ext.alloc | apply Ext.drew | apply Ext.drewN))); done))
       clear hK K hHeld0
       try simp only [Act.put, List.setIfInBounds_toArray, List.set_cons_zero, List.set_cons_succ]
       refine wpAnyH_ready (rs := [3]) (by kernel_rfl) (by simp) ?_
       refine AllReadyH.cons (o := ⟨some 42, .call { callee := .value (.func 33), args := #[.tmp 40, .tmp 41], argTypes := #[26, 3] }, 26, "law.go:74", #[⟨1, .data⟩, ⟨2, .data⟩, ⟨1, .chain⟩], none⟩) rfl (fun K hK => ?_) AllReadyH.nil
       go_simp
       (go_at_call 33; refine Calls.mono (INc.out _ p1 l1 c1 (HO1.out.ext (by with_reducible repeat (first | assumption | exact Ext.refl _ | apply Ext.alloc | apply Ext.drew | apply Ext.drewN)))) ?_; rintro e y2 ⟨p2, l2, c2, rfl, hL2, E2⟩; have X2 : Ext w4 y2 := Ext.trans (by with_reducible repeat (first | assumption | exact Ext.refl _ | apply Ext.alloc | apply Ext.drew | apply Ext.drewN)) E2; have HO2 : Hid (IsL y2 (fun _ => True) (.slice p2 l2 c2) za.l) := hL2.mono (fun _ _ _ => trivial); clear hL2; unfold aggX)
       try go_wp2_with fail
       refine hK.out _ _ ?_ (fun hHeld2 => ?_)
       · (try dsimp only); (refine mkS.out _ ?_; ((with_reducible (repeat (first | assumption | exact Ext.refl _ | apply Ext.alloc | apply Ext.drew | apply Ext.drewN))); done))
       clear hK K hHeld1
       try simp only [Act.put, List.setIfInBounds_toArray, List.set_cons_zero, List.set_cons_succ]
       refine wpAnyH_ready (rs := [4]) (by kernel_rfl) (by simp) ?_
       refine AllReadyH.cons (o := ⟨some 43, .call { callee := .value (.func 26), args := #[.tmp 42], argTypes := #[26] }, 38, "law.go:74", #[⟨3, .data⟩, ⟨3, .chain⟩], none⟩) rfl (fun K hK => ?_) AllReadyH.nil
       go_simp
       (go_at_call 26; refine Calls.mono (RAc.out _ p2 l2 c2 (HO2.out.ext (by with_reducible repeat (first | assumption | exact Ext.refl _ | apply Ext.alloc | apply Ext.drew | apply Ext.drewN)))) ?_; rintro e y3 ⟨p3, c3, rfl, R3, E3⟩; have X3 : Ext w4 y3 := Ext.trans (by with_reducible repeat (first | assumption | exact Ext.refl _ | apply Ext.alloc | apply Ext.drew | apply Ext.drewN)) E3; have HR3 : Hid (RdR y3 (.slice p3 ra.length c3) ra) := R3; clear R3)
       try go_wp2_with fail
       refine hK.out _ _ ?_ (fun hHeld3 => ?_)
       · (try dsimp only); (refine mkS.out _ ?_; ((with_reducible (repeat (first | assumption | exact Ext.refl _ | apply Ext.alloc | apply Ext.drew | apply Ext.drewN))); done))
       clear hK K hHeld2
       try simp only [Act.put, List.setIfInBounds_toArray, List.set_cons_zero, List.set_cons_succ]
       refine wpAnyH_ready (rs := [6]) (by kernel_rfl) (by simp) ?_
       refine AllReadyH.cons (o := ⟨some 45, .call { callee := .value (.func 14), args := #[.tmp 44], argTypes := #[26] }, 26, "law.go:74", #[⟨5, .data⟩, ⟨4, .chain⟩], none⟩) rfl (fun K hK => ?_) AllReadyH.nil
       go_simp
       (go_at_call 14; refine Calls.mono (OA.out _ (by with_reducible repeat (first | assumption | exact Ext.refl _ | apply Ext.alloc | apply Ext.drew | apply Ext.drewN))) ?_; rintro e y4 ⟨lv4, rfl, hL4, E4⟩; obtain ⟨p4, c4, hlv, hcl⟩ := hL4.form; have X4 : Ext w4 y4 := Ext.trans (by with_reducible repeat (first | assumption | exact Ext.refl _ | apply Ext.alloc | apply Ext.drew | apply Ext.drewN)) E4; obtain ⟨l4, hl4⟩ : ∃ l4, t.l.length = l4 := ⟨_, rfl⟩; rw [hl4] at hlv; subst hlv; have HO4 : Hid (IsL y4 (fun _ => True) (.slice p4 l4 c4) t.l) := hL4.mono (fun _ _ _ => trivial); clear hL4 hcl hl4; unfold aggX)
       try go_wp2_with fail
       refine hK.out _ _ ?_ (fun hHeld4 => ?_)
       · (try dsimp only); (refine mkS.out _ ?_; ((with_reducible (repeat (first | assumption | exact Ext.refl _ | apply Ext.alloc | apply Ext.drew | apply Ext.drewN))); done))
       clear hK K hHeld3
       try simp only [Act.put, List.setIfInBounds_toArray, List.set_cons_zero, List.set_cons_succ]
       refine wpAnyH_ready (rs := [8]) (by kernel_rfl) (by simp) ?_
       refine AllReadyH.cons (o := ⟨some 47, .call { callee := .value (.func 34), args := #[.tmp 45, .tmp 46], argTypes := #[26, 3] }, 26, "law.go:74", #[⟨6, .data⟩, ⟨7, .data⟩, ⟨6, .chain⟩], none⟩) rfl (fun K hK => ?_) AllReadyH.nil
       go_simp
       (go_at_call 34; refine Calls.mono (DEc.out _ p4 l4 c4 (HO4.out.ext (by with_reducible repeat (first | assumption | exact Ext.refl _ | apply Ext.alloc | apply Ext.drew | apply Ext.drewN)))) ?_; rintro e y5 ⟨p5, l5, c5, rfl, hL5, E5⟩; have X5 : Ext w4 y5 := Ext.trans (by with_reducible repeat (first | assumption | exact Ext.refl _ | apply Ext.alloc | apply Ext.drew | apply Ext.drewN)) E5; have HO5 : Hid (IsL y5 (fun _ => True) (.slice p5 l5 c5) zb.l) := hL5.mono (fun _ _ _ => trivial); clear hL5; unfold aggX)
       try go_wp2_with fail
       refine hK.out _ _ ?_ (fun hHeld5 => ?_)
       · (try dsimp only); (refine mkS.out _ ?_; ((with_reducible (repeat (first | assumption | exact Ext.refl _ | apply Ext.alloc | apply Ext.drew | apply Ext.drewN))); done))
       clear hK K hHeld4
       try simp only [Act.put, List.setIfInBounds_toArray, List.set_cons_zero, List.set_cons_succ]
       refine wpAnyH_ready (rs := [9]) (by kernel_rfl) (by simp) ?_
       refine AllReadyH.cons (o := ⟨some 48, .call { callee := .value (.func 26), args := #[.tmp 47], argTypes := #[26] }, 38, "law.go:74", #[⟨8, .data⟩, ⟨8, .chain⟩], none⟩) rfl (fun K hK => ?_) AllReadyH.nil
       go_simp
       (go_at_call 26; refine Calls.mono (RBc.out _ p5 l5 c5 (HO5.out.ext (by with_reducible repeat (first | assumption | exact Ext.refl _ | apply Ext.alloc | apply Ext.drew | apply Ext.drewN)))) ?_; rintro e y6 ⟨p6, c6, rfl, R6, E6⟩; have X6 : Ext w4 y6 := Ext.trans (by with_reducible repeat (first | assumption | exact Ext.refl _ | apply Ext.alloc | apply Ext.drew | apply Ext.drewN)) E6; have HR6 : Hid (RdR y6 (.slice p6 rb.length c6) rb) := R6; clear R6)
       try go_wp2_with fail
       refine hK.out _ _ ?_ (fun hHeld6 => ?_)
       · (try dsimp only); (refine mkS.out _ ?_; ((with_reducible (repeat (first | assumption | exact Ext.refl _ | apply Ext.alloc | apply Ext.drew | apply Ext.drewN))); done))
       clear hK K hHeld5
       try simp only [Act.put, List.setIfInBounds_toArray, List.set_cons_zero, List.set_cons_succ]
       refine wpAnyH_take (i := 10) (oi := ⟨some 9, .assign (.tmp 43), 38, "law.go:74", #[⟨4, .data⟩, ⟨9, .chain⟩, ⟨0, .phase⟩, ⟨1, .phase⟩, ⟨2, .phase⟩, ⟨3, .phase⟩, ⟨4, .phase⟩, { on := 5, ground := Ground.textOnly Departure.lateStores }, { on := 6, ground := Ground.textOnly Departure.lateStoresUnsure }, { on := 7, ground := Ground.textOnly Departure.lateStores }, { on := 8, ground := Ground.textOnly Departure.lateStoresUnsure }, { on := 9, ground := Ground.textOnly Departure.lateStoresUnsure }], none⟩) (v := ?_) rfl (by kernel_rfl) (by kernel_rfl) (by kernel_rfl) (fun _ _ _ h => h) (Or.inl ⟨by rfl, ?_⟩) (by assumption) ?_
       rotate_left
       · intro w hSw; (try dsimp only at hSw); first | (go_simp; done) | (go_simp; with_reducible rfl)
       try simp only [Act.put, List.setIfInBounds_toArray, List.set_cons_zero, List.set_cons_succ]
       refine wpAnyH_take (i := 11) (oi := ⟨some 10, .assign (.tmp 48), 38, "law.go:74", #[⟨9, .data⟩, ⟨10, .chain⟩, ⟨0, .phase⟩, ⟨1, .phase⟩, ⟨2, .phase⟩, ⟨3, .phase⟩, ⟨4, .phase⟩, ⟨5, .phase⟩, ⟨6, .phase⟩, ⟨7, .phase⟩, ⟨8, .phase⟩, ⟨9, .phase⟩, ⟨10, .phase⟩], none⟩) (v := ?_) rfl (by kernel_rfl) (by kernel_rfl) (by kernel_rfl) (fun _ _ _ h => h) (Or.inl ⟨by rfl, ?_⟩) (by assumption) ?_
       rotate_left
       · intro w hSw; (try dsimp only at hSw); first | (go_simp; done) | (go_simp; with_reducible rfl)
       try simp only [Act.put, List.setIfInBounds_toArray, List.set_cons_zero, List.set_cons_succ]
       refine wpAnyH_done (by kernel_rfl) ?_ _
       have HRD : Hid (RdR y6 (.slice p3 ra.length c3) ra ∧ RdR y6 (.slice p6 rb.length c6) rb ∧ RdR y6 (.slice p0 rs.length c0) rs) := ⟨HR3.out.ext (E4.trans (E5.trans E6)), HR6.out, HR0.out.ext X6⟩
       have HY6 : Hid (Ext w y6) := HE1.out.1.trans X6
       have HEX : Hid (Ext y6 y6) := Ext.refl _
       have q1 : ∀ x : Bool, (x != x) = false := by intro x; cases x <;> rfl
       have q2 : ∀ x : Bool, (x == x) = true := by intro x; cases x <;> rfl
       have u1 := q1 (hasL rs r c)
       have u2 := q2 (bothL rs k c)
       clear X1 X2 X3 X4 X5 X6 E1 E2 E3 E4 E5 E6 HO1 HO2 HO4 HO5 HR3 HR6 HR0 OA mkS INc DEc RAc RBc q1 q2
       go_wp2_with fail
       by_cases hi : 0 < ni
       · by_cases hd : 0 < nd
         · have gi : (0 : Int) < ni := hi
           have gd : (0 : Int) < nd := hd
           replace HIN := HIN.out hi
           have HIN : Hid (hasL ra ni c = hasL rs r c) := HIN
           replace HDE := HDE.out hd
           have HDE : Hid (hasL rb nd c = hasL rs r c) := HDE
           clear hi hd
           refine (cin _).mono ?_
           rintro e w7 ⟨rfl, E7⟩
           replace HEX : Hid (Ext y6 w7) := HEX.out.trans E7
           clear E7
           go_wp2_with fail
           refine (has11_any ra HLra.out ni c _ _ _ (HRD.out.1.ext HEX.out)).mono ?_
           rintro e w8 ⟨rfl, E8⟩
           replace HEX : Hid (Ext y6 w8) := HEX.out.trans E8
           clear E8
           rw [HIN.out]
           go_wp2_with fail
           refine (has11_any rs HLrs.out r c _ _ _ (HRD.out.2.2.ext HEX.out)).mono ?_
           rintro e w8 ⟨rfl, E8⟩
           replace HEX : Hid (Ext y6 w8) := HEX.out.trans E8
           clear E8
           go_wp2_with fail
           refine (cde _).mono ?_
           rintro e w7 ⟨rfl, E7⟩
           replace HEX : Hid (Ext y6 w7) := HEX.out.trans E7
           clear E7
           go_wp2_with fail
           refine (has11_any rb HLrb.out nd c _ _ _ (HRD.out.2.1.ext HEX.out)).mono ?_
           rintro e w8 ⟨rfl, E8⟩
           replace HEX : Hid (Ext y6 w8) := HEX.out.trans E8
           clear E8
           rw [HDE.out]
           go_wp2_with fail
           refine (has11_any rs HLrs.out r c _ _ _ (HRD.out.2.2.ext HEX.out)).mono ?_
           rintro e w8 ⟨rfl, E8⟩
           replace HEX : Hid (Ext y6 w8) := HEX.out.trans E8
           clear E8
           go_wp2_with fail
           refine (has11_any ra HLra.out k c _ _ _ (HRD.out.1.ext HEX.out)).mono ?_
           rintro e w8 ⟨rfl, E8⟩
           replace HEX : Hid (Ext y6 w8) := HEX.out.trans E8
           clear E8
           rw [HBO.out]
           go_wp2_with fail
           refine (both11_any rs HLrs.out k c hk1 hk2 _ _ _ (HRD.out.2.2.ext HEX.out)).mono ?_
           rintro e w8 ⟨rfl, E8⟩
           replace HEX : Hid (Ext y6 w8) := HEX.out.trans E8
           clear E8
           go_wp2_with fail
           refine (lives11_any _).mono ?_
           rintro e w9 ⟨rfl, E9⟩
           have HE9 : Hid (Ext w w9) := Ext.trans (HY6.out.trans HEX.out) E9
           clear E9
           go_wp2_with fail
           go_ret
           exact ⟨rfl, HE9.out⟩
         · have gi : (0 : Int) < ni := hi
           have gd : ¬ (0 : Int) < nd := hd
           replace HIN := HIN.out hi
           have HIN : Hid (hasL ra ni c = hasL rs r c) := HIN
           clear hi hd
           refine (cin _).mono ?_
           rintro e w7 ⟨rfl, E7⟩
           replace HEX : Hid (Ext y6 w7) := HEX.out.trans E7
           clear E7
           go_wp2_with fail
           refine (has11_any ra HLra.out ni c _ _ _ (HRD.out.1.ext HEX.out)).mono ?_
           rintro e w8 ⟨rfl, E8⟩
           replace HEX : Hid (Ext y6 w8) := HEX.out.trans E8
           clear E8
           rw [HIN.out]
           go_wp2_with fail
           refine (has11_any rs HLrs.out r c _ _ _ (HRD.out.2.2.ext HEX.out)).mono ?_
           rintro e w8 ⟨rfl, E8⟩
           replace HEX : Hid (Ext y6 w8) := HEX.out.trans E8
           clear E8
           go_wp2_with fail
           refine (cde _).mono ?_
           rintro e w7 ⟨rfl, E7⟩
           replace HEX : Hid (Ext y6 w7) := HEX.out.trans E7
           clear E7
           go_wp2_with fail
           refine (has11_any ra HLra.out k c _ _ _ (HRD.out.1.ext HEX.out)).mono ?_
           rintro e w8 ⟨rfl, E8⟩
           replace HEX : Hid (Ext y6 w8) := HEX.out.trans E8
           clear E8
           rw [HBO.out]
           go_wp2_with fail
           refine (both11_any rs HLrs.out k c hk1 hk2 _ _ _ (HRD.out.2.2.ext HEX.out)).mono ?_
           rintro e w8 ⟨rfl, E8⟩
           replace HEX : Hid (Ext y6 w8) := HEX.out.trans E8
           clear E8
           go_wp2_with fail
           refine (lives11_any _).mono ?_
           rintro e w9 ⟨rfl, E9⟩
           have HE9 : Hid (Ext w w9) := Ext.trans (HY6.out.trans HEX.out) E9
           clear E9
           go_wp2_with fail
           go_ret
           exact ⟨rfl, HE9.out⟩
       · by_cases hd : 0 < nd
         · have gi : ¬ (0 : Int) < ni := hi
           have gd : (0 : Int) < nd := hd
           replace HDE := HDE.out hd
           have HDE : Hid (hasL rb nd c = hasL rs r c) := HDE
           clear hi hd
           refine (cin _).mono ?_
           rintro e w7 ⟨rfl, E7⟩
           replace HEX : Hid (Ext y6 w7) := HEX.out.trans E7
           clear E7
           go_wp2_with fail
           refine (cde _).mono ?_
           rintro e w7 ⟨rfl, E7⟩
           replace HEX : Hid (Ext y6 w7) := HEX.out.trans E7
           clear E7
           go_wp2_with fail
           refine (has11_any rb HLrb.out nd c _ _ _ (HRD.out.2.1.ext HEX.out)).mono ?_
           rintro e w8 ⟨rfl, E8⟩
           replace HEX : Hid (Ext y6 w8) := HEX.out.trans E8
           clear E8
           rw [HDE.out]
           go_wp2_with fail
           refine (has11_any rs HLrs.out r c _ _ _ (HRD.out.2.2.ext HEX.out)).mono ?_
           rintro e w8 ⟨rfl, E8⟩
           replace HEX : Hid (Ext y6 w8) := HEX.out.trans E8
           clear E8
           go_wp2_with fail
           refine (has11_any ra HLra.out k c _ _ _ (HRD.out.1.ext HEX.out)).mono ?_
           rintro e w8 ⟨rfl, E8⟩
           replace HEX : Hid (Ext y6 w8) := HEX.out.trans E8
           clear E8
           rw [HBO.out]
           go_wp2_with fail
           refine (both11_any rs HLrs.out k c hk1 hk2 _ _ _ (HRD.out.2.2.ext HEX.out)).mono ?_
           rintro e w8 ⟨rfl, E8⟩
           replace HEX : Hid (Ext y6 w8) := HEX.out.trans E8
           clear E8
           go_wp2_with fail
           refine (lives11_any _).mono ?_
           rintro e w9 ⟨rfl, E9⟩
           have HE9 : Hid (Ext w w9) := Ext.trans (HY6.out.trans HEX.out) E9
           clear E9
           go_wp2_with fail
           go_ret
           exact ⟨rfl, HE9.out⟩
         · have gi : ¬ (0 : Int) < ni := hi
           have gd : ¬ (0 : Int) < nd := hd
           clear hi hd
           refine (cin _).mono ?_
           rintro e w7 ⟨rfl, E7⟩
           replace HEX : Hid (Ext y6 w7) := HEX.out.trans E7
           clear E7
           go_wp2_with fail
           refine (cde _).mono ?_
           rintro e w7 ⟨rfl, E7⟩
           replace HEX : Hid (Ext y6 w7) := HEX.out.trans E7
           clear E7
           go_wp2_with fail
           refine (has11_any ra HLra.out k c _ _ _ (HRD.out.1.ext HEX.out)).mono ?_
           rintro e w8 ⟨rfl, E8⟩
           replace HEX : Hid (Ext y6 w8) := HEX.out.trans E8
           clear E8
           rw [HBO.out]
           go_wp2_with fail
           refine (both11_any rs HLrs.out k c hk1 hk2 _ _ _ (HRD.out.2.2.ext HEX.out)).mono ?_
           rintro e w8 ⟨rfl, E8⟩
           replace HEX : Hid (Ext y6 w8) := HEX.out.trans E8
           clear E8
           go_wp2_with fail
           refine (lives11_any _).mono ?_
           rintro e w9 ⟨rfl, E9⟩
           have HE9 : Hid (Ext w w9) := Ext.trans (HY6.out.trans HEX.out) E9
           clear E9
           go_wp2_with fail
           go_ret
           exact ⟨rfl, HE9.out⟩

theorem laidOut : laidOutB Try.prog = true := by kernel_rfl
theorem cells_a3 : Try.prog.cellsOf 44 = 3 := by kernel_rfl
theorem cells_u16 : Try.prog.cellsOf 43 = 1 := by kernel_rfl
set_option maxRecDepth 100000 in
theorem lifted (os : Os) (started : os.Started) (H : Type) (enc : TypeId × Value → H) :
   ReturnsInHanded {} Try.checked os 9 .any (Rows.movePlacesSpec.pre6 enc Try.prog Try.f9 Rows.movePlacesRow.domain false) (Rows.movePlacesSpec.post enc Try.prog Try.f9 false true false false) := by
 refine returnsInHanded_of_change (C := Try.checked) own started (by kernel_rfl) Try.func9
   (ChangeSpec.witness6 (enc := enc) (C := Try.checked) false ⟨#[], #[.agg #[.int .i64 0, .int .i64 0, .string ⟨#[]⟩, .int .i64 0, .int .i64 0, .int .i64 0, .bool false, .bool false, .int .i64 0, .int .i64 0, .bool false, .bool false, .slice none 0 0], .agg #[.int .u16 0, .int .u16 0, .int .u16 0]], []⟩ 8 (by kernel_rfl) (by kernel_rfl) (by kernel_rfl) (by kernel_rfl)) ?_
 intro W base args ds gs before hval0 hW hcnd _
 have hval : ∀ (j : Nat) t v, Try.f9.params[j]? = some t → args[j]? = some v → Value.okWide Try.prog W .any base t v := hval0
 have hW' := hW
 obtain ⟨p, q, hA0, hV, rfl, hfz, hnd⟩ := hW
 have hA : DataW.TrodAll enc Try.prog W 0 (fun _ => true) true Try.f9.params.toList args.toList ds p := hA0
 rw [Try.params9] at hA hval
 obtain ⟨v0, vs0, d0, ds0, p0, q0, hargs, rfl, rfl, h0, r0⟩ := trodAll_cons hA
 obtain ⟨v1, vs1, d1, ds1, p1, q1, rfl, rfl, rfl, h1, r1⟩ := trodAll_cons r0
 obtain ⟨rfl, rfl, rfl⟩ := trodAll_nil r1
 obtain rfl : args = #[v0, v1] := by cases args; simp_all
 obtain ⟨rfl, rfl⟩ := trodVars_none hV
 have j0 := h0
 have lt0 : ∀ x ∈ p0, x.block < W.heap.size := by obtain ⟨m, hm⟩ := j0; exact DataW.trod_lt m _ _ _ hm
 obtain ⟨cs0, rfl, _⟩ := okWide_struct Try.underlying26 (hval 0 26 v0 rfl rfl)
 obtain ⟨fu0, hf0⟩ := h0
 obtain ⟨T0, lv0, hcs0, hLI0, wT0⟩ := open_exp fu0 _ _ hf0
 obtain ⟨pp0, cl0, hlv0, _⟩ := hLI0.form
 obtain ⟨ln0, hln0⟩ : ∃ ln, T0.l.length = ln := ⟨_, rfl⟩
 rw [hln0] at hlv0
 subst hlv0
 obtain rfl : cs0 = (cellsT T0 (.slice pp0 ln0 cl0)).toArray := by rw [← hcs0]; simp [Value.cells]
 have j1 := h1
 have lt1 : ∀ x ∈ p1, x.block < W.heap.size := by obtain ⟨m, hm⟩ := j1; exact DataW.trod_lt m _ _ _ hm
 obtain ⟨Lp1, Lq1, Lu1, rfl, wLp1, wLq1, wLu1⟩ := open_arr3 (hval 1 44 v1 rfl rfl) h1
 clear hA0 hval0
 refine (walk T0 pp0 ln0 cl0 Lp1 Lq1 Lu1 wT0 hLI0 wLp1 wLq1 wLu1).mono fun e W' ⟨he, bel⟩ => ?_
 subst he
 exact ⟨_, rfl, _, _, _, [], _, [], hW', trodAll_mk1 (shut_bool Try.underlying4 _), (trodAll_cons_mk (Below.trod laidOut (by kernel_rfl) (of_decide_eq_true (by kernel_rfl)) j0 bel lt0) (trodAll_cons_mk (Below.trod laidOut (by kernel_rfl) (of_decide_eq_true (by kernel_rfl)) j1 bel lt1) trodAll_mk0)), rfl, Below.frame bel _, fun h => by cases h⟩

theorem over : Rows.movePlacesRow.holds Try.pinned (OpenSpec.ofChange Rows.movePlacesSpec) :=
 OpenClaim.holds_of_wide 9 Try.f9 rfl rfl rfl rfl rfl rfl rfl ⟨rfl, rfl, rfl, rfl, rfl⟩ rfl rfl rfl rfl rfl (by kernel_rfl) Try.func9 (by kernel_rfl)
   (of_decide_eq_true (by kernel_rfl)) (by unfold Func.isWrapper; first | (rw [if_pos (by decide +kernel)]; kernel_rfl) | (rw [if_neg (by decide +kernel)]; exact ⟨rfl, rfl⟩))
   (fun os started H enc _ => lifted os started H enc)

theorem proved : Rows.MovePlacesSaid := over
end Go.Proofs.Ytcggiljlilbdfaa.movePlaces
namespace Go.Proofs.Ytcggiljlilbdfaa
theorem movePlaces_holds : Rows.MovePlacesSaid := movePlaces.proved
end Go.Proofs.Ytcggiljlilbdfaa

/-
  The document's Deep: how many trees lie in one another.
  The contract of word, and of the closure in it.
-/
import Derived.Test.YtmapfpeaaipdoaaGreatDoorQ20
import Derived.Test.YtmapfpeaaipdoaaGreatDoorQ18
namespace Go.Proofs.YtmapfpeaaipdoaaGreatDoor
open Go.RowKit
set_option maxHeartbeats 6000000

def maxD (f : T → Nat) : List T → Nat
  | [] => 0
  | x :: r => max (f x) (maxD f r)
def depT : Nat → T → Nat
  | 0, _ => 0
  | n + 1, t => if t.k = 6 ∨ t.k = 7 ∨ t.k = 8 then maxD (depT n) t.l + 1 else 1
theorem maxD_app (f : T → Nat) (l : List T) (x : T) : maxD f (l ++ [x]) = max (maxD f l) (f x) := by
  induction l with
  | nil => simp [maxD]
  | cons a r ih => simp only [List.cons_append, maxD, ih]; omega
theorem maxD_take (f : T → Nat) (l : List T) (j : Nat) (x : T) (h : l[j]? = some x) : maxD f (l.take (j + 1)) = max (maxD f (l.take j)) (f x) := by
  rw [List.take_add_one, h]; exact maxD_app f _ x
theorem maxD_le (f : T → Nat) (l : List T) (c : Nat) (h : ∀ x ∈ l, f x ≤ c) : maxD f l ≤ c := by
  induction l with
  | nil => simp [maxD]
  | cons a r ih =>
    have := h a (List.mem_cons_self ..)
    have := ih (fun x hx => h x (List.mem_cons_of_mem _ hx))
    simp only [maxD]; omega
theorem dep_le (n : Nat) (t : T) : depT n t ≤ n := by
  induction n generalizing t with
  | zero => exact Nat.le_refl _
  | succ n ih =>
    unfold depT
    split
    · have := maxD_le (depT n) t.l n (fun x _ => ih x); omega
    · omega
def DpC (K : FuncId) (n : Nat) (t : T) : Prop := ∀ (W : World) (P : Nat → Prop) (pp : Option Addr) (ln cl : Nat), IsL W P (.slice pp ln cl) t.l → Calls Tryz.prog K #[.agg #[.int .i64 t.k, .int .i64 t.n, .string (bs t.s), .int .i64 t.e, .int .i64 t.r.1, .int .i64 t.r.2.1, .bool t.r.2.2.1, .bool t.r.2.2.2, .int .i64 t.q.1, .int .i64 t.q.2.1, .bool t.q.2.2.1, .bool t.q.2.2.2, .slice pp ln cl]] W fun e w' => e = .returned (.int .i64 ((depT n t : Nat) : Int)) ∧ Ext W w'
set_option maxRecDepth 100000 in
theorem rdeep_leaf (n : Nat) (t : T) (h : ¬ (t.k = 6 ∨ t.k = 7 ∨ t.k = 8)) : DpC 12 (n + 1) t := by
  intro W P pp ln cl _
  have c1 := fun W => rparts_any t.k W
  rw [decide_eq_false h] at c1
  have HX : Hid (depT (n + 1) t = 1) := if_neg h
  clear h
  go_enter Tryz.func12, Tryz.ntmps12
  go_wp2_with fail
  go_loopw [3, 4] (fun nv iv wr => nv = .int .i64 0 ∧ iv = .int .i64 0 ∧ BlkX wr W.heap.size t (.slice pp ln cl) ∧ Ext W wr) (fun _ _ _ => 0)
  case atStart => exact ⟨rfl, rfl, blk13_top rfl (Ext.refl _), (Ext.refl _).alloc _⟩
  case round =>
    obtain ⟨rfl, rfl, hB, hE⟩ := hrel
    have HE : Hid (Ext W wr) := hE
    obtain ⟨qz, ⟨k0, k1, k2, k3, k4, k5, k6, k7, k8, k9, k10, k11, k12⟩, gz⟩ := hB
    clear hE gz
    go_wp2_with fail
    refine (c1 _).mono ?_
    rintro e w1 ⟨rfl, rfl⟩
    go_wp2_with fail
    go_ret
    exact ⟨ret_int (by rw [HX.out]; rfl), HE.out⟩
set_option maxRecDepth 100000 in
theorem rdeep_node (n : Nat) (hn : n ≤ 1000) (t : T) (h : t.k = 6 ∨ t.k = 7 ∨ t.k = 8) (hl : t.l.length ≤ 100000) (hx : ∀ x ∈ t.l, DpC 12 n x) : DpC 12 (n + 1) t := by
  intro W P pp ln cl hL
  have hln : ln = t.l.length := by
    obtain ⟨p, c, h1, _⟩ := hL.form
    cases h1; rfl
  have hl2 : ln ≤ 100000 := by omega
  have c1 := fun W => rparts_any t.k W
  rw [decide_eq_true h] at c1
  have HX : Hid (depT (n + 1) t = maxD (depT n) t.l + 1) := if_pos h
  have HI : Hid (IsL W P (.slice pp ln cl) t.l) := hL
  have HLN : Hid (ln = t.l.length) := hln
  have HXX : Hid (∀ x ∈ t.l, DpC 12 n x) := hx
  have HN : Hid (n ≤ 1000) := hn
  clear h hL hln hl hx hn
  go_enter Tryz.func12, Tryz.ntmps12
  go_wp2_with fail
  go_loopw [3, 4] (fun nv iv wr => ∃ j m : Nat, j ≤ ln ∧ nv = .int .i64 (m : Int) ∧ iv = .int .i64 (j : Int) ∧ m = maxD (depT n) (t.l.take j) ∧ m ≤ 1000 ∧ BlkX wr W.heap.size t (.slice pp ln cl) ∧ Ext W wr) (fun _ iv _ => ln - (intOf iv).toNat)
  case atStart => exact ⟨0, 0, Nat.zero_le _, rfl, rfl, rfl, by omega, blk13_top rfl (Ext.refl _), (Ext.refl _).alloc _⟩
  case round =>
    obtain ⟨j, m, hj, rfl, rfl, hm, hm2, hB, hE⟩ := hrel
    have HE : Hid (Ext W wr ∧ m = maxD (depT n) (t.l.take j)) := ⟨hE, hm⟩
    have HBX : Hid (BlkX wr W.heap.size t (.slice pp ln cl)) := hB
    obtain ⟨qz, ⟨k0, k1, k2, k3, k4, k5, k6, k7, k8, k9, k10, k11, k12⟩, gz⟩ := hB
    clear hE hm gz
    by_cases hlt : j < ln
    · have hltI : (j : Int) < (ln : Int) := by omega
      have hI := HI.out.ext HE.out.1
      obtain ⟨gb, off, x, lv, hpp, hx1, hA1, hgb, hA2, hLx, hce⟩ := hI.at (i := j) (by rw [← HLN.out]; exact hlt)
      clear hA1 hA2
      subst hpp
      obtain ⟨pp, cl', hlv, hcl⟩ := hLx.form
      obtain ⟨ln', hln'⟩ : ∃ ln', x.l.length = ln' := ⟨_, rfl⟩
      rw [hln'] at hlv
      subst hlv
      have HX1 : Hid (t.l[j]? = some x) := hx1
      have HC : Hid (∀ V, Ext wr V → Calls Tryz.prog 12 #[.agg #[.int .i64 x.k, .int .i64 x.n, .string (bs x.s), .int .i64 x.e, .int .i64 x.r.1, .int .i64 x.r.2.1, .bool x.r.2.2.1, .bool x.r.2.2.2, .int .i64 x.q.1, .int .i64 x.q.2.1, .bool x.q.2.2.1, .bool x.q.2.2.2, .slice pp ln' cl']] V fun e w' => e = .returned (.int .i64 ((depT n x : Nat) : Int)) ∧ Ext V w') := fun V e => HXX.out x (List.mem_of_getElem? hx1) V P pp ln' cl' (hLx.ext e)
      have HD : Hid (depT n x ≤ 1000) := by have := dep_le n x; have := HN.out; show _ ≤ _; omega
      obtain ⟨d, hd⟩ : ∃ d, depT n x = d := ⟨_, rfl⟩
      rw [hd] at HC HD
      have HDD : Hid (depT n x = d) := hd
      have hd2 := HD.out
      have e0 : wr.cell? ⟨gb, off + j * 13, none⟩ = some (.int .i64 x.k) := hce 0 _ rfl
      have e1 : wr.cell? ⟨gb, off + j * 13 + 1, none⟩ = some (.int .i64 x.n) := hce 1 _ rfl
      have e2 : wr.cell? ⟨gb, off + j * 13 + 2, none⟩ = some (.string (bs x.s)) := hce 2 _ rfl
      have e3 : wr.cell? ⟨gb, off + j * 13 + 3, none⟩ = some (.int .i64 x.e) := hce 3 _ rfl
      have e4 : wr.cell? ⟨gb, off + j * 13 + 4, none⟩ = some (.int .i64 x.r.1) := hce 4 _ rfl
      have e5 : wr.cell? ⟨gb, off + j * 13 + 5, none⟩ = some (.int .i64 x.r.2.1) := hce 5 _ rfl
      have e6 : wr.cell? ⟨gb, off + j * 13 + 6, none⟩ = some (.bool x.r.2.2.1) := hce 6 _ rfl
      have e7 : wr.cell? ⟨gb, off + j * 13 + 7, none⟩ = some (.bool x.r.2.2.2) := hce 7 _ rfl
      have e8 : wr.cell? ⟨gb, off + j * 13 + 8, none⟩ = some (.int .i64 x.q.1) := hce 8 _ rfl
      have e9 : wr.cell? ⟨gb, off + j * 13 + 9, none⟩ = some (.int .i64 x.q.2.1) := hce 9 _ rfl
      have e10 : wr.cell? ⟨gb, off + j * 13 + 10, none⟩ = some (.bool x.q.2.2.1) := hce 10 _ rfl
      have e11 : wr.cell? ⟨gb, off + j * 13 + 11, none⟩ = some (.bool x.q.2.2.2) := hce 11 _ rfl
      have e12 : wr.cell? ⟨gb, off + j * 13 + 12, none⟩ = some (.slice pp ln' cl') := hce 12 _ rfl
      clear hI hx1 hLx hce hcl hln' hd
      go_wp2_with fail
      refine (c1 _).mono ?_
      rintro e w0 ⟨rfl, rfl⟩
      go_wp2_with fail
      refine (HC.out _ (Ext.refl _)).mono ?_
      rintro e w1 ⟨rfl, E1⟩
      have HE1 : Hid (Ext W w1 ∧ BlkX w1 W.heap.size t (.slice (some ⟨gb, off, none⟩) ln cl)) := ⟨HE.out.1.trans E1, HBX.out.ext E1⟩
      clear E1 k0 k1 k2 k3 k4 k5 k6 k7 k8 k9 k10 k11 k12 e0 e1 e2 e3 e4 e5 e6 e7 e8 e9 e10 e11 e12
      by_cases hgt : (m : Int) < (d : Int)
      · go_wp2_with fail
        go_roundw
        case rel => exact ⟨j + 1, d, by omega, rfl, by go_num, by rw [maxD_take _ _ _ _ HX1.out, ← HE.out.2, HDD.out]; omega, by omega, HE1.out.2, HE1.out.1⟩
        case measure => show ln - ((j : Int) + 1).toNat < ln - ((j : Int)).toNat; omega
      · go_wp2_with fail
        go_roundw
        case rel => exact ⟨j + 1, m, by omega, rfl, by go_num, by rw [maxD_take _ _ _ _ HX1.out, ← HE.out.2, HDD.out]; omega, by omega, HE1.out.2, HE1.out.1⟩
        case measure => show ln - ((j : Int) + 1).toNat < ln - ((j : Int)).toNat; omega
    · have hltI : ¬ (j : Int) < (ln : Int) := by omega
      have HT : Hid (t.l.take j = t.l) := by show _ = _; exact List.take_of_length_le (by have := HLN.out; omega)
      go_wp2_with fail
      refine (c1 _).mono ?_
      rintro e w0 ⟨rfl, rfl⟩
      go_wp2_with fail
      go_ret
      refine ⟨ret_int ?_, HE.out.1⟩
      rw [HX.out, ← HT.out, ← HE.out.2]; omega
theorem rdeep_any (n : Nat) (hn : n ≤ 1000) (t : T) (h : Hr n t) : DpC 12 n t := by
  induction n generalizing t with
  | zero => cases h
  | succ n ih =>
    by_cases k : t.k = 6 ∨ t.k = 7 ∨ t.k = 8
    · exact rdeep_node n (by omega) t k h.1 (fun x hx => ih (by omega) x (h.2 x hx))
    · exact rdeep_leaf n t k
end Go.Proofs.YtmapfpeaaipdoaaGreatDoor

namespace Go.Proofs.YtmapfpeaaipdoaaGreatDoor
open Go.RowKit
set_option maxHeartbeats 6000000

theorem PL.cases {w0 : World} {b : Nat} {w : World} {d : Nat} {r : Except Ft (List T × List Tk)} {e : Ending} {w' : World} (h : PL w0 b w d r e w') :
    (∃ f, r = .error f ∧ e = pft f ∧ ExtB b w w') ∨ (∃ l ts pp ln cl, r = .ok (l, ts) ∧ e = .returned (.slice pp ln cl) ∧ IsL w' (w.heap.size ≤ ·) (.slice pp ln cl) l ∧ Stt w0 b w' ts d ∧ ExtB b w w') := by
  cases r with
  | error f => exact .inl ⟨f, rfl, h.1, h.2⟩
  | ok a =>
    obtain ⟨l, ts⟩ := a
    obtain ⟨⟨v, h1, h2⟩, h3, h4⟩ := h
    obtain ⟨p, c, h5, _⟩ := h2.form
    subst h5
    exact .inr ⟨l, ts, p, l.length, c, rfl, h1, h2, h3, h4⟩
set_option maxRecDepth 100000 in
theorem word1_any (w0 : World) (b d n la lb : Nat) (F : Rd) (s : List UInt8) (pn pr pa pb : Nat) (ts : List Tk) (w : World) (hla : la ≤ 20) (hlb : lb ≤ 20) (hF : RdF w0 b n F 32) (hsh : ShF n F) (hT : Tab w0)
    (hn1 : w.cell? ⟨pn, 0, none⟩ = some (.string (bs s))) (hr1 : w.cell? ⟨pr, 0, none⟩ = some (.pointer (some ⟨b, 0, none⟩))) (ha1 : w.cell? ⟨pa, 0, none⟩ = some (.int .i64 (la : Int))) (hb1 : w.cell? ⟨pb, 0, none⟩ = some (.int .i64 (lb : Int)))
    (hb : (pn ≠ b ∧ pr ≠ b ∧ pa ≠ b ∧ pb ≠ b) ∧ pn < w.heap.size ∧ pr < w.heap.size ∧ pa < w.heap.size ∧ pb < w.heap.size)
    (h : Stt w0 b w ts d) (hn : ts.length ≤ n) :
    Calls Tryz.prog 72 #[.pointer (some ⟨pn, 0, none⟩), .pointer (some ⟨pr, 0, none⟩), .pointer (some ⟨pa, 0, none⟩), .pointer (some ⟨pb, 0, none⟩)] w (PR w0 b w d (call F s la lb d ts)) := by
  have h3 := h.2.2.1
  have HS : Hid (Stt w0 b w ts d) := h
  have HZ : Hid (w0.heap.size ≤ w.heap.size) := h.1.sz
  have hg0 : w.heap.size ≠ b := by omega
  have c4 : ∀ W, Stt w0 b W ts d → Calls Tryz.prog 73 #[.pointer (some ⟨b, 0, none⟩), .int .i64 (la : Int), .int .i64 (lb : Int)] W (PL w0 b W d (args F la lb d ts)) := fun W hS => arguments_any w0 b d n la lb F ts W hla hlb hF hsh hT hS hn
  have HSd : Hid (∀ W, Ext w W → Stt w0 b W ts d) := fun W e => h.ext e
  have HXe : Hid (∀ f, args F la lb d ts = .error f → call F s la lb d ts = .error f) := by intro f hr; rw [call_eq, hr]; rfl
  have HXo : Hid (∀ l us, args F la lb d ts = .ok (l, us) → call F s la lb d ts = .ok (tCall s l, us)) := by intro l us hr; rw [call_eq, hr]; rfl
  have mkS : Hid (∀ W, ExtB b w W → (W.cell? ⟨pn, 0, none⟩ = some (.string (bs s)) ∧ W.cell? ⟨pr, 0, none⟩ = some (.pointer (some ⟨b, 0, none⟩)) ∧ W.cell? ⟨pa, 0, none⟩ = some (.int .i64 (la : Int)) ∧ W.cell? ⟨pb, 0, none⟩ = some (.int .i64 (lb : Int))) ∧ ExtB b w W) := by
    obtain ⟨⟨u1, u2, u3, u4⟩, v1, v2, v3, v4⟩ := hb
    intro W e
    exact ⟨⟨((e.cell v1 u1 0).1).trans hn1, ((e.cell v2 u2 0).1).trans hr1, ((e.cell v3 u3 0).1).trans ha1, ((e.cell v4 u4 0).1).trans hb1⟩, e⟩
  have HB0 : Hid (∀ W, ExtB b (w.alloc (.cells #[.int .i64 0, .int .i64 0, .string ⟨#[]⟩, .int .i64 0, .int .i64 0, .int .i64 0, .bool false, .bool false, .int .i64 0, .int .i64 0, .bool false, .bool false, .slice none 0 0] 26)) W → BlkX W w.heap.size tz (.slice none 0 0)) := fun W e => (BlkX.top rfl (Ext.refl _)).extB e hg0
  have hE0 : ExtB b w (w.alloc (.cells #[.int .i64 0, .int .i64 0, .string ⟨#[]⟩, .int .i64 0, .int .i64 0, .int .i64 0, .bool false, .bool false, .int .i64 0, .int .i64 0, .bool false, .bool false, .slice none 0 0] 26)) := (ExtB.refl b w).alloc _
  have hsz : (w.alloc (.cells #[.int .i64 0, .int .i64 0, .string ⟨#[]⟩, .int .i64 0, .int .i64 0, .int .i64 0, .bool false, .bool false, .int .i64 0, .int .i64 0, .bool false, .bool false, .slice none 0 0] 26)).heap.size = w.heap.size + 1 := by simp
  have HSZ : Hid ((w.alloc (.cells #[.int .i64 0, .int .i64 0, .string ⟨#[]⟩, .int .i64 0, .int .i64 0, .int .i64 0, .bool false, .bool false, .int .i64 0, .int .i64 0, .bool false, .bool false, .slice none 0 0] 26)).heap.size = w.heap.size + 1) := hsz
  clear h hF hsh hT hn hn1 hr1 ha1 hb1 hb hla hlb hsz
  cases hra : args F la lb d ts with
  | error f =>
    rw [hra] at c4
    have HX : Hid (call F s la lb d ts = .error f) := HXe.out f hra
    clear hra
    go_enter Tryz.func72, Tryz.ntmps72
    go_wp2_with fail
    refine wp_region_held_drew (S := (fun W => (W.cell? ⟨pn, 0, none⟩ = some (.string (bs s)) ∧ W.cell? ⟨pr, 0, none⟩ = some (.pointer (some ⟨b, 0, none⟩)) ∧ W.cell? ⟨pa, 0, none⟩ = some (.int .i64 (la : Int)) ∧ W.cell? ⟨pb, 0, none⟩ = some (.int .i64 (lb : Int))) ∧ ExtB b w W)) (by kernel_rfl) ?_ (fun hHeld => ?_)
    · ((refine mkS.out _ ?_; with_reducible (repeat (first | assumption | apply ExtB.drew | apply ExtB.alloc | (refine ExtB.set ?_ (.inr (Nat.le_refl _)) _))); done))
    refine wpAnyH_take (i := 0) (v := ?_) rfl (by kernel_rfl) (by kernel_rfl) (by kernel_rfl) (fun _ _ _ h => h) (Or.inl ⟨by rfl, ?_⟩) (by assumption) ?_
    rotate_left
    · intro w hSw; (try dsimp only at hSw); first | (go_simp; done) | (go_simp; with_reducible rfl)
    refine wpAnyH_take (i := 1) (v := ?_) rfl (by kernel_rfl) (by kernel_rfl) (by kernel_rfl) (fun _ _ _ h => h) (Or.inl ⟨by rfl, ?_⟩) (by assumption) ?_
    rotate_left
    · intro w hSw; (try dsimp only at hSw); first | (go_simp; done) | (go_simp; with_reducible rfl)
    refine wpAnyH_take (i := 2) (v := ?_) rfl (by kernel_rfl) (by kernel_rfl) (by kernel_rfl) (fun _ _ _ h => h) (Or.inl ⟨by rfl, ?_⟩) (by assumption) ?_
    rotate_left
    · intro w hSw; (try dsimp only at hSw); first | (go_simp; done) | (go_simp; with_reducible rfl)
    refine wpAnyH_take (i := 3) (v := ?_) rfl (by kernel_rfl) (by kernel_rfl) (by kernel_rfl) (fun _ _ _ h => h) (Or.inl ⟨by rfl, ?_⟩) (by assumption) ?_
    rotate_left
    · intro w hSw; (try dsimp only at hSw); first | (go_simp; done) | (go_simp; with_reducible rfl)
    refine wpAnyH_ready (rs := [4]) (by kernel_rfl) (by simp) ?_
    refine AllReadyH.cons rfl (fun K hK => ?_) AllReadyH.nil
    go_simp
    refine (c4 _ (HSd.out _ (by first | exact ((Ext.refl _).alloc _).drew | exact (((Ext.refl _).alloc _).drewN _)))).mono ?_; rintro e w5 ⟨rfl, E5⟩; exact ⟨rfl, (by rw [HX.out]; exact ⟨rfl, ((ExtB.alloc (ExtB.refl b w) _).drew).trans E5⟩ : PR w0 b w d (call F s la lb d ts) (pft f) w5)⟩
  | ok a =>
    obtain ⟨l, us⟩ := a
    rw [hra] at c4
    have HX : Hid (call F s la lb d ts = .ok (tCall s l, us)) := HXo.out l us hra
    have c5 : ∀ W, Stt w0 b W ts d → Calls Tryz.prog 73 #[.pointer (some ⟨b, 0, none⟩), .int .i64 (la : Int), .int .i64 (lb : Int)] W fun e w' => (∃ v, e = .returned v ∧ IsL w' (W.heap.size ≤ ·) v l) ∧ Stt w0 b w' us d ∧ ExtB b W w' := c4
    clear hra c4
    go_enter Tryz.func72, Tryz.ntmps72
    go_wp2_with fail
    go_region_held3 (fun W => (W.cell? ⟨pn, 0, none⟩ = some (.string (bs s)) ∧ W.cell? ⟨pr, 0, none⟩ = some (.pointer (some ⟨b, 0, none⟩)) ∧ W.cell? ⟨pa, 0, none⟩ = some (.int .i64 (la : Int)) ∧ W.cell? ⟨pb, 0, none⟩ = some (.int .i64 (lb : Int))) ∧ ExtB b w W)
      ((refine mkS.out _ ?_; with_reducible (repeat (first | assumption | apply ExtB.drew | apply ExtB.alloc | (refine ExtB.set ?_ (.inr (Nat.le_refl _)) _))); done))
      ((go_at_call 73; refine (c5 _ (HSd.out _ (by first | exact ((Ext.refl _).alloc _).drew | exact (((Ext.refl _).alloc _).drewN _)))).mono ?_; rintro e w5 ⟨⟨v, rfl, hL⟩, S5, E5⟩; obtain ⟨pp, cl, hv, _⟩ := hL.form; subst hv; have X5 : ExtB b w w5 := ((ExtB.alloc (ExtB.refl b w) _).drew).trans E5; have Y5 : ExtB b (w.alloc (.cells #[.int .i64 0, .int .i64 0, .string ⟨#[]⟩, .int .i64 0, .int .i64 0, .int .i64 0, .bool false, .bool false, .int .i64 0, .int .i64 0, .bool false, .bool false, .slice none 0 0] 26)) w5 := (ExtB.drew (ExtB.refl b _)).trans E5; have HR5 : Hid (Stt w0 b w5 us d ∧ ExtB b w w5 ∧ IsL w5 (w.heap.size + 1 ≤ ·) (.slice pp l.length cl) l ∧ BlkX w5 w.heap.size tz (.slice none 0 0)) := ⟨S5, X5, hL.mono (fun k hk _ => (by have h9 := HSZ.out; simp at hk h9; omega)), HB0.out _ Y5⟩; have U5 := HR5.out.2.2.2; obtain ⟨qf, ⟨lf0, lf1, lf2, lf3, lf4, lf5, lf6, lf7, lf8, lf9, lf10, lf11, lf12⟩, gf0, gf1, gf2, gf3, gf4, gf5, gf6, gf7, gf8, gf9, gf10, gf11, gf12⟩ := U5; clear S5 E5 hL Y5))
    go_wp2_with fail
    rw [HX.out]
    exact endP (W := w5) (g := w.heap.size) (t := tCall s l) (ts := us) (w.heap.size + 1 ≤ ·) HR5.out.2.2.2 rfl HR5.out.2.2.1 (fun k hk => ⟨by omega, by omega⟩) HR5.out.1 hg0 (Nat.le_refl _) HZ.out HR5.out.2.1 (Ext.refl _) (fun h0 h1 h2 h3 h4 h5 h6 h7 h8 h9 h10 h11 h12 => by simp [results, Tryz.results72, go_sem, h0, h1, h2, h3, h4, h5, h6, h7, h8, h9, h10, h11, h12, aggX])
end Go.Proofs.YtmapfpeaaipdoaaGreatDoor

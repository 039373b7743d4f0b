/-
 Package funcs: arguments in memory; single, must, number, text, truth, whole, wholeOrOne, told, size.
 Package funcs: an argument as a number, a text, a truth, a whole number, an area; told, size.
 Package funcs: an argument as an area; IF, MOD, LEFT, IFERROR.
 Package funcs: an argument as an area; INDEX.
-/
import Derived.Test.YtalejeknigbhjaaGreatDoorY11
import Derived.Test.YtalejeknigbhjaaGreatDoorY13
import Derived.Test.YtalejeknigbhjaaGreatDoorY9
namespace Go.Proofs.YtalejeknigbhjaaGreatDoor
open Go.RowKit
set_option maxHeartbeats 1000000

/-- The slice v holds the arguments l, in blocks below B. -/
def RdB (B : Nat) (W : World) (v : Value) (l : List Bg) : Prop :=
 ∃ p c, v = .slice p l.length c ∧ l.length ≤ c ∧ (l = [] ∨ ∃ b off, p = some ⟨b, off, none⟩ ∧ b < B ∧ b < W.heap.size ∧ ∀ i a, l[i]? = some a → ∃ (lv : Value),
   W.cell? ⟨b, off + i * 4, none⟩ = some (.bool a.g.area) ∧ W.cell? ⟨b, off + i * 4 + 1, none⟩ = some (.int .i64 a.rows) ∧ W.cell? ⟨b, off + i * 4 + 2, none⟩ = some (.int .i64 a.cols) ∧ W.cell? ⟨b, off + i * 4 + 3, none⟩ = some lv ∧ RdV B W lv a.g.l)
theorem RdB.low {B : Nat} {W W' : World} {v : Value} {l : List Bg} (h : RdB B W v l) (e : Below B W W') : RdB B W' v l := by
 obtain ⟨p, c, h1, h2, h3⟩ := h
 refine ⟨p, c, h1, h2, ?_⟩
 rcases h3 with h3 | ⟨b, off, h3, h4, h5, h6⟩
 · exact .inl h3
 · refine .inr ⟨b, off, h3, h4, Nat.lt_of_lt_of_le h5 e.size, fun i r hr => ?_⟩
   have k := fun o => Below.cell e (p := ⟨b, o, none⟩) h4
   obtain ⟨lv, k0, k1, k2, k3, k4⟩ := h6 i r hr
   exact ⟨lv, (k _).trans k0, (k _).trans k1, (k _).trans k2, (k _).trans k3, k4.low e⟩
theorem RdB.up {B B' : Nat} {W : World} {v : Value} {l : List Bg} (h : RdB B W v l) (e : B ≤ B') : RdB B' W v l := by
 obtain ⟨p, c, h1, h2, h3⟩ := h
 refine ⟨p, c, h1, h2, ?_⟩
 rcases h3 with h3 | ⟨b, off, h3, h4, h5, h6⟩
 · exact .inl h3
 · refine .inr ⟨b, off, h3, Nat.lt_of_lt_of_le h4 e, h5, fun i r hr => ?_⟩
   obtain ⟨lv, k0, k1, k2, k3, k4⟩ := h6 i r hr
   exact ⟨lv, k0, k1, k2, k3, k4.up e⟩
theorem RdB.to {B : Nat} {W W' : World} {v : Value} {l : List Bg} (h : RdB B W v l) (hB : B ≤ W.heap.size) (e : Ext W W') : RdB W'.heap.size W' v l := ((h.up hB).low e).up e.size
theorem RdB.at {B : Nat} {W : World} {p : Option Addr} {c n : Nat} {l : List Bg} (h : RdB B W (.slice p n c) l) {i : Nat} {a : Bg} (hi : l[i]? = some a) :
   ∃ (b off : Nat) (lv : Value), p = some ⟨b, off, none⟩ ∧ b < B ∧ b < W.heap.size ∧
     (W.cell? ⟨b, off + i * 4, none⟩ = some (.bool a.g.area) ∧ W.cell? ⟨b, off + i * 4 + 1, none⟩ = some (.int .i64 a.rows) ∧ W.cell? ⟨b, off + i * 4 + 2, none⟩ = some (.int .i64 a.cols) ∧ W.cell? ⟨b, off + i * 4 + 3, none⟩ = some lv) ∧ RdV B W lv a.g.l := by
 obtain ⟨p', c', h1, h2, h3⟩ := h
 cases h1
 rcases h3 with h3 | ⟨b, off, h3, h4, h5, h6⟩
 · subst h3; simp at hi
 · obtain ⟨lv, k0, k1, k2, k3, k4⟩ := h6 i _ hi
   exact ⟨b, off, lv, h3, h4, h5, ⟨k0, k1, k2, k3⟩, k4⟩
theorem RdB.form {B : Nat} {W : World} {v : Value} {l : List Bg} (h : RdB B W v l) : ∃ p n c, v = .slice p n c ∧ n = l.length ∧ n ≤ c := by
 obtain ⟨p, c, h1, h2, _⟩ := h
 exact ⟨p, _, c, h1, rfl, h2⟩
theorem RdB.len {B : Nat} {W : World} {p : Option Addr} {c n : Nat} {l : List Bg} (h : RdB B W (.slice p n c) l) : n = l.length := by
 obtain ⟨p', c', h1, _⟩ := h
 cases h1; rfl
theorem RdB.toA {B : Nat} {W : World} {v : Value} {l : List Bg} (h : RdB B W v l) : RdA B W v (gsOf l) := by
 obtain ⟨p, c, h1, h2, h3⟩ := h
 have e : (gsOf l).length = l.length := by simp [gsOf]
 refine ⟨p, c, by rw [e]; exact h1, by rw [e]; exact h2, ?_⟩
 rcases h3 with h3 | ⟨b, off, h3, h4, h5, h6⟩
 · subst h3; exact .inl rfl
 · refine .inr ⟨b, off, h3, h4, h5, fun i r hr => ?_⟩
   unfold gsOf at hr
   rw [List.getElem?_map] at hr
   cases hx : l[i]? with
   | none => rw [hx] at hr; cases hr
   | some a =>
     rw [hx] at hr
     simp at hr
     subst hr
     obtain ⟨lv, k0, k1, k2, k3, k4⟩ := h6 i a hx
     exact ⟨_, _, lv, k0, k1, k2, k3, k4⟩
/-- What is asked of arguments. -/
structure FitB (W : World) (v : Value) (l : List Bg) : Prop where
 rd : RdB W.heap.size W v l
 i : AgI (gsOf l)
 s : (seen (gsOf l)).length ≤ 1500000
 z : l.length ≤ 1500000
 r : ∀ a ∈ l, I64 a.rows ∧ I64 a.cols
theorem FitB.ext {W W' : World} {v : Value} {l : List Bg} (h : FitB W v l) (e : Ext W W') : FitB W' v l := ⟨h.rd.to (Nat.le_refl _) e, h.i, h.s, h.z, h.r⟩
theorem FitB.ok {W : World} {v : Value} {l : List Bg} (h : FitB W v l) (i : Nat) : (sg l i).ok := by
 unfold sg
 cases hx : l[i]? with
 | none => exact ⟨by decide, by decide⟩
 | some a =>
   show (sgl a).ok
   unfold sgl
   split
   · exact ⟨by decide, by decide⟩
   · have := h.i a.g (by unfold gsOf; exact List.mem_map.2 ⟨a, List.mem_of_getElem? hx, rfl⟩)
     cases hl : a.g.l with
     | nil => trivial
     | cons r t => exact nm_ok _ _ _ _ (this r (by rw [hl]; simp))

set_option maxRecDepth 100000 in
theorem xsingle_any (l : List Bg) (i : Nat) (a : Bg) (hi : l[i]? = some a) (p : Option Addr) (n c B : Nat) (W : World) (hN : Nm W) (h : RdB B W (.slice p n c) l) (hm : n ≤ 1500000) :
   Calls Tryz.prog 79 #[.slice p n c, .int .i64 (i : Int)] W fun e w' => e = .returned (sgl a).dat ∧ Ext W w' := by
 have hn := h.len
 have hlt : i < n := by rw [hn]; exact (List.getElem?_eq_some_iff.1 hi).1
 obtain ⟨b, off, lv, rfl, hb, hbW, ⟨k0, k1, k2, k3⟩, hV⟩ := h.at hi
 obtain ⟨p', n', c', rfl, hn', hc'⟩ := hV.form
 have hltI : (i : Int) < (n : Int) := by omega
 have hmI : (n : Int) ≤ 1500000 := by omega
 have HV : Hid (RdV B W (.slice p' n' c') a.g.l) := hV
 clear h hi hn hlt hb hV hc' hm
 have c2 := fun W h => err_any 2 W h
 rw [mkErr_is ⟨by decide, by decide⟩] at c2
 simp only [V.dat] at c2
 cases har : a.g.area with
 | true =>
   have H : Hid (sgl a = .err 2) := by show _ = _; unfold sgl; rw [har]; rfl
   rw [har] at k0
   clear har hn'
   go_enter Tryz.func79, Tryz.ntmps79
   go_wp2_with fail
   refine (c2 _ (hN.ext ((Ext.refl _).alloc _))).mono ?_
   rintro e w1 ⟨rfl, E1⟩
   obtain ⟨z, ⟨b0, b1, b2, b3⟩, f0, f1, f2, f3⟩ := blk_top (b := W.heap.size) (by simp) E1
   go_wp2_with fail
   exact fin4 b0 b1 b2 b3 rfl (by simp) (((Ext.refl _).alloc _).trans E1) (fun W g0 g1 g2 g3 => by simp [results, Tryz.results79, go_sem, g0, g1, g2, g3]) (fun W h => ⟨by rw [H.out]; rfl, h⟩)
 | false =>
   have H : Hid (sgl a = one1 a.g.l) := by show _ = _; unfold sgl; rw [har]; rfl
   rw [har] at k0
   clear har c2
   cases hl : a.g.l with
   | nil =>
     have H1 : Hid (sgl a = .blank) := by show _ = _; rw [H.out, hl]; rfl
     have e0 : n' = 0 := by rw [hn', hl]; rfl
     subst e0
     clear hl hn' H
     go_enter Tryz.func79, Tryz.ntmps79
     go_wp2_with fail
     simp [bodyPost, results, Tryz.results79, go_sem]
     exact ⟨by rw [H1.out]; rfl, (Ext.refl _).alloc _⟩
   | cons r t =>
     have H1 : Hid (sgl a = nm r.k r.n r.s r.e) := by show _ = _; rw [H.out, hl]; rfl
     have hV := HV.out
     rw [hl] at hV
     obtain ⟨b', off', r', rfl, hr, hb', hbW', j0, j1, j2, j3⟩ := hV.at (i := 0) (by simp)
     simp at hr
     subst hr
     simp only [Nat.zero_mul, Nat.add_zero] at j0 j1 j2 j3
     have e1 : ((n' : Int) == 0) = false := by simp; rw [hn', hl]; simp
     have e2 : (0 : Int) < (n' : Int) := by rw [hn', hl]; simp only [List.length_cons]; omega
     have c0 := fun W h => vnormal_any r.k r.n r.s r.e W h
     obtain ⟨q0, q1, q2, q3, hq⟩ := dat4 (nm r.k r.n r.s r.e)
     rw [hq] at c0
     have HQ : Hid ((nm r.k r.n r.s r.e).dat = .agg #[.int .i64 q0, .int .i64 q1, .string q2, .int .i64 q3]) := hq
     clear hq hV hl hn' HV H hb'
     go_enter Tryz.func79, Tryz.ntmps79
     go_wp2_with fail
     refine (c0 _ (hN.ext ((Ext.refl _).alloc _))).mono ?_
     rintro e w1 ⟨rfl, E1⟩
     obtain ⟨z, ⟨b0, b1, b2, b3⟩, f0, f1, f2, f3⟩ := blk_top (b := W.heap.size) (by simp) E1
     go_wp2_with fail
     exact fin4 b0 b1 b2 b3 rfl (by simp) (((Ext.refl _).alloc _).trans E1) (fun W g0 g1 g2 g3 => by simp [results, Tryz.results79, go_sem, g0, g1, g2, g3]) (fun W h => ⟨by rw [H1.out, HQ.out], h⟩)

/-- How a call fails. -/
def pan (x : Int) : Ending := .panicked [{ v := .iface 54 (.int .i64 x), recovered := false }]
def RzQ {α : Type} (f : α → Value) (r : R α) (e : Ending) : Prop := match r with
 | .ok v => e = .returned (f v)
 | .error x => e = pan x
theorem xmust_ok (k n : Int) (s : ByteArray) (e : Int) (hk : (k == 4) = false) (W : World) :
   Calls Tryz.prog 109 #[.agg #[.int .i64 k, .int .i64 n, .string s, .int .i64 e]] W fun r w' => r = .returned (.agg #[.int .i64 k, .int .i64 n, .string s, .int .i64 e]) ∧ Ext W w' := by
 go_enter Tryz.func109, Tryz.ntmps109
 go_wp2_with fail
 simp [bodyPost, results, Tryz.results109, go_sem]
 exact ((Ext.refl _).alloc _).alloc _
theorem xmust_no (k n : Int) (s : ByteArray) (e : Int) (hk : (k == 4) = true) (W : World) :
   Calls Tryz.prog 109 #[.agg #[.int .i64 k, .int .i64 n, .string s, .int .i64 e]] W fun r w' => r = pan e ∧ Ext W w' := by
 go_enter Tryz.func109, Tryz.ntmps109
 go_wp2_with fail
 exact ⟨rfl, rfl, (((Ext.refl _).alloc _).alloc _)⟩

open Go.RowKit
set_option maxHeartbeats 1000000

theorem nuR_ok {v : V} {n : Int} (h : v.toNum = .num n) : nuR v = .ok n := by unfold nuR; rw [h]; rfl
theorem nuR_no {v : V} {e : Int} (h : v.toNum = .err e) : nuR v = .error e := by unfold nuR; rw [h]
theorem nuR_can {v : V} {n : Int} (hv : v.ok) (h : nuR v = .ok n) : I64 n ∧ canB n = true := by
 rcases toNum_cases v hv with ⟨m, hm, h2⟩ | ⟨e, he, _⟩
 · rw [nuR_ok hm] at h; cases h; exact h2
 · rw [nuR_no he] at h; cases h
theorem toBool_cases (v : V) : (∃ b, v.toBool = .tf b) ∨ (∃ e, v.toBool = .err e) := by
 cases v with
 | blank => exact .inl ⟨_, rfl⟩
 | tf b => exact .inl ⟨_, rfl⟩
 | num n => exact .inl ⟨_, rfl⟩
 | err e => exact .inr ⟨_, rfl⟩
 | text s =>
   show (∃ b, (if s.data.toList = trueL then V.tf true else if s.data.toList = falseL then V.tf false else V.err 2) = .tf b) ∨ (∃ e, (if s.data.toList = trueL then V.tf true else if s.data.toList = falseL then V.tf false else V.err 2) = .err e)
   split
   · exact .inl ⟨_, rfl⟩
   · split
     · exact .inl ⟨_, rfl⟩
     · exact .inr ⟨_, rfl⟩
/-- The arguments, and which one it is. -/
structure At (W : World) (v : Value) (l : List Bg) (i : Nat) (a : Bg) : Prop where
 f : FitB W v l
 n : Nm W
 a : l[i]? = some a
theorem At.ext {W W' : World} {v : Value} {l : List Bg} {i : Nat} {a : Bg} (h : At W v l i a) (e : Ext W W') : At W' v l i a := ⟨h.f.ext e, h.n.ext e, h.a⟩
theorem At.sg {W : World} {v : Value} {l : List Bg} {i : Nat} {a : Bg} (h : At W v l i a) : sg l i = sgl a := by unfold Go.Proofs.YtalejeknigbhjaaGreatDoor.sg; rw [h.a]
theorem At.ok {W : World} {v : Value} {l : List Bg} {i : Nat} {a : Bg} (h : At W v l i a) : (sgl a).ok := by rw [← h.sg]; exact h.f.ok i
theorem At.one {W : World} {p : Option Addr} {n c : Nat} {l : List Bg} {i : Nat} {a : Bg} (h : At W (.slice p n c) l i a) :
   Calls Tryz.prog 79 #[.slice p n c, .int .i64 (i : Int)] W fun e w' => e = .returned (.agg #[.int .i64 (sgl a).k, .int .i64 (sgl a).n, .string (sgl a).s, .int .i64 (sgl a).e]) ∧ Ext W w' := by
 have := xsingle_any l i a h.a p n c _ W h.n h.f.rd (by rw [h.f.rd.len]; exact h.f.z)
 rwa [dat_eq] at this

theorem teR_ok {v : V} {s : ByteArray} (h : v.toText = .text s) : teR v = .ok s := by unfold teR; rw [h]; rfl
theorem teR_no {v : V} {e : Int} (h : v.toText = .err e) : teR v = .error e := by unfold teR; rw [h]
theorem trR_ok {v : V} {b : Bool} (h : v.toBool = .tf b) : trR v = .ok b := by unfold trR; rw [h]; cases b <;> rfl
theorem trR_no {v : V} {e : Int} (h : v.toBool = .err e) : trR v = .error e := by unfold trR; rw [h]
theorem fld_n (k n : Int) (s : ByteArray) (e : Int) (W : World) : (Instr.field 25 (.agg #[.int .i64 k, .int .i64 n, .string s, .int .i64 e]) 1).run Tryz.prog W = .ok (.int .i64 n) W := by kernel_rfl
theorem fld_s (k n : Int) (s : ByteArray) (e : Int) (W : World) : (Instr.field 25 (.agg #[.int .i64 k, .int .i64 n, .string s, .int .i64 e]) 2).run Tryz.prog W = .ok (.string s) W := by kernel_rfl
theorem fld_k (k n : Int) (s : ByteArray) (e : Int) (W : World) : (Instr.field 25 (.agg #[.int .i64 k, .int .i64 n, .string s, .int .i64 e]) 0).run Tryz.prog W = .ok (.int .i64 k) W := by kernel_rfl
theorem xnumber_any (l : List Bg) (i : Nat) (a : Bg) (p : Option Addr) (n c : Nat) (W : World) (h : At W (.slice p n c) l i a) :
   Calls Tryz.prog 69 #[.slice p n c, .int .i64 (i : Int)] W fun e w' => RzQ (Value.int .i64) (nuR (sgl a)) e ∧ Ext W w' := by
 have c0 := h.one
 have hok := h.ok
 have c1 := fun W hN => vtonum_any (sgl a).k (sgl a).n (sgl a).s (sgl a).e W (nm_of _ hok).2 hN
 rw [(nm_of _ hok).1] at c1
 have HN : Hid (Nm W) := h.n
 generalize sgl a = v at *
 clear h
 generalize v.k = k0, v.n = n0, v.s = s0, v.e = e0 at c0 c1
 rcases toNum_cases v hok with ⟨x, hx, _⟩ | ⟨x, hx, _⟩
 · rw [nuR_ok hx]
   rw [hx] at c1
   simp only [V.dat] at c1
   clear hok hx
   have c2 := fun W => xmust_ok 2 x ⟨#[]⟩ 0 rfl W
   have hf := fld_n
   go_enter Tryz.func69, Tryz.ntmps69
   go_wp2_with fail
   refine c0.mono ?_
   rintro e w1 ⟨rfl, E1⟩
   have X1 : Hid (Ext W w1) := E1
   clear E1
   go_wp2_with fail
   refine (c1 _ (HN.out.ext X1.out)).mono ?_
   rintro e w2 ⟨rfl, E2⟩
   have X2 : Hid (Ext W w2) := X1.out.trans E2
   clear E2
   go_wp2_with fail
   refine (c2 _).mono ?_
   rintro e w3 ⟨rfl, E3⟩
   go_wp2_with fail
   go_ret
   exact ⟨rfl, X2.out.trans E3⟩
 · rw [nuR_no hx]
   rw [hx] at c1
   simp only [V.dat] at c1
   clear hok hx
   have c2 := fun W => xmust_no 4 0 ⟨#[]⟩ x rfl W
   have hf := fld_n
   go_enter Tryz.func69, Tryz.ntmps69
   go_wp2_with fail
   refine c0.mono ?_
   rintro e w1 ⟨rfl, E1⟩
   have X1 : Hid (Ext W w1) := E1
   clear E1
   go_wp2_with fail
   refine (c1 _ (HN.out.ext X1.out)).mono ?_
   rintro e w2 ⟨rfl, E2⟩
   have X2 : Hid (Ext W w2) := X1.out.trans E2
   clear E2
   go_wp2_with fail
   refine (c2 _).mono ?_
   rintro e w3 ⟨rfl, E3⟩
   exact ⟨rfl, rfl, X2.out.trans E3⟩
theorem xtext_any (l : List Bg) (i : Nat) (a : Bg) (p : Option Addr) (n c : Nat) (W : World) (h : At W (.slice p n c) l i a) (hT : Tab W) :
   Calls Tryz.prog 76 #[.slice p n c, .int .i64 (i : Int)] W fun e w' => RzQ (Value.string) (teR (sgl a)) e ∧ Ext W w' := by
 have c0 := h.one
 have hok := h.ok
 have c1 := fun W hN hT => vtotext_any (sgl a).k (sgl a).n (sgl a).s (sgl a).e W (nm_of _ hok).2 hT hN
 rw [(nm_of _ hok).1] at c1
 have HN : Hid (Nm W ∧ Tab W) := ⟨h.n, hT⟩
 generalize sgl a = v at *
 clear h
 generalize v.k = k0, v.n = n0, v.s = s0, v.e = e0 at c0 c1
 rcases toText_cases v hok with ⟨x, hx, _⟩ | ⟨x, hx, _⟩
 · rw [teR_ok hx]
   rw [hx] at c1
   simp only [V.dat] at c1
   clear hok hx hT
   have c2 := fun W => xmust_ok 3 0 x 0 rfl W
   have hf := fld_s
   go_enter Tryz.func76, Tryz.ntmps76
   go_wp2_with fail
   refine c0.mono ?_
   rintro e w1 ⟨rfl, E1⟩
   have X1 : Hid (Ext W w1) := E1
   clear E1
   go_wp2_with fail
   refine (c1 _ (HN.out.1.ext X1.out) (HN.out.2.ext X1.out)).mono ?_
   rintro e w2 ⟨rfl, E2⟩
   have X2 : Hid (Ext W w2) := X1.out.trans E2
   clear E2
   go_wp2_with fail
   refine (c2 _).mono ?_
   rintro e w3 ⟨rfl, E3⟩
   go_wp2_with fail
   go_ret
   exact ⟨rfl, X2.out.trans E3⟩
 · rw [teR_no hx]
   rw [hx] at c1
   simp only [V.dat] at c1
   clear hok hx hT
   have c2 := fun W => xmust_no 4 0 ⟨#[]⟩ x rfl W
   have hf := fld_s
   go_enter Tryz.func76, Tryz.ntmps76
   go_wp2_with fail
   refine c0.mono ?_
   rintro e w1 ⟨rfl, E1⟩
   have X1 : Hid (Ext W w1) := E1
   clear E1
   go_wp2_with fail
   refine (c1 _ (HN.out.1.ext X1.out) (HN.out.2.ext X1.out)).mono ?_
   rintro e w2 ⟨rfl, E2⟩
   have X2 : Hid (Ext W w2) := X1.out.trans E2
   clear E2
   go_wp2_with fail
   refine (c2 _).mono ?_
   rintro e w3 ⟨rfl, E3⟩
   exact ⟨rfl, rfl, X2.out.trans E3⟩
theorem xtruth_any (l : List Bg) (i : Nat) (a : Bg) (p : Option Addr) (n c : Nat) (W : World) (h : At W (.slice p n c) l i a) :
   Calls Tryz.prog 67 #[.slice p n c, .int .i64 (i : Int)] W fun e w' => RzQ (Value.bool) (trR (sgl a)) e ∧ Ext W w' := by
 have c0 := h.one
 have hok := h.ok
 have c1 := fun W hN => vtobool_any (sgl a).k (sgl a).n (sgl a).s (sgl a).e W (nm_of _ hok).2 hN
 rw [(nm_of _ hok).1] at c1
 have HN : Hid (Nm W) := h.n
 generalize sgl a = v at *
 clear h
 generalize v.k = k0, v.n = n0, v.s = s0, v.e = e0 at c0 c1
 rcases toBool_cases v with ⟨x, hx⟩ | ⟨x, hx⟩
 · rw [trR_ok hx]
   rw [hx] at c1
   simp only [V.dat] at c1
   clear hok hx
   obtain ⟨y, hy⟩ : ∃ y : Int, (if x = true then (1 : Int) else 0) = y := ⟨_, rfl⟩
   have HY : Hid (((if x = true then (1 : Int) else 0) != 0) = x ∧ (if x = true then (1 : Int) else 0) = y) := ⟨by cases x <;> rfl, hy⟩
   rw [hy] at c1
   clear hy
   have c2 := fun W => xmust_ok 1 y ⟨#[]⟩ 0 rfl W
   have hf := fld_n
   go_enter Tryz.func67, Tryz.ntmps67
   go_wp2_with fail
   refine c0.mono ?_
   rintro e w1 ⟨rfl, E1⟩
   have X1 : Hid (Ext W w1) := E1
   clear E1
   go_wp2_with fail
   refine (c1 _ (HN.out.ext X1.out)).mono ?_
   rintro e w2 ⟨rfl, E2⟩
   have X2 : Hid (Ext W w2) := X1.out.trans E2
   clear E2
   go_wp2_with fail
   refine (c2 _).mono ?_
   rintro e w3 ⟨rfl, E3⟩
   go_wp2_with fail
   go_ret
   exact ⟨ret_bool (by rw [← HY.out.2]; exact HY.out.1), X2.out.trans E3⟩
 · rw [trR_no hx]
   rw [hx] at c1
   simp only [V.dat] at c1
   clear hok hx
   have c2 := fun W => xmust_no 4 0 ⟨#[]⟩ x rfl W
   have hf := fld_n
   go_enter Tryz.func67, Tryz.ntmps67
   go_wp2_with fail
   refine c0.mono ?_
   rintro e w1 ⟨rfl, E1⟩
   have X1 : Hid (Ext W w1) := E1
   clear E1
   go_wp2_with fail
   refine (c1 _ (HN.out.ext X1.out)).mono ?_
   rintro e w2 ⟨rfl, E2⟩
   have X2 : Hid (Ext W w2) := X1.out.trans E2
   clear E2
   go_wp2_with fail
   refine (c2 _).mono ?_
   rintro e w3 ⟨rfl, E3⟩
   exact ⟨rfl, rfl, X2.out.trans E3⟩

theorem whole_div (n : Int) : (n.tmod 10000 < 0 → n.tdiv 10000 - 1 = whN n) ∧ (¬ n.tmod 10000 < 0 → n.tdiv 10000 = whN n) := by
 unfold whN
 by_cases h : 0 ≤ n
 · rw [Int.tmod_eq_emod_of_nonneg h, Int.tdiv_eq_ediv_of_nonneg h]
   constructor <;> omega
 · obtain ⟨m, rfl⟩ : ∃ m : Int, n = -m := ⟨-n, by omega⟩
   rw [Int.neg_tmod, Int.neg_tdiv, Int.tmod_eq_emod_of_nonneg (by omega), Int.tdiv_eq_ediv_of_nonneg (by omega)]
   constructor <;> omega
theorem xwhole_any (l : List Bg) (i : Nat) (a : Bg) (p : Option Addr) (n c : Nat) (W : World) (h : At W (.slice p n c) l i a) :
   Calls Tryz.prog 72 #[.slice p n c, .int .i64 (i : Int)] W fun e w' => RzQ (Value.int .i64) (whR (sgl a)) e ∧ Ext W w' := by
 have c0 := xnumber_any l i a p n c W h
 have hok := h.ok
 generalize sgl a = v at *
 clear h
 rcases toNum_cases v hok with ⟨x, hx, hI, _⟩ | ⟨x, hx, _⟩
 · have e1 : whR v = .ok (whN x) := by unfold whR; rw [nuR_ok hx]; rfl
   rw [e1]
   rw [nuR_ok hx] at c0
   have C : Calls Tryz.prog 69 #[.slice p n c, .int .i64 (i : Int)] W fun e w' => e = .returned (.int .i64 x) ∧ Ext W w' := c0
   have hw := whole_div x
   have hb : -1000000000000000 ≤ x.tdiv 10000 ∧ x.tdiv 10000 ≤ 1000000000000000 := by
     obtain ⟨i1, i2⟩ := hI
     have := whole_div x
     unfold whN at this
     by_cases hm : x.tmod 10000 < 0
     · have := this.1 hm; omega
     · have := this.2 hm; omega
   obtain ⟨q, hq⟩ : ∃ q, x.tdiv 10000 = q := ⟨_, rfl⟩
   obtain ⟨m, hm⟩ : ∃ m, x.tmod 10000 = m := ⟨_, rfl⟩
   rw [hq, hm] at hw
   rw [hq] at hb
   obtain ⟨b1, b2⟩ := hb
   clear c0 e1 hok hx hI
   by_cases hlt : m < 0
   · have HW : Hid (q - 1 = whN x) := hw.1 hlt
     have WK : wrap64 (q - 1) = q - 1 := by unfold wrap64; omega
     clear hw
     go_enter Tryz.func72, Tryz.ntmps72
     go_wp2_with fail
     refine C.mono ?_
     rintro e w1 ⟨rfl, E1⟩
     go_wp2_with fail
     go_ret
     exact ⟨ret_int HW.out, E1⟩
   · have HW : Hid (q = whN x) := hw.2 hlt
     clear hw
     go_enter Tryz.func72, Tryz.ntmps72
     go_wp2_with fail
     refine C.mono ?_
     rintro e w1 ⟨rfl, E1⟩
     go_wp2_with fail
     go_ret
     exact ⟨ret_int HW.out, E1⟩
 · have e1 : whR v = .error x := by unfold whR; rw [nuR_no hx]; rfl
   rw [e1]
   rw [nuR_no hx] at c0
   have C : Calls Tryz.prog 69 #[.slice p n c, .int .i64 (i : Int)] W fun e w' => e = pan x ∧ Ext W w' := c0
   clear c0 e1 hok hx
   go_enter Tryz.func72, Tryz.ntmps72
   go_wp2_with fail
   refine C.mono ?_
   rintro e w1 ⟨rfl, E1⟩
   exact ⟨rfl, rfl, E1⟩
theorem xwhole_one (l : List Bg) (i : Nat) (p : Option Addr) (n c : Nat) (W : World) (h : FitB W (.slice p n c) l) (hN : Nm W) :
   Calls Tryz.prog 121 #[.slice p n c, .int .i64 (i : Int)] W fun e w' => RzQ (Value.int .i64) (whO l i) e ∧ Ext W w' := by
 have hn := h.rd.len
 have hl := h.z
 by_cases hlt : l.length ≤ i
 · have e1 : whO l i = .ok 1 := by unfold whO; rw [if_pos hlt]
   rw [e1]
   have d1 : (i : Int) ≥ (n : Int) := by omega
   have d2 : (n : Int) ≤ 1500000 := by omega
   clear e1 hlt hn hl h
   go_enter Tryz.func121, Tryz.ntmps121
   go_wp2_with fail
   go_ret
   exact ⟨rfl, Ext.refl _⟩
 · have hx : l[i]? = some l[i] := List.getElem?_eq_getElem (by omega)
   have e1 : whO l i = whR (sgl l[i]) := by unfold whO; rw [if_neg hlt]; unfold sg; rw [hx]
   rw [e1]
   have c0 := xwhole_any l i _ p n c W ⟨h, hN, hx⟩
   have d1 : ¬ (i : Int) ≥ (n : Int) := by omega
   have d2 : (n : Int) ≤ 1500000 := by omega
   generalize whR (sgl l[i]) = r at *
   clear e1 hlt hn hl h hx
   cases r with
   | ok x =>
     have C : Calls Tryz.prog 72 #[.slice p n c, .int .i64 (i : Int)] W fun e w' => e = .returned (.int .i64 x) ∧ Ext W w' := c0
     clear c0
     go_enter Tryz.func121, Tryz.ntmps121
     go_wp2_with fail
     refine C.mono ?_
     rintro e w1 ⟨rfl, E1⟩
     go_wp2_with fail
     go_ret
     exact ⟨rfl, E1⟩
   | error x =>
     have C : Calls Tryz.prog 72 #[.slice p n c, .int .i64 (i : Int)] W fun e w' => e = pan x ∧ Ext W w' := c0
     clear c0
     go_enter Tryz.func121, Tryz.ntmps121
     go_wp2_with fail
     refine C.mono ?_
     rintro e w1 ⟨rfl, E1⟩
     exact ⟨rfl, rfl, E1⟩
theorem xtold_no (n : Int) (W : World) : Calls Tryz.prog 70 #[.int .i64 n, .bool false] W fun e w' => e = pan 4 ∧ Ext W w' := by
 go_enter Tryz.func70, Tryz.ntmps70
 go_wp2_with fail
 exact ⟨rfl, rfl, (Ext.refl _).alloc _⟩
theorem xtold_ok (n : Int) (W : World) (hN : Nm W) : Calls Tryz.prog 70 #[.int .i64 n, .bool true] W fun e w' => e = .returned (.agg #[.int .i64 (mkNum n).k, .int .i64 (mkNum n).n, .string (mkNum n).s, .int .i64 (mkNum n).e]) ∧ Ext W w' := by
 have c1 := fun W h => vnum_any n W h
 rw [dat_eq] at c1
 generalize (mkNum n).k = q0, (mkNum n).n = q1, (mkNum n).s = q2, (mkNum n).e = q3 at *
 go_enter Tryz.func70, Tryz.ntmps70
 go_wp2_with fail
 refine (c1 _ (hN.ext ((Ext.refl _).alloc _))).mono ?_
 rintro e w1 ⟨rfl, E1⟩
 obtain ⟨z, ⟨b0, b1, b2, b3⟩, f0, f1, f2, f3⟩ := blk_top (b := W.heap.size) (by simp) E1
 go_wp2_with fail
 exact fin4 b0 b1 b2 b3 rfl (by simp) (((Ext.refl _).alloc _).trans E1) (fun W g0 g1 g2 g3 => by simp [results, Tryz.results70, go_sem, g0, g1, g2, g3]) (fun W h => ⟨rfl, h⟩)
theorem xsize_any (n : Int) (hn : I64 n) (hc : canB n = true) (W : World) : Calls Tryz.prog 68 #[.int .i64 n] W fun e w' => e = .returned (.int .i64 (szN n)) ∧ w' = W := by
 obtain ⟨h1, h2⟩ := hn
 have h3 : n ≠ -9223372036854775808 := by simpa [canB] using hc
 have WK : wrap64 (-n) = -n := by unfold wrap64; omega
 have HZ : Hid (szN n = max n (-n)) := by show _ = _; unfold szN; split <;> omega
 clear hc
 go_enter Tryz.func68, Tryz.ntmps68
 go_wp2_with fail
 go_ret
 exact ⟨ret_int HZ.out.symm, rfl⟩

open Go.RowKit
set_option maxHeartbeats 1000000

def Rw.dat (r : Rw) : Value := .agg #[.int .i64 r.k, .int .i64 r.n, .string r.s, .int .i64 r.e]
theorem sg_of {l : List Bg} {i : Nat} {a : Bg} (h : l[i]? = some a) : sg l i = sgl a := by unfold sg; rw [h]
theorem xnumber_ok {l : List Bg} {i : Nat} {a : Bg} {p : Option Addr} {n c : Nat} {W : World} (hF : FitB W (.slice p n c) l) (hN : Nm W) (ha : l[i]? = some a) {x : Int} (hx : nuR (sgl a) = .ok x) (W' : World) (e : Ext W W') :
   Calls Tryz.prog 69 #[.slice p n c, .int .i64 (i : Int)] W' fun e w' => e = .returned (.int .i64 x) ∧ Ext W' w' := by
 have := xnumber_any l i a p n c W' ⟨hF.ext e, hN.ext e, ha⟩
 rw [hx] at this
 exact this
theorem xnumber_no {l : List Bg} {i : Nat} {a : Bg} {p : Option Addr} {n c : Nat} {W : World} (hF : FitB W (.slice p n c) l) (hN : Nm W) (ha : l[i]? = some a) {x : Int} (hx : nuR (sgl a) = .error x) (W' : World) (e : Ext W W') :
   Calls Tryz.prog 69 #[.slice p n c, .int .i64 (i : Int)] W' fun e w' => e = pan x ∧ Ext W' w' := by
 have := xnumber_any l i a p n c W' ⟨hF.ext e, hN.ext e, ha⟩
 rw [hx] at this
 exact this
theorem xtruth_ok {l : List Bg} {i : Nat} {a : Bg} {p : Option Addr} {n c : Nat} {W : World} (hF : FitB W (.slice p n c) l) (hN : Nm W) (ha : l[i]? = some a) {x : Bool} (hx : trR (sgl a) = .ok x) (W' : World) (e : Ext W W') :
   Calls Tryz.prog 67 #[.slice p n c, .int .i64 (i : Int)] W' fun e w' => e = .returned (.bool x) ∧ Ext W' w' := by
 have := xtruth_any l i a p n c W' ⟨hF.ext e, hN.ext e, ha⟩
 rw [hx] at this
 exact this
theorem xtruth_no {l : List Bg} {i : Nat} {a : Bg} {p : Option Addr} {n c : Nat} {W : World} (hF : FitB W (.slice p n c) l) (hN : Nm W) (ha : l[i]? = some a) {x : Int} (hx : trR (sgl a) = .error x) (W' : World) (e : Ext W W') :
   Calls Tryz.prog 67 #[.slice p n c, .int .i64 (i : Int)] W' fun e w' => e = pan x ∧ Ext W' w' := by
 have := xtruth_any l i a p n c W' ⟨hF.ext e, hN.ext e, ha⟩
 rw [hx] at this
 exact this
theorem xwhole_ok {l : List Bg} {i : Nat} {a : Bg} {p : Option Addr} {n c : Nat} {W : World} (hF : FitB W (.slice p n c) l) (hN : Nm W) (ha : l[i]? = some a) {x : Int} (hx : whR (sgl a) = .ok x) (W' : World) (e : Ext W W') :
   Calls Tryz.prog 72 #[.slice p n c, .int .i64 (i : Int)] W' fun e w' => e = .returned (.int .i64 x) ∧ Ext W' w' := by
 have := xwhole_any l i a p n c W' ⟨hF.ext e, hN.ext e, ha⟩
 rw [hx] at this
 exact this
theorem xwhole_no {l : List Bg} {i : Nat} {a : Bg} {p : Option Addr} {n c : Nat} {W : World} (hF : FitB W (.slice p n c) l) (hN : Nm W) (ha : l[i]? = some a) {x : Int} (hx : whR (sgl a) = .error x) (W' : World) (e : Ext W W') :
   Calls Tryz.prog 72 #[.slice p n c, .int .i64 (i : Int)] W' fun e w' => e = pan x ∧ Ext W' w' := by
 have := xwhole_any l i a p n c W' ⟨hF.ext e, hN.ext e, ha⟩
 rw [hx] at this
 exact this
theorem xtext_ok {l : List Bg} {i : Nat} {a : Bg} {p : Option Addr} {n c : Nat} {W : World} (hF : FitB W (.slice p n c) l) (hN : Nm W) (hT : Tab W) (ha : l[i]? = some a) {x : ByteArray} (hx : teR (sgl a) = .ok x) (W' : World) (e : Ext W W') :
   Calls Tryz.prog 76 #[.slice p n c, .int .i64 (i : Int)] W' fun e w' => e = .returned (.string x) ∧ Ext W' w' := by
 have := xtext_any l i a p n c W' ⟨hF.ext e, hN.ext e, ha⟩ (hT.ext e)
 rw [hx] at this
 exact this
theorem xtext_no {l : List Bg} {i : Nat} {a : Bg} {p : Option Addr} {n c : Nat} {W : World} (hF : FitB W (.slice p n c) l) (hN : Nm W) (hT : Tab W) (ha : l[i]? = some a) {x : Int} (hx : teR (sgl a) = .error x) (W' : World) (e : Ext W W') :
   Calls Tryz.prog 76 #[.slice p n c, .int .i64 (i : Int)] W' fun e w' => e = pan x ∧ Ext W' w' := by
 have := xtext_any l i a p n c W' ⟨hF.ext e, hN.ext e, ha⟩ (hT.ext e)
 rw [hx] at this
 exact this
theorem xone_ok {l : List Bg} {i : Nat} {p : Option Addr} {n c : Nat} {W : World} (hF : FitB W (.slice p n c) l) (hN : Nm W) {x : Int} (hx : whO l i = .ok x) (W' : World) (e : Ext W W') :
   Calls Tryz.prog 121 #[.slice p n c, .int .i64 (i : Int)] W' fun e w' => e = .returned (.int .i64 x) ∧ Ext W' w' := by
 have := xwhole_one l i p n c W' (hF.ext e) (hN.ext e)
 rw [hx] at this
 exact this
theorem xone_no {l : List Bg} {i : Nat} {p : Option Addr} {n c : Nat} {W : World} (hF : FitB W (.slice p n c) l) (hN : Nm W) {x : Int} (hx : whO l i = .error x) (W' : World) (e : Ext W W') :
   Calls Tryz.prog 121 #[.slice p n c, .int .i64 (i : Int)] W' fun e w' => e = pan x ∧ Ext W' w' := by
 have := xwhole_one l i p n c W' (hF.ext e) (hN.ext e)
 rw [hx] at this
 exact this
theorem xsingle_at {l : List Bg} {i : Nat} {a : Bg} {p : Option Addr} {n c : Nat} {W : World} (hF : FitB W (.slice p n c) l) (hN : Nm W) (ha : l[i]? = some a) (W' : World) (e : Ext W W') :
   Calls Tryz.prog 79 #[.slice p n c, .int .i64 (i : Int)] W' fun e w' => e = .returned (.agg #[.int .i64 (sgl a).k, .int .i64 (sgl a).n, .string (sgl a).s, .int .i64 (sgl a).e]) ∧ Ext W' w' := At.one ⟨hF.ext e, hN.ext e, ha⟩
theorem bool_at (b : Bool) {W : World} (W' : World) (_ : Ext W W') : Calls Tryz.prog 33 #[.bool b] W' fun r w' => r = .returned (.agg #[.int .i64 1, .int .i64 (if b then 1 else 0), .string ⟨#[]⟩, .int .i64 0]) ∧ Ext W' w' := vbool_any b W'

theorem xchosen_any (l : List Bg) (a0 a1 : Bg) (h0 : l[0]? = some a0) (h1 : l[1]? = some a1) (p : Option Addr) (n c : Nat) (W : World) (hF : FitB W (.slice p n c) l) (hN : Nm W) :
   Calls Tryz.prog 66 #[.slice p n c] W fun e w' => RzQ Rw.dat (xIf l) e ∧ Ext W w' := by
 have hn := hF.rd.len
 have hm := hF.z
 have d2 : (n : Int) ≤ 1500000 := by omega
 cases ht : trR (sgl a0) with
 | error x =>
   have HX : xIf l = .error x := by unfold xIf; rw [sg_of h0, ht]
   rw [HX]
   have c0 := xtruth_no hF hN h0 ht
   clear hn hm HX ht
   go_enter Tryz.func66, Tryz.ntmps66
   go_wp2_with fail
   refine (c0 _ ((Ext.refl _).alloc _)).mono ?_
   rintro e w1 ⟨rfl, E1⟩
   exact ⟨rfl, rfl, (((Ext.refl _).alloc _)).trans E1⟩
 | ok t =>
   have c0 := xtruth_ok hF hN h0 ht
   cases t with
   | true =>
     have HX : xIf l = .ok (sgl a1).rw := by unfold xIf; rw [sg_of h0, sg_of h1, ht]; rfl
     rw [HX]
     have c1 := xsingle_at hF hN h1
     clear hn hm HX ht
     go_enter Tryz.func66, Tryz.ntmps66
     go_wp2_with fail
     refine (c0 _ ((Ext.refl _).alloc _)).mono ?_
     rintro e w1 ⟨rfl, E1⟩
     have B1 : Hid (Blk w1 W.heap.size (.int .i64 0) (.int .i64 0) (.string ⟨#[]⟩) (.int .i64 0) ∧ Ext W w1) := ⟨blk_top (by simp) E1, ((Ext.refl _).alloc _).trans E1⟩
     clear E1
     go_wp2_with fail
     refine (c1 _ B1.out.2).mono ?_
     rintro e w2 ⟨rfl, E2⟩
     have B2 : Hid (Blk w2 W.heap.size (.int .i64 0) (.int .i64 0) (.string ⟨#[]⟩) (.int .i64 0) ∧ Ext W w2) := ⟨B1.out.1.ext E2, B1.out.2.trans E2⟩
     clear E2
     obtain ⟨z, ⟨b0, b1, b2, b3⟩, f0, f1, f2, f3⟩ := B2.out.1
     go_wp2_with fail
     exact fin4 b0 b1 b2 b3 rfl (by simp) B2.out.2 (fun W g0 g1 g2 g3 => by simp [results, Tryz.results66, go_sem, g0, g1, g2, g3]) (fun W h => ⟨rfl, h⟩)
   | false =>
     by_cases h3 : l.length < 3
     · have HX : xIf l = .ok (V.tf false).rw := by unfold xIf; rw [sg_of h0, ht]; simp [h3]
       rw [HX]
       have d1 : (n : Int) < 3 := by omega
       have c1 : ∀ W', Ext W W' → Calls Tryz.prog 33 #[.bool false] W' fun r w' => r = .returned (.agg #[.int .i64 1, .int .i64 0, .string ⟨#[]⟩, .int .i64 0]) ∧ Ext W' w' := fun W' e => bool_at (W := W) false W' e
       clear hn hm HX ht h3
       go_enter Tryz.func66, Tryz.ntmps66
       go_wp2_with fail
       refine (c0 _ ((Ext.refl _).alloc _)).mono ?_
       rintro e w1 ⟨rfl, E1⟩
       have B1 : Hid (Blk w1 W.heap.size (.int .i64 0) (.int .i64 0) (.string ⟨#[]⟩) (.int .i64 0) ∧ Ext W w1) := ⟨blk_top (by simp) E1, ((Ext.refl _).alloc _).trans E1⟩
       clear E1
       go_wp2_with fail
       refine (c1 _ B1.out.2).mono ?_
       rintro e w2 ⟨rfl, E2⟩
       have B2 : Hid (Blk w2 W.heap.size (.int .i64 0) (.int .i64 0) (.string ⟨#[]⟩) (.int .i64 0) ∧ Ext W w2) := ⟨B1.out.1.ext E2, B1.out.2.trans E2⟩
       clear E2
       obtain ⟨z, ⟨b0, b1, b2, b3⟩, f0, f1, f2, f3⟩ := B2.out.1
       go_wp2_with fail
       exact fin4 b0 b1 b2 b3 rfl (by simp) B2.out.2 (fun W g0 g1 g2 g3 => by simp [results, Tryz.results66, go_sem, g0, g1, g2, g3]) (fun W h => ⟨rfl, h⟩)
     · have hx2 : l[2]? = some l[2] := List.getElem?_eq_getElem (by omega)
       have HX : xIf l = .ok (sgl l[2]).rw := by unfold xIf; rw [sg_of h0, sg_of hx2, ht]; simp [h3]
       rw [HX]
       have d1 : ¬ (n : Int) < 3 := by omega
       have c1 := xsingle_at hF hN hx2
       generalize sgl l[2] = v2 at *
       clear hn hm HX ht h3 hx2
       go_enter Tryz.func66, Tryz.ntmps66
       go_wp2_with fail
       refine (c0 _ ((Ext.refl _).alloc _)).mono ?_
       rintro e w1 ⟨rfl, E1⟩
       have B1 : Hid (Blk w1 W.heap.size (.int .i64 0) (.int .i64 0) (.string ⟨#[]⟩) (.int .i64 0) ∧ Ext W w1) := ⟨blk_top (by simp) E1, ((Ext.refl _).alloc _).trans E1⟩
       clear E1
       go_wp2_with fail
       refine (c1 _ B1.out.2).mono ?_
       rintro e w2 ⟨rfl, E2⟩
       have B2 : Hid (Blk w2 W.heap.size (.int .i64 0) (.int .i64 0) (.string ⟨#[]⟩) (.int .i64 0) ∧ Ext W w2) := ⟨B1.out.1.ext E2, B1.out.2.trans E2⟩
       clear E2
       obtain ⟨z, ⟨b0, b1, b2, b3⟩, f0, f1, f2, f3⟩ := B2.out.1
       go_wp2_with fail
       exact fin4 b0 b1 b2 b3 rfl (by simp) B2.out.2 (fun W g0 g1 g2 g3 => by simp [results, Tryz.results66, go_sem, g0, g1, g2, g3]) (fun W h => ⟨rfl, h⟩)

theorem xsound_any (l : List Bg) (a0 a1 : Bg) (h0 : l[0]? = some a0) (h1 : l[1]? = some a1) (p : Option Addr) (n c : Nat) (W : World) (hF : FitB W (.slice p n c) l) (hN : Nm W) :
   Calls Tryz.prog 80 #[.slice p n c] W fun e w' => RzQ Rw.dat (xIfErr l) e ∧ Ext W w' := by
 have c0 := xsingle_at hF hN h0
 have c1 := xsingle_at hF hN h1
 have HX : xIfErr l = if (sgl a0).k = 4 then .ok (sgl a1).rw else .ok (sgl a0).rw := by unfold xIfErr; rw [sg_of h0, sg_of h1]
 rw [HX]
 clear HX
 generalize sgl a0 = v0 at *
 generalize sgl a1 = v1 at *
 by_cases hk : v0.k = 4
 · rw [if_pos hk]
   have e0 : (v0.k != 4) = false := by simp [hk]
   clear hk
   go_enter Tryz.func80, Tryz.ntmps80
   go_wp2_with fail
   refine (c0 _ ((Ext.refl _).alloc _)).mono ?_
   rintro e w1 ⟨rfl, E1⟩
   have B1 : Hid (Blk w1 W.heap.size (.int .i64 0) (.int .i64 0) (.string ⟨#[]⟩) (.int .i64 0) ∧ Ext W w1) := ⟨blk_top (by simp) E1, ((Ext.refl _).alloc _).trans E1⟩
   clear E1
   go_wp2_with fail
   refine (c1 _ (B1.out.2.alloc _)).mono ?_
   rintro e w2 ⟨rfl, E2⟩
   have B2 : Hid (Blk w2 W.heap.size (.int .i64 0) (.int .i64 0) (.string ⟨#[]⟩) (.int .i64 0) ∧ Ext W w2) := ⟨(B1.out.1.al _).ext E2, (B1.out.2.alloc _).trans E2⟩
   clear E2
   obtain ⟨z, ⟨b0, b1, b2, b3⟩, f0, f1, f2, f3⟩ := B2.out.1
   go_wp2_with fail
   exact fin4 b0 b1 b2 b3 rfl (by simp) B2.out.2 (fun W g0 g1 g2 g3 => by simp [results, Tryz.results80, go_sem, g0, g1, g2, g3]) (fun W h => ⟨rfl, h⟩)
 · rw [if_neg hk]
   have e0 : (v0.k != 4) = true := by simp [hk]
   clear hk
   go_enter Tryz.func80, Tryz.ntmps80
   go_wp2_with fail
   refine (c0 _ ((Ext.refl _).alloc _)).mono ?_
   rintro e w1 ⟨rfl, E1⟩
   have B1 : Hid (Blk w1 W.heap.size (.int .i64 0) (.int .i64 0) (.string ⟨#[]⟩) (.int .i64 0) ∧ Ext W w1) := ⟨blk_top (by simp) E1, ((Ext.refl _).alloc _).trans E1⟩
   clear E1
   obtain ⟨z, ⟨b0, b1, b2, b3⟩, f0, f1, f2, f3⟩ := B1.out.1
   go_wp2_with fail
   have X2 : Ext W (((((w1.setCell ⟨W.heap.size, 0, none⟩ (.int .i64 v0.k)).setCell ⟨W.heap.size, 1, none⟩ (.int .i64 v0.n)).setCell ⟨W.heap.size, 2, none⟩ (.string v0.s)).setCell ⟨W.heap.size, 3, none⟩ (.int .i64 v0.e)).alloc (.cells #[.int .i64 v0.k, .int .i64 v0.n, .string v0.s, .int .i64 v0.e] 25)) := ((((B1.out.2.setCell (Nat.le_refl _) _).setCell (Nat.le_refl _) _).setCell (Nat.le_refl _) _).setCell (Nat.le_refl _) _).alloc _
   exact finB (b := W.heap.size) (w := W) ((B1.out.1.set _ _ _ _).al _) rfl X2 (fun g0 g1 g2 g3 => by simp [results, Tryz.results80, go_sem, g0, g1, g2, g3]) (fun h => ⟨rfl, h⟩)

theorem mod_at (a b : Int) (ha : I64 a) (hb : I64 b) {W : World} (W' : World) (_ : Ext W W') : Calls Tryz.prog 117 #[.int .i64 a, .int .i64 b] W' fun e w' => e = .returned (.tuple #[.int .i64 (modV a b), .bool (modB a b)]) ∧ Ext W' w' := mod_any a b ha hb W'
theorem told_no (n : Int) {W : World} (W' : World) (_ : Ext W W') : Calls Tryz.prog 70 #[.int .i64 n, .bool false] W' fun e w' => e = pan 4 ∧ Ext W' w' := xtold_no n W'
theorem told_ok (n : Int) {W : World} (hN : Nm W) (W' : World) (e : Ext W W') : Calls Tryz.prog 70 #[.int .i64 n, .bool true] W' fun e w' => e = .returned (.agg #[.int .i64 (mkNum n).k, .int .i64 (mkNum n).n, .string (mkNum n).s, .int .i64 (mkNum n).e]) ∧ Ext W' w' := xtold_ok n W' (hN.ext e)
theorem xrest_any (l : List Bg) (a0 a1 : Bg) (h0 : l[0]? = some a0) (h1 : l[1]? = some a1) (p : Option Addr) (n c : Nat) (W : World) (hF : FitB W (.slice p n c) l) (hN : Nm W) :
   Calls Tryz.prog 73 #[.slice p n c] W fun e w' => RzQ Rw.dat (xMod l) e ∧ Ext W w' := by
 have o0 := (At.mk hF hN h0).ok
 have o1 := (At.mk hF hN h1).ok
 cases ht : nuR (sgl a0) with
 | error x =>
   have HX : xMod l = .error x := by unfold xMod; rw [sg_of h0, ht]
   rw [HX]
   have c0 := xnumber_no hF hN h0 ht
   clear HX ht
   go_enter Tryz.func73, Tryz.ntmps73
   go_wp2_with fail
   refine (c0 _ ((Ext.refl _).alloc _)).mono ?_
   rintro e w1 ⟨rfl, E1⟩
   exact ⟨rfl, rfl, (((Ext.refl _).alloc _)).trans E1⟩
 | ok a =>
   have ia := nuR_can o0 ht
   have c0 := xnumber_ok hF hN h0 ht
   cases hu : nuR (sgl a1) with
   | error x =>
     have HX : xMod l = .error x := by unfold xMod; rw [sg_of h0, ht, sg_of h1, hu]
     rw [HX]
     have c1 := xnumber_no hF hN h1 hu
     clear HX ht hu ia
     go_enter Tryz.func73, Tryz.ntmps73
     go_wp2_with fail
     refine (c0 _ ((Ext.refl _).alloc _)).mono ?_
     rintro e w1 ⟨rfl, E1⟩
     have B1 : Hid (Blk w1 W.heap.size (.int .i64 0) (.int .i64 0) (.string ⟨#[]⟩) (.int .i64 0) ∧ Ext W w1) := ⟨blk_top (by simp) E1, ((Ext.refl _).alloc _).trans E1⟩
     clear E1
     go_wp2_with fail
     refine (c1 _ B1.out.2).mono ?_
     rintro e w2 ⟨rfl, E2⟩
     exact ⟨rfl, rfl, (B1.out.2).trans E2⟩
   | ok b =>
     have ib := nuR_can o1 hu
     have c1 := xnumber_ok hF hN h1 hu
     have HX : xMod l = if b = 0 then .error 3 else (tolR (modB a b) (modV a b)).map V.rw := by unfold xMod; rw [sg_of h0, ht, sg_of h1, hu]
     rw [HX]
     clear HX ht hu
     by_cases hb : b = 0
     · subst hb
       rw [if_pos rfl]
       clear ia ib
       go_enter Tryz.func73, Tryz.ntmps73
       go_wp2_with fail
       refine (c0 _ ((Ext.refl _).alloc _)).mono ?_
       rintro e w1 ⟨rfl, E1⟩
       have X1 : Hid (Ext W w1) := ((Ext.refl _).alloc _).trans E1
       clear E1
       go_wp2_with fail
       refine (c1 _ X1.out).mono ?_
       rintro e w2 ⟨rfl, E2⟩
       have X2 : Hid (Ext W w2) := X1.out.trans E2
       clear E2
       go_wp2_with fail
       exact ⟨rfl, rfl, X2.out⟩
     · rw [if_neg hb]
       have e0 : (b == 0) = false := by simp [hb]
       have c2 := mod_at a b ia.1 ib.1 (W := W)
       clear ia ib hb
       generalize modV a b = y at *
       cases hB : modB a b with
       | false =>
         rw [hB] at c2
         have c3 := told_no y (W := W)
         clear hB
         rw [show (tolR false y).map V.rw = .error 4 from rfl]
         go_enter Tryz.func73, Tryz.ntmps73
         go_wp2_with fail
         refine (c0 _ ((Ext.refl _).alloc _)).mono ?_
         rintro e w1 ⟨rfl, E1⟩
         have B1 : Hid (Blk w1 W.heap.size (.int .i64 0) (.int .i64 0) (.string ⟨#[]⟩) (.int .i64 0) ∧ Ext W w1) := ⟨blk_top (by simp) E1, ((Ext.refl _).alloc _).trans E1⟩
         clear E1
         go_wp2_with fail
         refine (c1 _ B1.out.2).mono ?_
         rintro e w2 ⟨rfl, E2⟩
         have B2 : Hid (Blk w2 W.heap.size (.int .i64 0) (.int .i64 0) (.string ⟨#[]⟩) (.int .i64 0) ∧ Ext W w2) := ⟨B1.out.1.ext E2, B1.out.2.trans E2⟩
         clear E2
         go_wp2_with fail
         refine (c2 _ B2.out.2).mono ?_
         rintro e w3 ⟨rfl, E3⟩
         have B3 : Hid (Blk w3 W.heap.size (.int .i64 0) (.int .i64 0) (.string ⟨#[]⟩) (.int .i64 0) ∧ Ext W w3) := ⟨B2.out.1.ext E3, B2.out.2.trans E3⟩
         clear E3
         go_wp2_with fail
         refine (c3 _ B3.out.2).mono ?_
         rintro e w4 ⟨rfl, E4⟩
         exact ⟨rfl, rfl, (B3.out.2).trans E4⟩
       | true =>
         rw [hB] at c2
         have c3 := told_ok y hN
         clear hB
         rw [show (tolR true y).map V.rw = .ok (mkNum y).rw from rfl]
         generalize mkNum y = v at *
         go_enter Tryz.func73, Tryz.ntmps73
         go_wp2_with fail
         refine (c0 _ ((Ext.refl _).alloc _)).mono ?_
         rintro e w1 ⟨rfl, E1⟩
         have B1 : Hid (Blk w1 W.heap.size (.int .i64 0) (.int .i64 0) (.string ⟨#[]⟩) (.int .i64 0) ∧ Ext W w1) := ⟨blk_top (by simp) E1, ((Ext.refl _).alloc _).trans E1⟩
         clear E1
         go_wp2_with fail
         refine (c1 _ B1.out.2).mono ?_
         rintro e w2 ⟨rfl, E2⟩
         have B2 : Hid (Blk w2 W.heap.size (.int .i64 0) (.int .i64 0) (.string ⟨#[]⟩) (.int .i64 0) ∧ Ext W w2) := ⟨B1.out.1.ext E2, B1.out.2.trans E2⟩
         clear E2
         go_wp2_with fail
         refine (c2 _ B2.out.2).mono ?_
         rintro e w3 ⟨rfl, E3⟩
         have B3 : Hid (Blk w3 W.heap.size (.int .i64 0) (.int .i64 0) (.string ⟨#[]⟩) (.int .i64 0) ∧ Ext W w3) := ⟨B2.out.1.ext E3, B2.out.2.trans E3⟩
         clear E3
         go_wp2_with fail
         refine (c3 _ B3.out.2).mono ?_
         rintro e w4 ⟨rfl, E4⟩
         have B4 : Hid (Blk w4 W.heap.size (.int .i64 0) (.int .i64 0) (.string ⟨#[]⟩) (.int .i64 0) ∧ Ext W w4) := ⟨B3.out.1.ext E4, B3.out.2.trans E4⟩
         clear E4
         obtain ⟨z, ⟨b0, b1, b2, b3⟩, f0, f1, f2, f3⟩ := B4.out.1
         go_wp2_with fail
         exact fin4 b0 b1 b2 b3 rfl (by simp) B4.out.2 (fun W g0 g1 g2 g3 => by simp [results, Tryz.results73, go_sem, g0, g1, g2, g3]) (fun W h => ⟨rfl, h⟩)

theorem text_at (s : ByteArray) {W : World} (hN : Nm W) (W' : World) (e : Ext W W') : Calls Tryz.prog 35 #[.string s] W' fun r w' => r = .returned (.agg #[.int .i64 (mkText s).k, .int .i64 (mkText s).n, .string (mkText s).s, .int .i64 (mkText s).e]) ∧ Ext W' w' := by
 have := vtext_any s W' (hN.ext e)
 rwa [dat_eq] at this
theorem teR_le {v : V} {s : ByteArray} (hv : v.ok) (h : teR v = .ok s) : s.size ≤ 300 := by
 rcases toText_cases v hv with ⟨m, hm, h2⟩ | ⟨e, he, _⟩
 · rw [teR_ok hm] at h; cases h; exact h2
 · rw [teR_no he] at h; cases h
theorem xleft_any (l : List Bg) (a0 : Bg) (h0 : l[0]? = some a0) (p : Option Addr) (n c : Nat) (W : World) (hF : FitB W (.slice p n c) l) (hN : Nm W) (hT : Tab W) :
   Calls Tryz.prog 77 #[.slice p n c] W fun e w' => RzQ Rw.dat (xLeft l) e ∧ Ext W w' := by
 have o0 := (At.mk hF hN h0).ok
 cases ht : teR (sgl a0) with
 | error x =>
   have HX : xLeft l = .error x := by unfold xLeft; rw [sg_of h0, ht]
   rw [HX]
   have c0 := xtext_no hF hN hT h0 ht
   clear HX ht
   go_enter Tryz.func77, Tryz.ntmps77
   go_wp2_with fail
   refine (c0 _ ((Ext.refl _).alloc _)).mono ?_
   rintro e w1 ⟨rfl, E1⟩
   exact ⟨rfl, rfl, (((Ext.refl _).alloc _)).trans E1⟩
 | ok s =>
   have hs := teR_le o0 ht
   have c0 := xtext_ok hF hN hT h0 ht
   cases hu : whO l 1 with
   | error x =>
     have HX : xLeft l = .error x := by unfold xLeft; rw [sg_of h0, ht, hu]
     rw [HX]
     have c1 := xone_no hF hN hu
     clear HX ht hu
     go_enter Tryz.func77, Tryz.ntmps77
     go_wp2_with fail
     refine (c0 _ ((Ext.refl _).alloc _)).mono ?_
     rintro e w1 ⟨rfl, E1⟩
     have B1 : Hid (Blk w1 W.heap.size (.int .i64 0) (.int .i64 0) (.string ⟨#[]⟩) (.int .i64 0) ∧ Ext W w1) := ⟨blk_top (by simp) E1, ((Ext.refl _).alloc _).trans E1⟩
     clear E1
     go_wp2_with fail
     refine (c1 _ B1.out.2).mono ?_
     rintro e w2 ⟨rfl, E2⟩
     exact ⟨rfl, rfl, (B1.out.2).trans E2⟩
   | ok q =>
     have c1 := xone_ok hF hN hu
     have HX : xLeft l = if q < 0 then .error 2 else .ok (mkText (begB s q)).rw := by unfold xLeft; rw [sg_of h0, ht, hu]
     rw [HX]
     clear HX ht hu
     by_cases hq : q < 0
     · rw [if_pos hq]
       go_enter Tryz.func77, Tryz.ntmps77
       go_wp2_with fail
       refine (c0 _ ((Ext.refl _).alloc _)).mono ?_
       rintro e w1 ⟨rfl, E1⟩
       have X1 : Hid (Ext W w1) := ((Ext.refl _).alloc _).trans E1
       clear E1
       go_wp2_with fail
       refine (c1 _ X1.out).mono ?_
       rintro e w2 ⟨rfl, E2⟩
       have X2 : Hid (Ext W w2) := X1.out.trans E2
       clear E2
       go_wp2_with fail
       exact ⟨rfl, rfl, X2.out⟩
     · rw [if_neg hq]
       have hsI : (s.size : Int) ≤ 300 := by omega
       obtain ⟨m, hm⟩ : ∃ m : Nat, min q (s.size : Int) = (m : Int) := ⟨(min q (s.size : Int)).toNat, by omega⟩
       have hms : m ≤ s.size := by omega
       have HB : Hid (begB s q = s.extract 0 m) := by show _ = _; unfold begB; rw [hm]; rfl
       have c2 := text_at (s.extract 0 m) hN
       rw [HB.out]
       generalize mkText (s.extract 0 m) = v at *
       clear hs
       go_enter Tryz.func77, Tryz.ntmps77
       go_wp2_with fail
       refine (c0 _ ((Ext.refl _).alloc _)).mono ?_
       rintro e w1 ⟨rfl, E1⟩
       have B1 : Hid (Blk w1 W.heap.size (.int .i64 0) (.int .i64 0) (.string ⟨#[]⟩) (.int .i64 0) ∧ Ext W w1) := ⟨blk_top (by simp) E1, ((Ext.refl _).alloc _).trans E1⟩
       clear E1
       go_wp2_with fail
       refine (c1 _ B1.out.2).mono ?_
       rintro e w2 ⟨rfl, E2⟩
       have B2 : Hid (Blk w2 W.heap.size (.int .i64 0) (.int .i64 0) (.string ⟨#[]⟩) (.int .i64 0) ∧ Ext W w2) := ⟨B1.out.1.ext E2, B1.out.2.trans E2⟩
       clear E2
       go_wp2_with fail
       refine (c2 _ B2.out.2).mono ?_
       rintro e w3 ⟨rfl, E3⟩
       have B3 : Hid (Blk w3 W.heap.size (.int .i64 0) (.int .i64 0) (.string ⟨#[]⟩) (.int .i64 0) ∧ Ext W w3) := ⟨B2.out.1.ext E3, B2.out.2.trans E3⟩
       clear E3
       obtain ⟨z, ⟨b0, b1, b2, b3⟩, f0, f1, f2, f3⟩ := B3.out.1
       go_wp2_with fail
       exact fin4 b0 b1 b2 b3 rfl (by simp) B3.out.2 (fun W g0 g1 g2 g3 => by simp [results, Tryz.results77, go_sem, g0, g1, g2, g3]) (fun W h => ⟨rfl, h⟩)

open Go.RowKit
set_option maxHeartbeats 1000000

/-- What area answers. -/
def ArQ (W : World) (b : Bg) (e : Ending) (w' : World) : Prop := ∃ p' n' c', e = .returned (.agg #[.bool true, .int .i64 b.rows, .int .i64 b.cols, .slice p' n' c']) ∧ RdV w'.heap.size w' (.slice p' n' c') b.g.l ∧ Ext W w'
theorem rd_to {W W' : World} {v : Value} {l : List Rw} (h : RdV W.heap.size W v l) (e : Ext W W') : RdV W'.heap.size W' v l := (h.low e).up e.size
theorem one_rd {W w' : World} {v : V} {T : TypeId} {b : Nat} (hb : b = W.heap.size) (E : Ext (W.alloc (.cells #[.int .i64 v.k, .int .i64 v.n, .string v.s, .int .i64 v.e] T)) w') : RdV w'.heap.size w' (.slice (some ⟨b, 0, none⟩) 1 1) [v.rw] := by
 obtain ⟨z, ⟨k0, k1, k2, k3⟩, _⟩ := blk_top (b := b) hb E
 refine ⟨_, _, rfl, Nat.le_refl _, .inr ⟨b, 0, rfl, z, z, fun i r hr => ?_⟩⟩
 match i, hr with
 | 0, hr => simp at hr; subst hr; exact ⟨k0, k1, k2, k3⟩
theorem xarea_any (l : List Bg) (i : Nat) (a : Bg) (ha : l[i]? = some a) (p : Option Addr) (n c : Nat) (W : World) (hF : FitB W (.slice p n c) l) (hN : Nm W) :
   Calls Tryz.prog 122 #[.slice p n c, .int .i64 (i : Int)] W (ArQ W (arOf a)) := by
 have hn := hF.rd.len
 have hm := hF.z
 have hlt : i < l.length := (List.getElem?_eq_some_iff.1 ha).1
 have d1 : (i : Int) < (n : Int) := by omega
 have d2 : (n : Int) ≤ 1500000 := by omega
 have c0 := xsingle_at hF hN ha
 have HF : Hid (FitB W (.slice p n c) l) := hF
 obtain ⟨b, off, lv, rfl, hb, hbW, ⟨k0, k1, k2, k3⟩, hV⟩ := hF.rd.at ha
 obtain ⟨p', n', c', rfl, hn', hc'⟩ := hV.form
 have HV : Hid (RdV W.heap.size W (.slice p' n' c') a.g.l) := hV
 clear hF hn hm hlt hV hn' hc' hb
 cases har : a.g.area with
 | true =>
   have HX : arOf a = a := by unfold arOf; rw [har]; rfl
   rw [har] at k0
   rw [HX]
   clear HX har c0
   go_enter Tryz.func122, Tryz.ntmps122
   go_wp2_with fail
   simp [bodyPost, results, Tryz.results122, go_sem]
   exact ⟨p', n', c', rfl, rd_to HV.out ((Ext.refl _).alloc _), (Ext.refl _).alloc _⟩
 | false =>
   have HX : arOf a = ⟨⟨true, [(sgl a).rw]⟩, 1, 1⟩ := by unfold arOf; rw [har]; rfl
   rw [har] at k0
   rw [HX]
   generalize sgl a = v at *
   clear HX har
   go_enter Tryz.func122, Tryz.ntmps122
   go_wp2_with fail
   refine (c0 _ ((Ext.refl _).alloc _)).mono ?_
   rintro e w1 ⟨rfl, E1⟩
   have B1 := blk_top (b := W.heap.size) (by simp) E1
   have HB : Hid (Blk w1 W.heap.size (.bool false) (.int .i64 0) (.int .i64 0) (.slice none 0 0) ∧ Ext W w1) := ⟨B1, ((Ext.refl _).alloc _).trans E1⟩
   obtain ⟨z, ⟨b0, b1, b2, b3⟩, f0, f1, f2, f3⟩ := B1
   clear E1 c0 k0 k1 k2 k3 HV hbW
   go_wp2_with fail
   have X2 : Ext W (((((w1.setCell ⟨W.heap.size, 0, none⟩ (.bool true)).setCell ⟨W.heap.size, 1, none⟩ (.int .i64 1)).setCell ⟨W.heap.size, 2, none⟩ (.int .i64 1)).setCell ⟨W.heap.size, 3, none⟩ (.slice (some ⟨w1.heap.size, 0, none⟩) 1 1)).alloc (.cells #[.int .i64 v.k, .int .i64 v.n, .string v.s, .int .i64 v.e] 25)) := ((((HB.out.2.setCell (Nat.le_refl _) _).setCell (Nat.le_refl _) _).setCell (Nat.le_refl _) _).setCell (Nat.le_refl _) _).alloc _
   exact finB (b := W.heap.size) (w := W) ((HB.out.1.set _ _ _ _).al _) rfl X2 (fun g0 g1 g2 g3 => by simp [results, Tryz.results122, go_sem, g0, g1, g2, g3]) (fun h => ⟨_, _, _, rfl, one_rd (by simp) (Ext.refl _), h⟩)
theorem xarea_at {l : List Bg} {i : Nat} {a : Bg} {p : Option Addr} {n c : Nat} {W : World} (hF : FitB W (.slice p n c) l) (hN : Nm W) (ha : l[i]? = some a) (W' : World) (e : Ext W W') :
   Calls Tryz.prog 122 #[.slice p n c, .int .i64 (i : Int)] W' (ArQ W' (arOf a)) := xarea_any l i a ha p n c W' (hF.ext e) (hN.ext e)

theorem whR_bd {v : V} {x : Int} (hv : v.ok) (h : whR v = .ok x) : -1000000000000000 ≤ x ∧ x ≤ 1000000000000000 := by
 unfold whR at h
 cases hn : nuR v with
 | error e => rw [hn] at h; cases h
 | ok n =>
   rw [hn] at h
   obtain ⟨⟨h1, h2⟩, _⟩ := nuR_can hv hn
   cases h
   unfold whN
   omega
set_option maxRecDepth 100000 in
theorem xpicked_any (l : List Bg) (a0 a1 : Bg) (h0 : l[0]? = some a0) (h1 : l[1]? = some a1) (p : Option Addr) (n c : Nat) (W : World) (hF : FitB W (.slice p n c) l) (hN : Nm W) :
   Calls Tryz.prog 78 #[.slice p n c] W fun e w' => RzQ Rw.dat (xIndex l) e ∧ Ext W w' := by
 have o1 := (At.mk hF hN h1).ok
 cases ht : whR (sgl a1) with
 | error x =>
   have HX : xIndex l = .error x := by unfold xIndex; rw [sg_of h1, ht]
   rw [HX]
   have c0 := xwhole_no hF hN h1 ht
   clear HX ht
   go_enter Tryz.func78, Tryz.ntmps78
   go_wp2_with fail
   refine (c0 _ ((Ext.refl _).alloc _)).mono ?_
   rintro e w1 ⟨rfl, E1⟩
   exact ⟨rfl, rfl, (((Ext.refl _).alloc _)).trans E1⟩
 | ok row =>
   have c0 := xwhole_ok hF hN h1 ht
   have br := whR_bd o1 ht
   cases hu : whO l 2 with
   | error x =>
     have HX : xIndex l = .error x := by unfold xIndex; rw [sg_of h1, ht, hu]
     rw [HX]
     have c1 := xone_no hF hN hu
     clear HX ht hu
     go_enter Tryz.func78, Tryz.ntmps78
     go_wp2_with fail
     refine (c0 _ ((Ext.refl _).alloc _)).mono ?_
     rintro e w1 ⟨rfl, E1⟩
     have B1 : Hid (Ext W w1) := ((Ext.refl _).alloc _).trans E1
     clear E1
     go_wp2_with fail
     refine (c1 _ B1.out).mono ?_
     rintro e w2 ⟨rfl, E2⟩
     exact ⟨rfl, rfl, B1.out.trans E2⟩
   | ok col =>
     have c1 := xone_ok hF hN hu
     have bc : -1000000000000000 ≤ col ∧ col ≤ 1000000000000000 := by
       unfold whO at hu
       split at hu
       · cases hu; omega
       · exact whR_bd (hF.ok 2) hu
     have c2 := xarea_at hF hN h0
     have HX : xIndex l = pkR (arOf a0) row col := by unfold xIndex; rw [sg_of h1, ht, hu, h0]
     rw [HX]
     have hR := hF.r a0 (List.mem_of_getElem? h0)
     have hL : (arOf a0).g.l.length ≤ 1500000 ∧ I64 (arOf a0).rows ∧ I64 (arOf a0).cols := by
       unfold arOf
       split
       · rename_i har
         refine ⟨?_, hR⟩
         have h3 := seen_le (l := gsOf l) (j := 0) (a := a0.g) (by unfold gsOf; rw [List.getElem?_map, h0]; rfl)
         have h4 : (seen1 a0.g).length = a0.g.l.length := by unfold seen1; rw [if_pos har]; simp
         have := hF.s
         omega
       · refine ⟨?_, ⟨?_, ?_⟩, ⟨?_, ?_⟩⟩ <;> simp
     generalize arOf a0 = b at *
     obtain ⟨⟨ar, bl⟩, R, C⟩ := b
     simp only [] at hL HX
     obtain ⟨hL, ⟨r1, r2⟩, ⟨s1, s2⟩⟩ := hL
     have HP : pkR ⟨⟨ar, bl⟩, R, C⟩ row col = if row < 1 ∨ row > R ∨ col < 1 ∨ col > C ∨ col > (bl.length : Int) then .error 1 else if row - 1 > ((bl.length : Int) - col) / C then .error 1 else match bl[((row - 1) * C + col - 1).toNat]? with | some r => .ok r | none => .error 1 := rfl
     rw [HP]
     clear HX HP ht hu hR o1 hF hN h0 h1
     obtain ⟨m, hm⟩ : ∃ m, bl.length = m := ⟨_, rfl⟩
     rw [hm] at hL ⊢
     have HL : Hid (bl.length = m) := hm
     have C2 : ∀ W', Ext W W' → Calls Tryz.prog 122 #[.slice p n c, .int .i64 0] W' fun e w' => ∃ p' c', e = .returned (.agg #[.bool true, .int .i64 R, .int .i64 C, .slice p' m c']) ∧ RdV w'.heap.size w' (.slice p' m c') bl ∧ Ext W' w' := fun W' e => (c2 W' e).mono (fun e w' h => by
       obtain ⟨p', n', c', h1, h2, h3⟩ := h
       have h4 := h2.len
       simp only [] at h4
       rw [hm] at h4
       subst h4
       exact ⟨p', c', h1, h2, h3⟩)
     clear c2 hm
     obtain ⟨b1, b2⟩ := br
     obtain ⟨b3, b4⟩ := bc
     have mI : (m : Int) ≤ 1500000 := by omega
     by_cases t1 : row < 1
     · rw [if_pos (.inl t1)]
       go_enter Tryz.func78, Tryz.ntmps78
       go_wp2_with fail
       refine (c0 _ ((Ext.refl _).alloc _)).mono ?_
       rintro e w1 ⟨rfl, E1⟩
       have B1 : Hid (Blk w1 W.heap.size (.int .i64 0) (.int .i64 0) (.string ⟨#[]⟩) (.int .i64 0) ∧ Ext W w1) := ⟨blk_top (by simp) E1, ((Ext.refl _).alloc _).trans E1⟩
       clear E1
       go_wp2_with fail
       refine (c1 _ B1.out.2).mono ?_
       rintro e w2 ⟨rfl, E2⟩
       have B2 : Hid (Blk w2 W.heap.size (.int .i64 0) (.int .i64 0) (.string ⟨#[]⟩) (.int .i64 0) ∧ Ext W w2) := ⟨B1.out.1.ext E2, B1.out.2.trans E2⟩
       clear E2
       go_wp2_with fail
       refine (C2 _ B2.out.2).mono ?_
       rintro e w3 ⟨p', c', rfl, hV, E3⟩
       have B3 : Hid ((Blk w3 W.heap.size (.int .i64 0) (.int .i64 0) (.string ⟨#[]⟩) (.int .i64 0) ∧ Ext W w3) ∧ RdV w3.heap.size w3 (.slice p' m c') bl) := ⟨⟨B2.out.1.ext E3, B2.out.2.trans E3⟩, hV⟩
       clear E3 hV
       go_wp2_with fail
       exact ⟨rfl, rfl, B3.out.1.2.alloc _⟩
     by_cases t2 : row > R
     · rw [if_pos (.inr (.inl t2))]
       go_enter Tryz.func78, Tryz.ntmps78
       go_wp2_with fail
       refine (c0 _ ((Ext.refl _).alloc _)).mono ?_
       rintro e w1 ⟨rfl, E1⟩
       have B1 : Hid (Blk w1 W.heap.size (.int .i64 0) (.int .i64 0) (.string ⟨#[]⟩) (.int .i64 0) ∧ Ext W w1) := ⟨blk_top (by simp) E1, ((Ext.refl _).alloc _).trans E1⟩
       clear E1
       go_wp2_with fail
       refine (c1 _ B1.out.2).mono ?_
       rintro e w2 ⟨rfl, E2⟩
       have B2 : Hid (Blk w2 W.heap.size (.int .i64 0) (.int .i64 0) (.string ⟨#[]⟩) (.int .i64 0) ∧ Ext W w2) := ⟨B1.out.1.ext E2, B1.out.2.trans E2⟩
       clear E2
       go_wp2_with fail
       refine (C2 _ B2.out.2).mono ?_
       rintro e w3 ⟨p', c', rfl, hV, E3⟩
       have B3 : Hid ((Blk w3 W.heap.size (.int .i64 0) (.int .i64 0) (.string ⟨#[]⟩) (.int .i64 0) ∧ Ext W w3) ∧ RdV w3.heap.size w3 (.slice p' m c') bl) := ⟨⟨B2.out.1.ext E3, B2.out.2.trans E3⟩, hV⟩
       clear E3 hV
       go_wp2_with fail
       exact ⟨rfl, rfl, B3.out.1.2.alloc _⟩
     by_cases t3 : col < 1
     · rw [if_pos (.inr (.inr (.inl t3)))]
       go_enter Tryz.func78, Tryz.ntmps78
       go_wp2_with fail
       refine (c0 _ ((Ext.refl _).alloc _)).mono ?_
       rintro e w1 ⟨rfl, E1⟩
       have B1 : Hid (Blk w1 W.heap.size (.int .i64 0) (.int .i64 0) (.string ⟨#[]⟩) (.int .i64 0) ∧ Ext W w1) := ⟨blk_top (by simp) E1, ((Ext.refl _).alloc _).trans E1⟩
       clear E1
       go_wp2_with fail
       refine (c1 _ B1.out.2).mono ?_
       rintro e w2 ⟨rfl, E2⟩
       have B2 : Hid (Blk w2 W.heap.size (.int .i64 0) (.int .i64 0) (.string ⟨#[]⟩) (.int .i64 0) ∧ Ext W w2) := ⟨B1.out.1.ext E2, B1.out.2.trans E2⟩
       clear E2
       go_wp2_with fail
       refine (C2 _ B2.out.2).mono ?_
       rintro e w3 ⟨p', c', rfl, hV, E3⟩
       have B3 : Hid ((Blk w3 W.heap.size (.int .i64 0) (.int .i64 0) (.string ⟨#[]⟩) (.int .i64 0) ∧ Ext W w3) ∧ RdV w3.heap.size w3 (.slice p' m c') bl) := ⟨⟨B2.out.1.ext E3, B2.out.2.trans E3⟩, hV⟩
       clear E3 hV
       go_wp2_with fail
       exact ⟨rfl, rfl, B3.out.1.2.alloc _⟩
     by_cases t4 : col > C
     · rw [if_pos (.inr (.inr (.inr (.inl t4))))]
       go_enter Tryz.func78, Tryz.ntmps78
       go_wp2_with fail
       refine (c0 _ ((Ext.refl _).alloc _)).mono ?_
       rintro e w1 ⟨rfl, E1⟩
       have B1 : Hid (Blk w1 W.heap.size (.int .i64 0) (.int .i64 0) (.string ⟨#[]⟩) (.int .i64 0) ∧ Ext W w1) := ⟨blk_top (by simp) E1, ((Ext.refl _).alloc _).trans E1⟩
       clear E1
       go_wp2_with fail
       refine (c1 _ B1.out.2).mono ?_
       rintro e w2 ⟨rfl, E2⟩
       have B2 : Hid (Blk w2 W.heap.size (.int .i64 0) (.int .i64 0) (.string ⟨#[]⟩) (.int .i64 0) ∧ Ext W w2) := ⟨B1.out.1.ext E2, B1.out.2.trans E2⟩
       clear E2
       go_wp2_with fail
       refine (C2 _ B2.out.2).mono ?_
       rintro e w3 ⟨p', c', rfl, hV, E3⟩
       have B3 : Hid ((Blk w3 W.heap.size (.int .i64 0) (.int .i64 0) (.string ⟨#[]⟩) (.int .i64 0) ∧ Ext W w3) ∧ RdV w3.heap.size w3 (.slice p' m c') bl) := ⟨⟨B2.out.1.ext E3, B2.out.2.trans E3⟩, hV⟩
       clear E3 hV
       go_wp2_with fail
       exact ⟨rfl, rfl, B3.out.1.2.alloc _⟩
     by_cases t5 : col > (m : Int)
     · rw [if_pos (.inr (.inr (.inr (.inr (t5)))))]
       go_enter Tryz.func78, Tryz.ntmps78
       go_wp2_with fail
       refine (c0 _ ((Ext.refl _).alloc _)).mono ?_
       rintro e w1 ⟨rfl, E1⟩
       have B1 : Hid (Blk w1 W.heap.size (.int .i64 0) (.int .i64 0) (.string ⟨#[]⟩) (.int .i64 0) ∧ Ext W w1) := ⟨blk_top (by simp) E1, ((Ext.refl _).alloc _).trans E1⟩
       clear E1
       go_wp2_with fail
       refine (c1 _ B1.out.2).mono ?_
       rintro e w2 ⟨rfl, E2⟩
       have B2 : Hid (Blk w2 W.heap.size (.int .i64 0) (.int .i64 0) (.string ⟨#[]⟩) (.int .i64 0) ∧ Ext W w2) := ⟨B1.out.1.ext E2, B1.out.2.trans E2⟩
       clear E2
       go_wp2_with fail
       refine (C2 _ B2.out.2).mono ?_
       rintro e w3 ⟨p', c', rfl, hV, E3⟩
       have B3 : Hid ((Blk w3 W.heap.size (.int .i64 0) (.int .i64 0) (.string ⟨#[]⟩) (.int .i64 0) ∧ Ext W w3) ∧ RdV w3.heap.size w3 (.slice p' m c') bl) := ⟨⟨B2.out.1.ext E3, B2.out.2.trans E3⟩, hV⟩
       clear E3 hV
       go_wp2_with fail
       exact ⟨rfl, rfl, B3.out.1.2.alloc _⟩
     rw [if_neg (by omega)]
     have u1 : 1 ≤ C := by omega
     have u2 : 0 ≤ (m : Int) - col := by omega
     have ht : ((m : Int) - col).tdiv C = ((m : Int) - col) / C := Int.tdiv_eq_ediv_of_nonneg u2
     have u3 : 0 ≤ ((m : Int) - col) / C := Int.ediv_nonneg u2 (by omega)
     have u4 : ((m : Int) - col) / C ≤ (m : Int) - col := Int.ediv_le_self C u2
     have HM : Hid (row - 1 ≤ ((m : Int) - col) / C → (row - 1) * C ≤ (m : Int) - col) := fun h => Int.le_trans (Int.mul_le_mul_of_nonneg_right h (by omega)) (Int.ediv_mul_le _ (by omega))
     generalize ((m : Int) - col) / C = q at *
     have e0 : (C == 0) = false := by simp; omega
     have wk1 : wrap64 (row - 1) = row - 1 := by unfold wrap64; omega
     have wk2 : wrap64 ((m : Int) - col) = (m : Int) - col := by unfold wrap64; omega
     by_cases t6 : row - 1 > q
     · rw [if_pos t6]
       go_enter Tryz.func78, Tryz.ntmps78
       go_wp2_with fail
       refine (c0 _ ((Ext.refl _).alloc _)).mono ?_
       rintro e w1 ⟨rfl, E1⟩
       have B1 : Hid (Blk w1 W.heap.size (.int .i64 0) (.int .i64 0) (.string ⟨#[]⟩) (.int .i64 0) ∧ Ext W w1) := ⟨blk_top (by simp) E1, ((Ext.refl _).alloc _).trans E1⟩
       clear E1
       go_wp2_with fail
       refine (c1 _ B1.out.2).mono ?_
       rintro e w2 ⟨rfl, E2⟩
       have B2 : Hid (Blk w2 W.heap.size (.int .i64 0) (.int .i64 0) (.string ⟨#[]⟩) (.int .i64 0) ∧ Ext W w2) := ⟨B1.out.1.ext E2, B1.out.2.trans E2⟩
       clear E2
       go_wp2_with fail
       refine (C2 _ B2.out.2).mono ?_
       rintro e w3 ⟨p', c', rfl, hV, E3⟩
       have B3 : Hid ((Blk w3 W.heap.size (.int .i64 0) (.int .i64 0) (.string ⟨#[]⟩) (.int .i64 0) ∧ Ext W w3) ∧ RdV w3.heap.size w3 (.slice p' m c') bl) := ⟨⟨B2.out.1.ext E3, B2.out.2.trans E3⟩, hV⟩
       clear E3 hV
       go_wp2_with fail
       exact ⟨rfl, rfl, B3.out.1.2.alloc _⟩
     · rw [if_neg t6]
       have v1 := HM.out (by omega)
       have v2 : 0 ≤ (row - 1) * C := Int.mul_nonneg (by omega) (by omega)
       obtain ⟨M, hM⟩ : ∃ M, (row - 1) * C = M := ⟨_, rfl⟩
       rw [hM] at v1 v2 ⊢
       obtain ⟨j, hj⟩ : ∃ j : Nat, M + col - 1 = (j : Int) := ⟨(M + col - 1).toNat, by omega⟩
       have hjm : j < m := by omega
       have hjI : (j : Int) < (m : Int) := by omega
       have wk3 : wrap64 M = M := by unfold wrap64; omega
       have wk4 : wrap64 (M + col) = M + col := by unfold wrap64; omega
       have wk5 : wrap64 (M + col - 1) = (j : Int) := by rw [hj]; unfold wrap64; omega
       have hjr : ∃ r, bl[j]? = some r := ⟨bl[j]'(by have := HL.out; omega), List.getElem?_eq_getElem _⟩
       obtain ⟨r, hr⟩ := hjr
       rw [show (M + col - 1).toNat = j by omega, hr]
       have HJ : Hid (bl[j]? = some r ∧ j < bl.length) := ⟨hr, by have := HL.out; omega⟩
       clear HM HL hr
       go_enter Tryz.func78, Tryz.ntmps78
       go_wp2_with fail
       refine (c0 _ ((Ext.refl _).alloc _)).mono ?_
       rintro e w1 ⟨rfl, E1⟩
       have B1 : Hid (Blk w1 W.heap.size (.int .i64 0) (.int .i64 0) (.string ⟨#[]⟩) (.int .i64 0) ∧ Ext W w1) := ⟨blk_top (by simp) E1, ((Ext.refl _).alloc _).trans E1⟩
       clear E1
       go_wp2_with fail
       refine (c1 _ B1.out.2).mono ?_
       rintro e w2 ⟨rfl, E2⟩
       have B2 : Hid (Blk w2 W.heap.size (.int .i64 0) (.int .i64 0) (.string ⟨#[]⟩) (.int .i64 0) ∧ Ext W w2) := ⟨B1.out.1.ext E2, B1.out.2.trans E2⟩
       clear E2
       go_wp2_with fail
       refine (C2 _ B2.out.2).mono ?_
       rintro e w3 ⟨p', c', rfl, hV, E3⟩
       have B3 : Hid ((Blk w3 W.heap.size (.int .i64 0) (.int .i64 0) (.string ⟨#[]⟩) (.int .i64 0) ∧ Ext W w3) ∧ RdV w3.heap.size w3 (.slice p' m c') bl) := ⟨⟨B2.out.1.ext E3, B2.out.2.trans E3⟩, hV⟩
       clear E3 hV
       obtain ⟨bb, off, r', rfl, hr', hbb, hbW, k0, k1, k2, k3⟩ := B3.out.2.at HJ.out.2
       rw [HJ.out.1] at hr'
       cases hr'
       obtain ⟨z, ⟨g0, g1, g2, g3⟩, f0, f1, f2, f3⟩ := B3.out.1.1
       clear hbb
       go_wp2_with fail
       have X2 : Ext W (((((w3.setCell ⟨W.heap.size, 0, none⟩ (.int .i64 r.k)).setCell ⟨W.heap.size, 1, none⟩ (.int .i64 r.n)).setCell ⟨W.heap.size, 2, none⟩ (.string r.s)).setCell ⟨W.heap.size, 3, none⟩ (.int .i64 r.e)).alloc (.cells #[.bool true, .int .i64 R, .int .i64 C, .slice (some ⟨bb, off, none⟩) m c'] 31)) := ((((B3.out.1.2.setCell (Nat.le_refl _) _).setCell (Nat.le_refl _) _).setCell (Nat.le_refl _) _).setCell (Nat.le_refl _) _).alloc _
       exact finB (b := W.heap.size) (w := W) ((B3.out.1.1.set _ _ _ _).al _) rfl X2 (fun g0 g1 g2 g3 => by simp [results, Tryz.results78, go_sem, g0, g1, g2, g3]) (fun h => ⟨rfl, h⟩)
end Go.Proofs.YtalejeknigbhjaaGreatDoor

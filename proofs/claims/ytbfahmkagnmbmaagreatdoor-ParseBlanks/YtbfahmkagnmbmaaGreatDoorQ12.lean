/-
  The contracts of the reader's small steps: here, isSign, take, pass.
  The contracts of Known and binds (Power), of package parse and of the document.
-/
import Derived.Test.YtbfahmkagnmbmaaGreatDoorQ11
namespace Go.Proofs.YtbfahmkagnmbmaaGreatDoor
open Go.RowKit
set_option maxHeartbeats 1000000

theorem ret5 (v : Value) {fn : Func} {Q : Ending → World → Prop} {a : Act} {W : World} {b : Nat} {x0 x1 x2 x3 x4 : Value} (B : Blk5 W b x0 x1 x2 x3 x4) (hd : a.defers = [])
    (hr : W.cell? ⟨b, 0, none⟩ = some x0 → W.cell? ⟨b, 1, none⟩ = some x1 → W.cell? ⟨b, 2, none⟩ = some x2 → W.cell? ⟨b, 3, none⟩ = some x3 → W.cell? ⟨b, 4, none⟩ = some x4 → (results fn a.tmps).run Tryz.prog W = .ok v W)
    (hQ : Q (.returned v) W) : bodyPost Tryz.prog fn Q .ret a W := bodyPost_ret (hr B.2.1.1 B.2.1.2.1 B.2.1.2.2.1 B.2.1.2.2.2.1 B.2.1.2.2.2.2) hd hQ
theorem here_any (w0 : World) (b d : Nat) (ts : List Tk) (c : Int) (w : World) (h : Stt w0 b w ts d) :
    Calls Tryz.prog 41 #[.pointer (some ⟨b, 0, none⟩), .int .i64 c] w fun e w' => e = .returned (.agg #[.int .i64 (hd ts).2.1, .int .i64 c]) ∧ Ext w w' := by
  have h3 := h.2.2.1
  obtain ⟨tb, off, cc, b0, z0, b1, z1, t0, t1, t2, t3, t4, hne, hc, hp, hs⟩ := h.get
  generalize hd ts = t at *
  generalize ts.length = n at *
  clear h b1 z1 t0 t2 t3 t4
  go_enter Tryz.func41, Tryz.ntmps41
  go_wp2_with fail
  refine fin2 _ (blk2_top rfl (Ext.refl _)) rfl ((Ext.refl w).alloc _) (fun g0 g1 => by simp [results, Tryz.results41, go_sem, g0, g1]) (fun h => ⟨rfl, h⟩)
theorem isSign_any (w0 : World) (b d : Nat) (ts : List Tk) (q : ByteArray) (w : World) (h : Stt w0 b w ts d) :
    Calls Tryz.prog 86 #[.pointer (some ⟨b, 0, none⟩), .string q] w fun e w' => e = .returned (.bool (isSg q.data.toList ts)) ∧ Ext w w' := by
  have h3 := h.2.2.1
  obtain ⟨tb, off, cc, b0, z0, b1, z1, t0, t1, t2, t3, t4, hne, hc, hp, hs⟩ := h.get
  unfold isSg
  generalize hd ts = t at *
  generalize ts.length = n at *
  clear h b1 z1 t1 t3 t4
  go_enter Tryz.func86, Tryz.ntmps86
  go_wp2_with fail
  · rename_i hk
    go_ret
    refine ⟨ret_bool ?_, Ext.refl _⟩
    rw [ByteArray.toList_eq, ByteArray.toList_eq, bs_list, hk]; rfl
  · rename_i hk
    go_ret
    refine ⟨ret_bool ?_, Ext.refl _⟩
    have : (t.1 == 3) = false := by simpa using hk
    rw [this]; rfl
theorem take_any (w0 : World) (b d : Nat) (ts : List Tk) (w : World) (h : Stt w0 b w ts d) (h5 : (hd ts).1 ≠ 5) :
    Calls Tryz.prog 72 #[.pointer (some ⟨b, 0, none⟩)] w (PW w0 b w d (aggT (hd ts)) (tk1 d ts)) := by
  have h3 := h.2.2.1
  have HS : Hid (Stt w0 b w ts d) := h
  have H5 : Hid ((hd ts).1 ≠ 5) := h5
  have ch := fun W hW => here_any w0 b d ts 2 W hW
  obtain ⟨tb, off, cc, b0, z0, b1, z1, t0, t1, t2, t3, t4, hne, hc, hp, hs⟩ := h.get
  have HB : Hid (w.cell? ⟨b, 0, none⟩ = some (.slice (some ⟨tb, off, none⟩) ts.length cc)) := b0
  by_cases hd40 : 40 < d
  · have hI : (40 : Int) < (d : Int) := by omega
    have HX : Hid (tk1 d ts = .error (ft ts true)) := by show _ = _; unfold tk1; rw [if_pos hd40]
    have c1 := ch (w.alloc (.cells #[.int .i64 0, .int .i64 0, .string ⟨#[]⟩, .int .i64 0, .int .i64 0] 40)) (HS.out.ext ((Ext.refl _).alloc _))
    clear h ch h5 t0 t1 t2 t3 t4 b0 z0
    go_enter Tryz.func72, Tryz.ntmps72
    go_wp2_with fail
    refine c1.mono ?_
    rintro e w1 ⟨rfl, E1⟩
    go_wp2_with fail
    rw [HX.out]
    exact ⟨rfl, rfl, ((((Ext.refl w).alloc _).trans E1).toB b)⟩
  · have hI : ¬ (40 : Int) < (d : Int) := by omega
    have HX : Hid (tk1 d ts = .ok ts.tail) := by show _ = _; unfold tk1; rw [if_neg hd40]
    have h2 : ¬ cc = 1 := by have := (HS.out.2.2.2.1.tail H5.out).1.pos; have := (HS.out.2.2.2.1.tail H5.out).2; omega
    clear h ch h5
    go_enter Tryz.func72, Tryz.ntmps72
    go_wp2_with fail
    have hz : w.heap.size = (w.setCell ⟨b, 0, none⟩ (Value.slice (some ⟨tb, off + 5, none⟩) (ts.length - 1) (cc - 1))).heap.size := by simp [World.setCell]
    rw [HX.out]
    refine ret5 (aggT (hd ts)) (blk5_top hz ((Ext.refl _).alloc _)) rfl (fun g0 g1 g2 g3 g4 => by simp [results, Tryz.results72, go_sem, g0, g1, g2, g3, g4, aggT]) ⟨rfl, (HS.out.take H5.out HB.out).ext (((Ext.refl _).alloc _).alloc _), (((ExtB.refl b w).set (.inl rfl) _).alloc _).alloc _⟩
theorem pass_any (w0 : World) (b d : Nat) (ts : List Tk) (q : ByteArray) (w : World) (h : Stt w0 b w ts d) :
    Calls Tryz.prog 108 #[.pointer (some ⟨b, 0, none⟩), .string q] w (PW w0 b w d (.tuple #[]) (pass1 q.data.toList d ts)) := by
  have HS : Hid (Stt w0 b w ts d) := h
  have c1 := isSign_any w0 b d ts q w h
  cases hq : isSg q.data.toList ts
  · rw [hq] at c1
    have HX : Hid (pass1 q.data.toList d ts = .error (ft ts false)) := by show _ = _; unfold pass1; rw [hq]; rfl
    clear hq h
    go_enter Tryz.func108, Tryz.ntmps108
    go_wp2_with fail
    refine c1.mono ?_
    rintro e w1 ⟨rfl, E1⟩
    have c2 := here_any w0 b d ts 4 w1 (HS.out.ext E1)
    clear c1
    go_wp2_with fail
    refine c2.mono ?_
    rintro e w2 ⟨rfl, E2⟩
    clear c2
    go_wp2_with fail
    rw [HX.out]
    exact ⟨rfl, rfl, ((E1.trans E2).toB b)⟩
  · rw [hq] at c1
    have h5 : (hd ts).1 ≠ 5 := by rw [(isSg_k hq).1]; decide
    have HX : Hid (pass1 q.data.toList d ts = tk1 d ts) := by show _ = _; unfold pass1; rw [hq]; rfl
    have H5 : Hid ((hd ts).1 ≠ 5) := h5
    clear hq h h5
    go_enter Tryz.func108, Tryz.ntmps108
    go_wp2_with fail
    refine c1.mono ?_
    rintro e w1 ⟨rfl, E1⟩
    have c2 := take_any w0 b d ts w1 (HS.out.ext E1) H5.out
    clear c1
    cases ht : tk1 d ts with
    | error f =>
      rw [ht] at c2 HX
      go_wp2_with fail
      refine c2.mono ?_
      rintro e w2 ⟨rfl, E2⟩
      rw [HX.out]
      exact ⟨rfl, rfl, (E1.toB b).trans E2⟩
    | ok ts1 =>
      rw [ht] at c2 HX
      go_wp2_with fail
      refine c2.mono ?_
      rintro e w2 ⟨rfl, S2, E2⟩
      clear c2
      have HS2 : Hid (Stt w0 b w2 ts1 d ∧ ExtB b w1 w2) := ⟨S2, E2⟩
      clear S2 E2
      go_wp2_with fail
      refine ⟨rfl, .tuple #[], results_none rfl _ _ _, ?_⟩
      rw [HX.out]
      exact ⟨rfl, HS2.out.1, (E1.toB b).trans HS2.out.2⟩
end Go.Proofs.YtbfahmkagnmbmaaGreatDoor

namespace Go.Proofs.YtbfahmkagnmbmaaGreatDoor
open Go.RowKit
set_option maxHeartbeats 1000000

def knA (s : List UInt8) : Int := match kno s with
  | some (a, _) => (a : Int)
  | none => 0
def knB (s : List UInt8) : Int := match kno s with
  | some (_, b) => (b : Int)
  | none => 0
theorem known_any (s : ByteArray) (w : World) :
    Calls Tryz.prog 29 #[.string s] w fun e w' => e = .returned (.tuple #[.int .i64 (knA s.data.toList), .int .i64 (knB s.data.toList), .bool (kno s.data.toList).isSome]) ∧ w' = w := by
  have hs := ByteArray.toList_eq s
  obtain ⟨l, hl⟩ : ∃ l, s.data.toList = l := ⟨_, rfl⟩
  rw [hl] at hs ⊢
  clear hl
  by_cases h0 : l = [83, 85, 77]
  · subst h0
    have e0 : (s.toList == [83, 85, 77]) = true := by rw [hs]; decide
    clear hs 
    go_enter Tryz.func29, Tryz.ntmps29
    go_wp2_with fail
    go_ret3
    exact ⟨rfl, rfl⟩
  by_cases h1 : l = [67, 79, 85, 78, 84]
  · subst h1
    have e0 : (s.toList == [83, 85, 77]) = false := by rw [hs]; decide
    have e1 : (s.toList == [67, 79, 85, 78, 84]) = true := by rw [hs]; decide
    clear hs h0
    go_enter Tryz.func29, Tryz.ntmps29
    go_wp2_with fail
    go_ret3
    exact ⟨rfl, rfl⟩
  by_cases h2 : l = [77, 73, 78]
  · subst h2
    have e0 : (s.toList == [83, 85, 77]) = false := by rw [hs]; decide
    have e1 : (s.toList == [67, 79, 85, 78, 84]) = false := by rw [hs]; decide
    have e2 : (s.toList == [77, 73, 78]) = true := by rw [hs]; decide
    clear hs h0 h1
    go_enter Tryz.func29, Tryz.ntmps29
    go_wp2_with fail
    go_ret3
    exact ⟨rfl, rfl⟩
  by_cases h3 : l = [77, 65, 88]
  · subst h3
    have e0 : (s.toList == [83, 85, 77]) = false := by rw [hs]; decide
    have e1 : (s.toList == [67, 79, 85, 78, 84]) = false := by rw [hs]; decide
    have e2 : (s.toList == [77, 73, 78]) = false := by rw [hs]; decide
    have e3 : (s.toList == [77, 65, 88]) = true := by rw [hs]; decide
    clear hs h0 h1 h2
    go_enter Tryz.func29, Tryz.ntmps29
    go_wp2_with fail
    go_ret3
    exact ⟨rfl, rfl⟩
  by_cases h4 : l = [65, 86, 69, 82, 65, 71, 69]
  · subst h4
    have e0 : (s.toList == [83, 85, 77]) = false := by rw [hs]; decide
    have e1 : (s.toList == [67, 79, 85, 78, 84]) = false := by rw [hs]; decide
    have e2 : (s.toList == [77, 73, 78]) = false := by rw [hs]; decide
    have e3 : (s.toList == [77, 65, 88]) = false := by rw [hs]; decide
    have e4 : (s.toList == [65, 86, 69, 82, 65, 71, 69]) = true := by rw [hs]; decide
    clear hs h0 h1 h2 h3
    go_enter Tryz.func29, Tryz.ntmps29
    go_wp2_with fail
    go_ret3
    exact ⟨rfl, rfl⟩
  by_cases h5 : l = [65, 78, 68]
  · subst h5
    have e0 : (s.toList == [83, 85, 77]) = false := by rw [hs]; decide
    have e1 : (s.toList == [67, 79, 85, 78, 84]) = false := by rw [hs]; decide
    have e2 : (s.toList == [77, 73, 78]) = false := by rw [hs]; decide
    have e3 : (s.toList == [77, 65, 88]) = false := by rw [hs]; decide
    have e4 : (s.toList == [65, 86, 69, 82, 65, 71, 69]) = false := by rw [hs]; decide
    have e5 : (s.toList == [65, 78, 68]) = true := by rw [hs]; decide
    clear hs h0 h1 h2 h3 h4
    go_enter Tryz.func29, Tryz.ntmps29
    go_wp2_with fail
    go_ret3
    exact ⟨rfl, rfl⟩
  by_cases h6 : l = [79, 82]
  · subst h6
    have e0 : (s.toList == [83, 85, 77]) = false := by rw [hs]; decide
    have e1 : (s.toList == [67, 79, 85, 78, 84]) = false := by rw [hs]; decide
    have e2 : (s.toList == [77, 73, 78]) = false := by rw [hs]; decide
    have e3 : (s.toList == [77, 65, 88]) = false := by rw [hs]; decide
    have e4 : (s.toList == [65, 86, 69, 82, 65, 71, 69]) = false := by rw [hs]; decide
    have e5 : (s.toList == [65, 78, 68]) = false := by rw [hs]; decide
    have e6 : (s.toList == [79, 82]) = true := by rw [hs]; decide
    clear hs h0 h1 h2 h3 h4 h5
    go_enter Tryz.func29, Tryz.ntmps29
    go_wp2_with fail
    go_ret3
    exact ⟨rfl, rfl⟩
  by_cases h7 : l = [67, 79, 78, 67, 65, 84]
  · subst h7
    have e0 : (s.toList == [83, 85, 77]) = false := by rw [hs]; decide
    have e1 : (s.toList == [67, 79, 85, 78, 84]) = false := by rw [hs]; decide
    have e2 : (s.toList == [77, 73, 78]) = false := by rw [hs]; decide
    have e3 : (s.toList == [77, 65, 88]) = false := by rw [hs]; decide
    have e4 : (s.toList == [65, 86, 69, 82, 65, 71, 69]) = false := by rw [hs]; decide
    have e5 : (s.toList == [65, 78, 68]) = false := by rw [hs]; decide
    have e6 : (s.toList == [79, 82]) = false := by rw [hs]; decide
    have e7 : (s.toList == [67, 79, 78, 67, 65, 84]) = true := by rw [hs]; decide
    clear hs h0 h1 h2 h3 h4 h5 h6
    go_enter Tryz.func29, Tryz.ntmps29
    go_wp2_with fail
    go_ret3
    exact ⟨rfl, rfl⟩
  by_cases h8 : l = [73, 70]
  · subst h8
    have e0 : (s.toList == [83, 85, 77]) = false := by rw [hs]; decide
    have e1 : (s.toList == [67, 79, 85, 78, 84]) = false := by rw [hs]; decide
    have e2 : (s.toList == [77, 73, 78]) = false := by rw [hs]; decide
    have e3 : (s.toList == [77, 65, 88]) = false := by rw [hs]; decide
    have e4 : (s.toList == [65, 86, 69, 82, 65, 71, 69]) = false := by rw [hs]; decide
    have e5 : (s.toList == [65, 78, 68]) = false := by rw [hs]; decide
    have e6 : (s.toList == [79, 82]) = false := by rw [hs]; decide
    have e7 : (s.toList == [67, 79, 78, 67, 65, 84]) = false := by rw [hs]; decide
    have e8 : (s.toList == [73, 70]) = true := by rw [hs]; decide
    clear hs h0 h1 h2 h3 h4 h5 h6 h7
    go_enter Tryz.func29, Tryz.ntmps29
    go_wp2_with fail
    go_ret3
    exact ⟨rfl, rfl⟩
  by_cases h9 : l = [73, 78, 68, 69, 88]
  · subst h9
    have e0 : (s.toList == [83, 85, 77]) = false := by rw [hs]; decide
    have e1 : (s.toList == [67, 79, 85, 78, 84]) = false := by rw [hs]; decide
    have e2 : (s.toList == [77, 73, 78]) = false := by rw [hs]; decide
    have e3 : (s.toList == [77, 65, 88]) = false := by rw [hs]; decide
    have e4 : (s.toList == [65, 86, 69, 82, 65, 71, 69]) = false := by rw [hs]; decide
    have e5 : (s.toList == [65, 78, 68]) = false := by rw [hs]; decide
    have e6 : (s.toList == [79, 82]) = false := by rw [hs]; decide
    have e7 : (s.toList == [67, 79, 78, 67, 65, 84]) = false := by rw [hs]; decide
    have e8 : (s.toList == [73, 70]) = false := by rw [hs]; decide
    have e9 : (s.toList == [73, 78, 68, 69, 88]) = true := by rw [hs]; decide
    clear hs h0 h1 h2 h3 h4 h5 h6 h7 h8
    go_enter Tryz.func29, Tryz.ntmps29
    go_wp2_with fail
    go_ret3
    exact ⟨rfl, rfl⟩
  by_cases h10 : l = [82, 79, 85, 78, 68]
  · subst h10
    have e0 : (s.toList == [83, 85, 77]) = false := by rw [hs]; decide
    have e1 : (s.toList == [67, 79, 85, 78, 84]) = false := by rw [hs]; decide
    have e2 : (s.toList == [77, 73, 78]) = false := by rw [hs]; decide
    have e3 : (s.toList == [77, 65, 88]) = false := by rw [hs]; decide
    have e4 : (s.toList == [65, 86, 69, 82, 65, 71, 69]) = false := by rw [hs]; decide
    have e5 : (s.toList == [65, 78, 68]) = false := by rw [hs]; decide
    have e6 : (s.toList == [79, 82]) = false := by rw [hs]; decide
    have e7 : (s.toList == [67, 79, 78, 67, 65, 84]) = false := by rw [hs]; decide
    have e8 : (s.toList == [73, 70]) = false := by rw [hs]; decide
    have e9 : (s.toList == [73, 78, 68, 69, 88]) = false := by rw [hs]; decide
    have e10 : (s.toList == [82, 79, 85, 78, 68]) = true := by rw [hs]; decide
    clear hs h0 h1 h2 h3 h4 h5 h6 h7 h8 h9
    go_enter Tryz.func29, Tryz.ntmps29
    go_wp2_with fail
    go_ret3
    exact ⟨rfl, rfl⟩
  by_cases h11 : l = [77, 79, 68]
  · subst h11
    have e0 : (s.toList == [83, 85, 77]) = false := by rw [hs]; decide
    have e1 : (s.toList == [67, 79, 85, 78, 84]) = false := by rw [hs]; decide
    have e2 : (s.toList == [77, 73, 78]) = false := by rw [hs]; decide
    have e3 : (s.toList == [77, 65, 88]) = false := by rw [hs]; decide
    have e4 : (s.toList == [65, 86, 69, 82, 65, 71, 69]) = false := by rw [hs]; decide
    have e5 : (s.toList == [65, 78, 68]) = false := by rw [hs]; decide
    have e6 : (s.toList == [79, 82]) = false := by rw [hs]; decide
    have e7 : (s.toList == [67, 79, 78, 67, 65, 84]) = false := by rw [hs]; decide
    have e8 : (s.toList == [73, 70]) = false := by rw [hs]; decide
    have e9 : (s.toList == [73, 78, 68, 69, 88]) = false := by rw [hs]; decide
    have e10 : (s.toList == [82, 79, 85, 78, 68]) = false := by rw [hs]; decide
    have e11 : (s.toList == [77, 79, 68]) = true := by rw [hs]; decide
    clear hs h0 h1 h2 h3 h4 h5 h6 h7 h8 h9 h10
    go_enter Tryz.func29, Tryz.ntmps29
    go_wp2_with fail
    go_ret3
    exact ⟨rfl, rfl⟩
  by_cases h12 : l = [73, 70, 69, 82, 82, 79, 82]
  · subst h12
    have e0 : (s.toList == [83, 85, 77]) = false := by rw [hs]; decide
    have e1 : (s.toList == [67, 79, 85, 78, 84]) = false := by rw [hs]; decide
    have e2 : (s.toList == [77, 73, 78]) = false := by rw [hs]; decide
    have e3 : (s.toList == [77, 65, 88]) = false := by rw [hs]; decide
    have e4 : (s.toList == [65, 86, 69, 82, 65, 71, 69]) = false := by rw [hs]; decide
    have e5 : (s.toList == [65, 78, 68]) = false := by rw [hs]; decide
    have e6 : (s.toList == [79, 82]) = false := by rw [hs]; decide
    have e7 : (s.toList == [67, 79, 78, 67, 65, 84]) = false := by rw [hs]; decide
    have e8 : (s.toList == [73, 70]) = false := by rw [hs]; decide
    have e9 : (s.toList == [73, 78, 68, 69, 88]) = false := by rw [hs]; decide
    have e10 : (s.toList == [82, 79, 85, 78, 68]) = false := by rw [hs]; decide
    have e11 : (s.toList == [77, 79, 68]) = false := by rw [hs]; decide
    have e12 : (s.toList == [73, 70, 69, 82, 82, 79, 82]) = true := by rw [hs]; decide
    clear hs h0 h1 h2 h3 h4 h5 h6 h7 h8 h9 h10 h11
    go_enter Tryz.func29, Tryz.ntmps29
    go_wp2_with fail
    go_ret3
    exact ⟨rfl, rfl⟩
  by_cases h13 : l = [76, 69, 70, 84]
  · subst h13
    have e0 : (s.toList == [83, 85, 77]) = false := by rw [hs]; decide
    have e1 : (s.toList == [67, 79, 85, 78, 84]) = false := by rw [hs]; decide
    have e2 : (s.toList == [77, 73, 78]) = false := by rw [hs]; decide
    have e3 : (s.toList == [77, 65, 88]) = false := by rw [hs]; decide
    have e4 : (s.toList == [65, 86, 69, 82, 65, 71, 69]) = false := by rw [hs]; decide
    have e5 : (s.toList == [65, 78, 68]) = false := by rw [hs]; decide
    have e6 : (s.toList == [79, 82]) = false := by rw [hs]; decide
    have e7 : (s.toList == [67, 79, 78, 67, 65, 84]) = false := by rw [hs]; decide
    have e8 : (s.toList == [73, 70]) = false := by rw [hs]; decide
    have e9 : (s.toList == [73, 78, 68, 69, 88]) = false := by rw [hs]; decide
    have e10 : (s.toList == [82, 79, 85, 78, 68]) = false := by rw [hs]; decide
    have e11 : (s.toList == [77, 79, 68]) = false := by rw [hs]; decide
    have e12 : (s.toList == [73, 70, 69, 82, 82, 79, 82]) = false := by rw [hs]; decide
    have e13 : (s.toList == [76, 69, 70, 84]) = true := by rw [hs]; decide
    clear hs h0 h1 h2 h3 h4 h5 h6 h7 h8 h9 h10 h11 h12
    go_enter Tryz.func29, Tryz.ntmps29
    go_wp2_with fail
    go_ret3
    exact ⟨rfl, rfl⟩
  by_cases h14 : l = [78, 79, 84]
  · subst h14
    have e0 : (s.toList == [83, 85, 77]) = false := by rw [hs]; decide
    have e1 : (s.toList == [67, 79, 85, 78, 84]) = false := by rw [hs]; decide
    have e2 : (s.toList == [77, 73, 78]) = false := by rw [hs]; decide
    have e3 : (s.toList == [77, 65, 88]) = false := by rw [hs]; decide
    have e4 : (s.toList == [65, 86, 69, 82, 65, 71, 69]) = false := by rw [hs]; decide
    have e5 : (s.toList == [65, 78, 68]) = false := by rw [hs]; decide
    have e6 : (s.toList == [79, 82]) = false := by rw [hs]; decide
    have e7 : (s.toList == [67, 79, 78, 67, 65, 84]) = false := by rw [hs]; decide
    have e8 : (s.toList == [73, 70]) = false := by rw [hs]; decide
    have e9 : (s.toList == [73, 78, 68, 69, 88]) = false := by rw [hs]; decide
    have e10 : (s.toList == [82, 79, 85, 78, 68]) = false := by rw [hs]; decide
    have e11 : (s.toList == [77, 79, 68]) = false := by rw [hs]; decide
    have e12 : (s.toList == [73, 70, 69, 82, 82, 79, 82]) = false := by rw [hs]; decide
    have e13 : (s.toList == [76, 69, 70, 84]) = false := by rw [hs]; decide
    have e14 : (s.toList == [78, 79, 84]) = true := by rw [hs]; decide
    clear hs h0 h1 h2 h3 h4 h5 h6 h7 h8 h9 h10 h11 h12 h13
    go_enter Tryz.func29, Tryz.ntmps29
    go_wp2_with fail
    go_ret3
    exact ⟨rfl, rfl⟩
  by_cases h15 : l = [65, 66, 83]
  · subst h15
    have e0 : (s.toList == [83, 85, 77]) = false := by rw [hs]; decide
    have e1 : (s.toList == [67, 79, 85, 78, 84]) = false := by rw [hs]; decide
    have e2 : (s.toList == [77, 73, 78]) = false := by rw [hs]; decide
    have e3 : (s.toList == [77, 65, 88]) = false := by rw [hs]; decide
    have e4 : (s.toList == [65, 86, 69, 82, 65, 71, 69]) = false := by rw [hs]; decide
    have e5 : (s.toList == [65, 78, 68]) = false := by rw [hs]; decide
    have e6 : (s.toList == [79, 82]) = false := by rw [hs]; decide
    have e7 : (s.toList == [67, 79, 78, 67, 65, 84]) = false := by rw [hs]; decide
    have e8 : (s.toList == [73, 70]) = false := by rw [hs]; decide
    have e9 : (s.toList == [73, 78, 68, 69, 88]) = false := by rw [hs]; decide
    have e10 : (s.toList == [82, 79, 85, 78, 68]) = false := by rw [hs]; decide
    have e11 : (s.toList == [77, 79, 68]) = false := by rw [hs]; decide
    have e12 : (s.toList == [73, 70, 69, 82, 82, 79, 82]) = false := by rw [hs]; decide
    have e13 : (s.toList == [76, 69, 70, 84]) = false := by rw [hs]; decide
    have e14 : (s.toList == [78, 79, 84]) = false := by rw [hs]; decide
    have e15 : (s.toList == [65, 66, 83]) = true := by rw [hs]; decide
    clear hs h0 h1 h2 h3 h4 h5 h6 h7 h8 h9 h10 h11 h12 h13 h14
    go_enter Tryz.func29, Tryz.ntmps29
    go_wp2_with fail
    go_ret3
    exact ⟨rfl, rfl⟩
  by_cases h16 : l = [70, 76, 79, 79, 82]
  · subst h16
    have e0 : (s.toList == [83, 85, 77]) = false := by rw [hs]; decide
    have e1 : (s.toList == [67, 79, 85, 78, 84]) = false := by rw [hs]; decide
    have e2 : (s.toList == [77, 73, 78]) = false := by rw [hs]; decide
    have e3 : (s.toList == [77, 65, 88]) = false := by rw [hs]; decide
    have e4 : (s.toList == [65, 86, 69, 82, 65, 71, 69]) = false := by rw [hs]; decide
    have e5 : (s.toList == [65, 78, 68]) = false := by rw [hs]; decide
    have e6 : (s.toList == [79, 82]) = false := by rw [hs]; decide
    have e7 : (s.toList == [67, 79, 78, 67, 65, 84]) = false := by rw [hs]; decide
    have e8 : (s.toList == [73, 70]) = false := by rw [hs]; decide
    have e9 : (s.toList == [73, 78, 68, 69, 88]) = false := by rw [hs]; decide
    have e10 : (s.toList == [82, 79, 85, 78, 68]) = false := by rw [hs]; decide
    have e11 : (s.toList == [77, 79, 68]) = false := by rw [hs]; decide
    have e12 : (s.toList == [73, 70, 69, 82, 82, 79, 82]) = false := by rw [hs]; decide
    have e13 : (s.toList == [76, 69, 70, 84]) = false := by rw [hs]; decide
    have e14 : (s.toList == [78, 79, 84]) = false := by rw [hs]; decide
    have e15 : (s.toList == [65, 66, 83]) = false := by rw [hs]; decide
    have e16 : (s.toList == [70, 76, 79, 79, 82]) = true := by rw [hs]; decide
    clear hs h0 h1 h2 h3 h4 h5 h6 h7 h8 h9 h10 h11 h12 h13 h14 h15
    go_enter Tryz.func29, Tryz.ntmps29
    go_wp2_with fail
    go_ret3
    exact ⟨rfl, rfl⟩
  by_cases h17 : l = [83, 81, 82, 84]
  · subst h17
    have e0 : (s.toList == [83, 85, 77]) = false := by rw [hs]; decide
    have e1 : (s.toList == [67, 79, 85, 78, 84]) = false := by rw [hs]; decide
    have e2 : (s.toList == [77, 73, 78]) = false := by rw [hs]; decide
    have e3 : (s.toList == [77, 65, 88]) = false := by rw [hs]; decide
    have e4 : (s.toList == [65, 86, 69, 82, 65, 71, 69]) = false := by rw [hs]; decide
    have e5 : (s.toList == [65, 78, 68]) = false := by rw [hs]; decide
    have e6 : (s.toList == [79, 82]) = false := by rw [hs]; decide
    have e7 : (s.toList == [67, 79, 78, 67, 65, 84]) = false := by rw [hs]; decide
    have e8 : (s.toList == [73, 70]) = false := by rw [hs]; decide
    have e9 : (s.toList == [73, 78, 68, 69, 88]) = false := by rw [hs]; decide
    have e10 : (s.toList == [82, 79, 85, 78, 68]) = false := by rw [hs]; decide
    have e11 : (s.toList == [77, 79, 68]) = false := by rw [hs]; decide
    have e12 : (s.toList == [73, 70, 69, 82, 82, 79, 82]) = false := by rw [hs]; decide
    have e13 : (s.toList == [76, 69, 70, 84]) = false := by rw [hs]; decide
    have e14 : (s.toList == [78, 79, 84]) = false := by rw [hs]; decide
    have e15 : (s.toList == [65, 66, 83]) = false := by rw [hs]; decide
    have e16 : (s.toList == [70, 76, 79, 79, 82]) = false := by rw [hs]; decide
    have e17 : (s.toList == [83, 81, 82, 84]) = true := by rw [hs]; decide
    clear hs h0 h1 h2 h3 h4 h5 h6 h7 h8 h9 h10 h11 h12 h13 h14 h15 h16
    go_enter Tryz.func29, Tryz.ntmps29
    go_wp2_with fail
    go_ret3
    exact ⟨rfl, rfl⟩
  by_cases h18 : l = [76, 69, 78]
  · subst h18
    have e0 : (s.toList == [83, 85, 77]) = false := by rw [hs]; decide
    have e1 : (s.toList == [67, 79, 85, 78, 84]) = false := by rw [hs]; decide
    have e2 : (s.toList == [77, 73, 78]) = false := by rw [hs]; decide
    have e3 : (s.toList == [77, 65, 88]) = false := by rw [hs]; decide
    have e4 : (s.toList == [65, 86, 69, 82, 65, 71, 69]) = false := by rw [hs]; decide
    have e5 : (s.toList == [65, 78, 68]) = false := by rw [hs]; decide
    have e6 : (s.toList == [79, 82]) = false := by rw [hs]; decide
    have e7 : (s.toList == [67, 79, 78, 67, 65, 84]) = false := by rw [hs]; decide
    have e8 : (s.toList == [73, 70]) = false := by rw [hs]; decide
    have e9 : (s.toList == [73, 78, 68, 69, 88]) = false := by rw [hs]; decide
    have e10 : (s.toList == [82, 79, 85, 78, 68]) = false := by rw [hs]; decide
    have e11 : (s.toList == [77, 79, 68]) = false := by rw [hs]; decide
    have e12 : (s.toList == [73, 70, 69, 82, 82, 79, 82]) = false := by rw [hs]; decide
    have e13 : (s.toList == [76, 69, 70, 84]) = false := by rw [hs]; decide
    have e14 : (s.toList == [78, 79, 84]) = false := by rw [hs]; decide
    have e15 : (s.toList == [65, 66, 83]) = false := by rw [hs]; decide
    have e16 : (s.toList == [70, 76, 79, 79, 82]) = false := by rw [hs]; decide
    have e17 : (s.toList == [83, 81, 82, 84]) = false := by rw [hs]; decide
    have e18 : (s.toList == [76, 69, 78]) = true := by rw [hs]; decide
    clear hs h0 h1 h2 h3 h4 h5 h6 h7 h8 h9 h10 h11 h12 h13 h14 h15 h16 h17
    go_enter Tryz.func29, Tryz.ntmps29
    go_wp2_with fail
    go_ret3
    exact ⟨rfl, rfl⟩
  by_cases h19 : l = [73, 83, 69, 82, 82, 79, 82]
  · subst h19
    have e0 : (s.toList == [83, 85, 77]) = false := by rw [hs]; decide
    have e1 : (s.toList == [67, 79, 85, 78, 84]) = false := by rw [hs]; decide
    have e2 : (s.toList == [77, 73, 78]) = false := by rw [hs]; decide
    have e3 : (s.toList == [77, 65, 88]) = false := by rw [hs]; decide
    have e4 : (s.toList == [65, 86, 69, 82, 65, 71, 69]) = false := by rw [hs]; decide
    have e5 : (s.toList == [65, 78, 68]) = false := by rw [hs]; decide
    have e6 : (s.toList == [79, 82]) = false := by rw [hs]; decide
    have e7 : (s.toList == [67, 79, 78, 67, 65, 84]) = false := by rw [hs]; decide
    have e8 : (s.toList == [73, 70]) = false := by rw [hs]; decide
    have e9 : (s.toList == [73, 78, 68, 69, 88]) = false := by rw [hs]; decide
    have e10 : (s.toList == [82, 79, 85, 78, 68]) = false := by rw [hs]; decide
    have e11 : (s.toList == [77, 79, 68]) = false := by rw [hs]; decide
    have e12 : (s.toList == [73, 70, 69, 82, 82, 79, 82]) = false := by rw [hs]; decide
    have e13 : (s.toList == [76, 69, 70, 84]) = false := by rw [hs]; decide
    have e14 : (s.toList == [78, 79, 84]) = false := by rw [hs]; decide
    have e15 : (s.toList == [65, 66, 83]) = false := by rw [hs]; decide
    have e16 : (s.toList == [70, 76, 79, 79, 82]) = false := by rw [hs]; decide
    have e17 : (s.toList == [83, 81, 82, 84]) = false := by rw [hs]; decide
    have e18 : (s.toList == [76, 69, 78]) = false := by rw [hs]; decide
    have e19 : (s.toList == [73, 83, 69, 82, 82, 79, 82]) = true := by rw [hs]; decide
    clear hs h0 h1 h2 h3 h4 h5 h6 h7 h8 h9 h10 h11 h12 h13 h14 h15 h16 h17 h18
    go_enter Tryz.func29, Tryz.ntmps29
    go_wp2_with fail
    go_ret3
    exact ⟨rfl, rfl⟩
  have e0 : (s.toList == [83, 85, 77]) = false := by rw [hs]; simpa using h0
  have e1 : (s.toList == [67, 79, 85, 78, 84]) = false := by rw [hs]; simpa using h1
  have e2 : (s.toList == [77, 73, 78]) = false := by rw [hs]; simpa using h2
  have e3 : (s.toList == [77, 65, 88]) = false := by rw [hs]; simpa using h3
  have e4 : (s.toList == [65, 86, 69, 82, 65, 71, 69]) = false := by rw [hs]; simpa using h4
  have e5 : (s.toList == [65, 78, 68]) = false := by rw [hs]; simpa using h5
  have e6 : (s.toList == [79, 82]) = false := by rw [hs]; simpa using h6
  have e7 : (s.toList == [67, 79, 78, 67, 65, 84]) = false := by rw [hs]; simpa using h7
  have e8 : (s.toList == [73, 70]) = false := by rw [hs]; simpa using h8
  have e9 : (s.toList == [73, 78, 68, 69, 88]) = false := by rw [hs]; simpa using h9
  have e10 : (s.toList == [82, 79, 85, 78, 68]) = false := by rw [hs]; simpa using h10
  have e11 : (s.toList == [77, 79, 68]) = false := by rw [hs]; simpa using h11
  have e12 : (s.toList == [73, 70, 69, 82, 82, 79, 82]) = false := by rw [hs]; simpa using h12
  have e13 : (s.toList == [76, 69, 70, 84]) = false := by rw [hs]; simpa using h13
  have e14 : (s.toList == [78, 79, 84]) = false := by rw [hs]; simpa using h14
  have e15 : (s.toList == [65, 66, 83]) = false := by rw [hs]; simpa using h15
  have e16 : (s.toList == [70, 76, 79, 79, 82]) = false := by rw [hs]; simpa using h16
  have e17 : (s.toList == [83, 81, 82, 84]) = false := by rw [hs]; simpa using h17
  have e18 : (s.toList == [76, 69, 78]) = false := by rw [hs]; simpa using h18
  have e19 : (s.toList == [73, 83, 69, 82, 82, 79, 82]) = false := by rw [hs]; simpa using h19
  have HK : Hid (kno l = none) := by show _ = _; simp [kno, kn1, kn2, kn3, kn4, kn5, h0, h1, h2, h3, h4, h5, h6, h7, h8, h9, h10, h11, h12, h13, h14, h15, h16, h17, h18, h19]
  clear hs h0 h1 h2 h3 h4 h5 h6 h7 h8 h9 h10 h11 h12 h13 h14 h15 h16 h17 h18 h19
  go_enter Tryz.func29, Tryz.ntmps29
  go_wp2_with fail
  go_ret3
  unfold knA knB
  rw [HK.out]
  exact ⟨rfl, rfl⟩
theorem binds_any (s : ByteArray) (w : World) :
    Calls Tryz.prog 28 #[.string s] w fun e w' => e = .returned (.int .i64 ((bnd s.data.toList : Nat) : Int)) ∧ w' = w := by
  have hs := ByteArray.toList_eq s
  obtain ⟨l, hl⟩ : ∃ l, s.data.toList = l := ⟨_, rfl⟩
  rw [hl] at hs ⊢
  clear hl
  by_cases h0 : l = [61]
  · subst h0
    have e0 : (s.toList == [61]) = true := by rw [hs]; decide
    clear hs 
    go_enter Tryz.func28, Tryz.ntmps28
    go_wp2_with fail
    go_ret
    exact ⟨rfl, rfl⟩
  by_cases h1 : l = [60, 62]
  · subst h1
    have e0 : (s.toList == [61]) = false := by rw [hs]; decide
    have e1 : (s.toList == [60, 62]) = true := by rw [hs]; decide
    clear hs h0
    go_enter Tryz.func28, Tryz.ntmps28
    go_wp2_with fail
    go_ret
    exact ⟨rfl, rfl⟩
  by_cases h2 : l = [60]
  · subst h2
    have e0 : (s.toList == [61]) = false := by rw [hs]; decide
    have e1 : (s.toList == [60, 62]) = false := by rw [hs]; decide
    have e2 : (s.toList == [60]) = true := by rw [hs]; decide
    clear hs h0 h1
    go_enter Tryz.func28, Tryz.ntmps28
    go_wp2_with fail
    go_ret
    exact ⟨rfl, rfl⟩
  by_cases h3 : l = [60, 61]
  · subst h3
    have e0 : (s.toList == [61]) = false := by rw [hs]; decide
    have e1 : (s.toList == [60, 62]) = false := by rw [hs]; decide
    have e2 : (s.toList == [60]) = false := by rw [hs]; decide
    have e3 : (s.toList == [60, 61]) = true := by rw [hs]; decide
    clear hs h0 h1 h2
    go_enter Tryz.func28, Tryz.ntmps28
    go_wp2_with fail
    go_ret
    exact ⟨rfl, rfl⟩
  by_cases h4 : l = [62]
  · subst h4
    have e0 : (s.toList == [61]) = false := by rw [hs]; decide
    have e1 : (s.toList == [60, 62]) = false := by rw [hs]; decide
    have e2 : (s.toList == [60]) = false := by rw [hs]; decide
    have e3 : (s.toList == [60, 61]) = false := by rw [hs]; decide
    have e4 : (s.toList == [62]) = true := by rw [hs]; decide
    clear hs h0 h1 h2 h3
    go_enter Tryz.func28, Tryz.ntmps28
    go_wp2_with fail
    go_ret
    exact ⟨rfl, rfl⟩
  by_cases h5 : l = [62, 61]
  · subst h5
    have e0 : (s.toList == [61]) = false := by rw [hs]; decide
    have e1 : (s.toList == [60, 62]) = false := by rw [hs]; decide
    have e2 : (s.toList == [60]) = false := by rw [hs]; decide
    have e3 : (s.toList == [60, 61]) = false := by rw [hs]; decide
    have e4 : (s.toList == [62]) = false := by rw [hs]; decide
    have e5 : (s.toList == [62, 61]) = true := by rw [hs]; decide
    clear hs h0 h1 h2 h3 h4
    go_enter Tryz.func28, Tryz.ntmps28
    go_wp2_with fail
    go_ret
    exact ⟨rfl, rfl⟩
  by_cases h6 : l = [38]
  · subst h6
    have e0 : (s.toList == [61]) = false := by rw [hs]; decide
    have e1 : (s.toList == [60, 62]) = false := by rw [hs]; decide
    have e2 : (s.toList == [60]) = false := by rw [hs]; decide
    have e3 : (s.toList == [60, 61]) = false := by rw [hs]; decide
    have e4 : (s.toList == [62]) = false := by rw [hs]; decide
    have e5 : (s.toList == [62, 61]) = false := by rw [hs]; decide
    have e6 : (s.toList == [38]) = true := by rw [hs]; decide
    clear hs h0 h1 h2 h3 h4 h5
    go_enter Tryz.func28, Tryz.ntmps28
    go_wp2_with fail
    go_ret
    exact ⟨rfl, rfl⟩
  by_cases h7 : l = [43]
  · subst h7
    have e0 : (s.toList == [61]) = false := by rw [hs]; decide
    have e1 : (s.toList == [60, 62]) = false := by rw [hs]; decide
    have e2 : (s.toList == [60]) = false := by rw [hs]; decide
    have e3 : (s.toList == [60, 61]) = false := by rw [hs]; decide
    have e4 : (s.toList == [62]) = false := by rw [hs]; decide
    have e5 : (s.toList == [62, 61]) = false := by rw [hs]; decide
    have e6 : (s.toList == [38]) = false := by rw [hs]; decide
    have e7 : (s.toList == [43]) = true := by rw [hs]; decide
    clear hs h0 h1 h2 h3 h4 h5 h6
    go_enter Tryz.func28, Tryz.ntmps28
    go_wp2_with fail
    go_ret
    exact ⟨rfl, rfl⟩
  by_cases h8 : l = [45]
  · subst h8
    have e0 : (s.toList == [61]) = false := by rw [hs]; decide
    have e1 : (s.toList == [60, 62]) = false := by rw [hs]; decide
    have e2 : (s.toList == [60]) = false := by rw [hs]; decide
    have e3 : (s.toList == [60, 61]) = false := by rw [hs]; decide
    have e4 : (s.toList == [62]) = false := by rw [hs]; decide
    have e5 : (s.toList == [62, 61]) = false := by rw [hs]; decide
    have e6 : (s.toList == [38]) = false := by rw [hs]; decide
    have e7 : (s.toList == [43]) = false := by rw [hs]; decide
    have e8 : (s.toList == [45]) = true := by rw [hs]; decide
    clear hs h0 h1 h2 h3 h4 h5 h6 h7
    go_enter Tryz.func28, Tryz.ntmps28
    go_wp2_with fail
    go_ret
    exact ⟨rfl, rfl⟩
  by_cases h9 : l = [42]
  · subst h9
    have e0 : (s.toList == [61]) = false := by rw [hs]; decide
    have e1 : (s.toList == [60, 62]) = false := by rw [hs]; decide
    have e2 : (s.toList == [60]) = false := by rw [hs]; decide
    have e3 : (s.toList == [60, 61]) = false := by rw [hs]; decide
    have e4 : (s.toList == [62]) = false := by rw [hs]; decide
    have e5 : (s.toList == [62, 61]) = false := by rw [hs]; decide
    have e6 : (s.toList == [38]) = false := by rw [hs]; decide
    have e7 : (s.toList == [43]) = false := by rw [hs]; decide
    have e8 : (s.toList == [45]) = false := by rw [hs]; decide
    have e9 : (s.toList == [42]) = true := by rw [hs]; decide
    clear hs h0 h1 h2 h3 h4 h5 h6 h7 h8
    go_enter Tryz.func28, Tryz.ntmps28
    go_wp2_with fail
    go_ret
    exact ⟨rfl, rfl⟩
  by_cases h10 : l = [47]
  · subst h10
    have e0 : (s.toList == [61]) = false := by rw [hs]; decide
    have e1 : (s.toList == [60, 62]) = false := by rw [hs]; decide
    have e2 : (s.toList == [60]) = false := by rw [hs]; decide
    have e3 : (s.toList == [60, 61]) = false := by rw [hs]; decide
    have e4 : (s.toList == [62]) = false := by rw [hs]; decide
    have e5 : (s.toList == [62, 61]) = false := by rw [hs]; decide
    have e6 : (s.toList == [38]) = false := by rw [hs]; decide
    have e7 : (s.toList == [43]) = false := by rw [hs]; decide
    have e8 : (s.toList == [45]) = false := by rw [hs]; decide
    have e9 : (s.toList == [42]) = false := by rw [hs]; decide
    have e10 : (s.toList == [47]) = true := by rw [hs]; decide
    clear hs h0 h1 h2 h3 h4 h5 h6 h7 h8 h9
    go_enter Tryz.func28, Tryz.ntmps28
    go_wp2_with fail
    go_ret
    exact ⟨rfl, rfl⟩
  have e0 : (s.toList == [61]) = false := by rw [hs]; simpa using h0
  have e1 : (s.toList == [60, 62]) = false := by rw [hs]; simpa using h1
  have e2 : (s.toList == [60]) = false := by rw [hs]; simpa using h2
  have e3 : (s.toList == [60, 61]) = false := by rw [hs]; simpa using h3
  have e4 : (s.toList == [62]) = false := by rw [hs]; simpa using h4
  have e5 : (s.toList == [62, 61]) = false := by rw [hs]; simpa using h5
  have e6 : (s.toList == [38]) = false := by rw [hs]; simpa using h6
  have e7 : (s.toList == [43]) = false := by rw [hs]; simpa using h7
  have e8 : (s.toList == [45]) = false := by rw [hs]; simpa using h8
  have e9 : (s.toList == [42]) = false := by rw [hs]; simpa using h9
  have e10 : (s.toList == [47]) = false := by rw [hs]; simpa using h10
  have HK : Hid (bnd l = 0) := by show _ = _; simp [bnd, bd1, h0, h1, h2, h3, h4, h5, h6, h7, h8, h9, h10]
  clear hs h0 h1 h2 h3 h4 h5 h6 h7 h8 h9 h10
  go_enter Tryz.func28, Tryz.ntmps28
  go_wp2_with fail
  go_ret
  exact ⟨ret_int (by rw [HK.out]; rfl), rfl⟩
theorem rknown_any (s : ByteArray) (w : World) :
    Calls Tryz.prog 34 #[.string s] w fun e w' => e = .returned (.tuple #[.int .i64 (knA s.data.toList), .int .i64 (knB s.data.toList), .bool (kno s.data.toList).isSome]) ∧ w' = w := by
  have hs := ByteArray.toList_eq s
  obtain ⟨l, hl⟩ : ∃ l, s.data.toList = l := ⟨_, rfl⟩
  rw [hl] at hs ⊢
  clear hl
  by_cases h0 : l = [83, 85, 77]
  · subst h0
    have e0 : (s.toList == [83, 85, 77]) = true := by rw [hs]; decide
    clear hs 
    go_enter Tryz.func34, Tryz.ntmps34
    go_wp2_with fail
    go_ret3
    exact ⟨rfl, rfl⟩
  by_cases h1 : l = [67, 79, 85, 78, 84]
  · subst h1
    have e0 : (s.toList == [83, 85, 77]) = false := by rw [hs]; decide
    have e1 : (s.toList == [67, 79, 85, 78, 84]) = true := by rw [hs]; decide
    clear hs h0
    go_enter Tryz.func34, Tryz.ntmps34
    go_wp2_with fail
    go_ret3
    exact ⟨rfl, rfl⟩
  by_cases h2 : l = [77, 73, 78]
  · subst h2
    have e0 : (s.toList == [83, 85, 77]) = false := by rw [hs]; decide
    have e1 : (s.toList == [67, 79, 85, 78, 84]) = false := by rw [hs]; decide
    have e2 : (s.toList == [77, 73, 78]) = true := by rw [hs]; decide
    clear hs h0 h1
    go_enter Tryz.func34, Tryz.ntmps34
    go_wp2_with fail
    go_ret3
    exact ⟨rfl, rfl⟩
  by_cases h3 : l = [77, 65, 88]
  · subst h3
    have e0 : (s.toList == [83, 85, 77]) = false := by rw [hs]; decide
    have e1 : (s.toList == [67, 79, 85, 78, 84]) = false := by rw [hs]; decide
    have e2 : (s.toList == [77, 73, 78]) = false := by rw [hs]; decide
    have e3 : (s.toList == [77, 65, 88]) = true := by rw [hs]; decide
    clear hs h0 h1 h2
    go_enter Tryz.func34, Tryz.ntmps34
    go_wp2_with fail
    go_ret3
    exact ⟨rfl, rfl⟩
  by_cases h4 : l = [65, 86, 69, 82, 65, 71, 69]
  · subst h4
    have e0 : (s.toList == [83, 85, 77]) = false := by rw [hs]; decide
    have e1 : (s.toList == [67, 79, 85, 78, 84]) = false := by rw [hs]; decide
    have e2 : (s.toList == [77, 73, 78]) = false := by rw [hs]; decide
    have e3 : (s.toList == [77, 65, 88]) = false := by rw [hs]; decide
    have e4 : (s.toList == [65, 86, 69, 82, 65, 71, 69]) = true := by rw [hs]; decide
    clear hs h0 h1 h2 h3
    go_enter Tryz.func34, Tryz.ntmps34
    go_wp2_with fail
    go_ret3
    exact ⟨rfl, rfl⟩
  by_cases h5 : l = [65, 78, 68]
  · subst h5
    have e0 : (s.toList == [83, 85, 77]) = false := by rw [hs]; decide
    have e1 : (s.toList == [67, 79, 85, 78, 84]) = false := by rw [hs]; decide
    have e2 : (s.toList == [77, 73, 78]) = false := by rw [hs]; decide
    have e3 : (s.toList == [77, 65, 88]) = false := by rw [hs]; decide
    have e4 : (s.toList == [65, 86, 69, 82, 65, 71, 69]) = false := by rw [hs]; decide
    have e5 : (s.toList == [65, 78, 68]) = true := by rw [hs]; decide
    clear hs h0 h1 h2 h3 h4
    go_enter Tryz.func34, Tryz.ntmps34
    go_wp2_with fail
    go_ret3
    exact ⟨rfl, rfl⟩
  by_cases h6 : l = [79, 82]
  · subst h6
    have e0 : (s.toList == [83, 85, 77]) = false := by rw [hs]; decide
    have e1 : (s.toList == [67, 79, 85, 78, 84]) = false := by rw [hs]; decide
    have e2 : (s.toList == [77, 73, 78]) = false := by rw [hs]; decide
    have e3 : (s.toList == [77, 65, 88]) = false := by rw [hs]; decide
    have e4 : (s.toList == [65, 86, 69, 82, 65, 71, 69]) = false := by rw [hs]; decide
    have e5 : (s.toList == [65, 78, 68]) = false := by rw [hs]; decide
    have e6 : (s.toList == [79, 82]) = true := by rw [hs]; decide
    clear hs h0 h1 h2 h3 h4 h5
    go_enter Tryz.func34, Tryz.ntmps34
    go_wp2_with fail
    go_ret3
    exact ⟨rfl, rfl⟩
  by_cases h7 : l = [67, 79, 78, 67, 65, 84]
  · subst h7
    have e0 : (s.toList == [83, 85, 77]) = false := by rw [hs]; decide
    have e1 : (s.toList == [67, 79, 85, 78, 84]) = false := by rw [hs]; decide
    have e2 : (s.toList == [77, 73, 78]) = false := by rw [hs]; decide
    have e3 : (s.toList == [77, 65, 88]) = false := by rw [hs]; decide
    have e4 : (s.toList == [65, 86, 69, 82, 65, 71, 69]) = false := by rw [hs]; decide
    have e5 : (s.toList == [65, 78, 68]) = false := by rw [hs]; decide
    have e6 : (s.toList == [79, 82]) = false := by rw [hs]; decide
    have e7 : (s.toList == [67, 79, 78, 67, 65, 84]) = true := by rw [hs]; decide
    clear hs h0 h1 h2 h3 h4 h5 h6
    go_enter Tryz.func34, Tryz.ntmps34
    go_wp2_with fail
    go_ret3
    exact ⟨rfl, rfl⟩
  by_cases h8 : l = [73, 70]
  · subst h8
    have e0 : (s.toList == [83, 85, 77]) = false := by rw [hs]; decide
    have e1 : (s.toList == [67, 79, 85, 78, 84]) = false := by rw [hs]; decide
    have e2 : (s.toList == [77, 73, 78]) = false := by rw [hs]; decide
    have e3 : (s.toList == [77, 65, 88]) = false := by rw [hs]; decide
    have e4 : (s.toList == [65, 86, 69, 82, 65, 71, 69]) = false := by rw [hs]; decide
    have e5 : (s.toList == [65, 78, 68]) = false := by rw [hs]; decide
    have e6 : (s.toList == [79, 82]) = false := by rw [hs]; decide
    have e7 : (s.toList == [67, 79, 78, 67, 65, 84]) = false := by rw [hs]; decide
    have e8 : (s.toList == [73, 70]) = true := by rw [hs]; decide
    clear hs h0 h1 h2 h3 h4 h5 h6 h7
    go_enter Tryz.func34, Tryz.ntmps34
    go_wp2_with fail
    go_ret3
    exact ⟨rfl, rfl⟩
  by_cases h9 : l = [73, 78, 68, 69, 88]
  · subst h9
    have e0 : (s.toList == [83, 85, 77]) = false := by rw [hs]; decide
    have e1 : (s.toList == [67, 79, 85, 78, 84]) = false := by rw [hs]; decide
    have e2 : (s.toList == [77, 73, 78]) = false := by rw [hs]; decide
    have e3 : (s.toList == [77, 65, 88]) = false := by rw [hs]; decide
    have e4 : (s.toList == [65, 86, 69, 82, 65, 71, 69]) = false := by rw [hs]; decide
    have e5 : (s.toList == [65, 78, 68]) = false := by rw [hs]; decide
    have e6 : (s.toList == [79, 82]) = false := by rw [hs]; decide
    have e7 : (s.toList == [67, 79, 78, 67, 65, 84]) = false := by rw [hs]; decide
    have e8 : (s.toList == [73, 70]) = false := by rw [hs]; decide
    have e9 : (s.toList == [73, 78, 68, 69, 88]) = true := by rw [hs]; decide
    clear hs h0 h1 h2 h3 h4 h5 h6 h7 h8
    go_enter Tryz.func34, Tryz.ntmps34
    go_wp2_with fail
    go_ret3
    exact ⟨rfl, rfl⟩
  by_cases h10 : l = [82, 79, 85, 78, 68]
  · subst h10
    have e0 : (s.toList == [83, 85, 77]) = false := by rw [hs]; decide
    have e1 : (s.toList == [67, 79, 85, 78, 84]) = false := by rw [hs]; decide
    have e2 : (s.toList == [77, 73, 78]) = false := by rw [hs]; decide
    have e3 : (s.toList == [77, 65, 88]) = false := by rw [hs]; decide
    have e4 : (s.toList == [65, 86, 69, 82, 65, 71, 69]) = false := by rw [hs]; decide
    have e5 : (s.toList == [65, 78, 68]) = false := by rw [hs]; decide
    have e6 : (s.toList == [79, 82]) = false := by rw [hs]; decide
    have e7 : (s.toList == [67, 79, 78, 67, 65, 84]) = false := by rw [hs]; decide
    have e8 : (s.toList == [73, 70]) = false := by rw [hs]; decide
    have e9 : (s.toList == [73, 78, 68, 69, 88]) = false := by rw [hs]; decide
    have e10 : (s.toList == [82, 79, 85, 78, 68]) = true := by rw [hs]; decide
    clear hs h0 h1 h2 h3 h4 h5 h6 h7 h8 h9
    go_enter Tryz.func34, Tryz.ntmps34
    go_wp2_with fail
    go_ret3
    exact ⟨rfl, rfl⟩
  by_cases h11 : l = [77, 79, 68]
  · subst h11
    have e0 : (s.toList == [83, 85, 77]) = false := by rw [hs]; decide
    have e1 : (s.toList == [67, 79, 85, 78, 84]) = false := by rw [hs]; decide
    have e2 : (s.toList == [77, 73, 78]) = false := by rw [hs]; decide
    have e3 : (s.toList == [77, 65, 88]) = false := by rw [hs]; decide
    have e4 : (s.toList == [65, 86, 69, 82, 65, 71, 69]) = false := by rw [hs]; decide
    have e5 : (s.toList == [65, 78, 68]) = false := by rw [hs]; decide
    have e6 : (s.toList == [79, 82]) = false := by rw [hs]; decide
    have e7 : (s.toList == [67, 79, 78, 67, 65, 84]) = false := by rw [hs]; decide
    have e8 : (s.toList == [73, 70]) = false := by rw [hs]; decide
    have e9 : (s.toList == [73, 78, 68, 69, 88]) = false := by rw [hs]; decide
    have e10 : (s.toList == [82, 79, 85, 78, 68]) = false := by rw [hs]; decide
    have e11 : (s.toList == [77, 79, 68]) = true := by rw [hs]; decide
    clear hs h0 h1 h2 h3 h4 h5 h6 h7 h8 h9 h10
    go_enter Tryz.func34, Tryz.ntmps34
    go_wp2_with fail
    go_ret3
    exact ⟨rfl, rfl⟩
  by_cases h12 : l = [73, 70, 69, 82, 82, 79, 82]
  · subst h12
    have e0 : (s.toList == [83, 85, 77]) = false := by rw [hs]; decide
    have e1 : (s.toList == [67, 79, 85, 78, 84]) = false := by rw [hs]; decide
    have e2 : (s.toList == [77, 73, 78]) = false := by rw [hs]; decide
    have e3 : (s.toList == [77, 65, 88]) = false := by rw [hs]; decide
    have e4 : (s.toList == [65, 86, 69, 82, 65, 71, 69]) = false := by rw [hs]; decide
    have e5 : (s.toList == [65, 78, 68]) = false := by rw [hs]; decide
    have e6 : (s.toList == [79, 82]) = false := by rw [hs]; decide
    have e7 : (s.toList == [67, 79, 78, 67, 65, 84]) = false := by rw [hs]; decide
    have e8 : (s.toList == [73, 70]) = false := by rw [hs]; decide
    have e9 : (s.toList == [73, 78, 68, 69, 88]) = false := by rw [hs]; decide
    have e10 : (s.toList == [82, 79, 85, 78, 68]) = false := by rw [hs]; decide
    have e11 : (s.toList == [77, 79, 68]) = false := by rw [hs]; decide
    have e12 : (s.toList == [73, 70, 69, 82, 82, 79, 82]) = true := by rw [hs]; decide
    clear hs h0 h1 h2 h3 h4 h5 h6 h7 h8 h9 h10 h11
    go_enter Tryz.func34, Tryz.ntmps34
    go_wp2_with fail
    go_ret3
    exact ⟨rfl, rfl⟩
  by_cases h13 : l = [76, 69, 70, 84]
  · subst h13
    have e0 : (s.toList == [83, 85, 77]) = false := by rw [hs]; decide
    have e1 : (s.toList == [67, 79, 85, 78, 84]) = false := by rw [hs]; decide
    have e2 : (s.toList == [77, 73, 78]) = false := by rw [hs]; decide
    have e3 : (s.toList == [77, 65, 88]) = false := by rw [hs]; decide
    have e4 : (s.toList == [65, 86, 69, 82, 65, 71, 69]) = false := by rw [hs]; decide
    have e5 : (s.toList == [65, 78, 68]) = false := by rw [hs]; decide
    have e6 : (s.toList == [79, 82]) = false := by rw [hs]; decide
    have e7 : (s.toList == [67, 79, 78, 67, 65, 84]) = false := by rw [hs]; decide
    have e8 : (s.toList == [73, 70]) = false := by rw [hs]; decide
    have e9 : (s.toList == [73, 78, 68, 69, 88]) = false := by rw [hs]; decide
    have e10 : (s.toList == [82, 79, 85, 78, 68]) = false := by rw [hs]; decide
    have e11 : (s.toList == [77, 79, 68]) = false := by rw [hs]; decide
    have e12 : (s.toList == [73, 70, 69, 82, 82, 79, 82]) = false := by rw [hs]; decide
    have e13 : (s.toList == [76, 69, 70, 84]) = true := by rw [hs]; decide
    clear hs h0 h1 h2 h3 h4 h5 h6 h7 h8 h9 h10 h11 h12
    go_enter Tryz.func34, Tryz.ntmps34
    go_wp2_with fail
    go_ret3
    exact ⟨rfl, rfl⟩
  by_cases h14 : l = [78, 79, 84]
  · subst h14
    have e0 : (s.toList == [83, 85, 77]) = false := by rw [hs]; decide
    have e1 : (s.toList == [67, 79, 85, 78, 84]) = false := by rw [hs]; decide
    have e2 : (s.toList == [77, 73, 78]) = false := by rw [hs]; decide
    have e3 : (s.toList == [77, 65, 88]) = false := by rw [hs]; decide
    have e4 : (s.toList == [65, 86, 69, 82, 65, 71, 69]) = false := by rw [hs]; decide
    have e5 : (s.toList == [65, 78, 68]) = false := by rw [hs]; decide
    have e6 : (s.toList == [79, 82]) = false := by rw [hs]; decide
    have e7 : (s.toList == [67, 79, 78, 67, 65, 84]) = false := by rw [hs]; decide
    have e8 : (s.toList == [73, 70]) = false := by rw [hs]; decide
    have e9 : (s.toList == [73, 78, 68, 69, 88]) = false := by rw [hs]; decide
    have e10 : (s.toList == [82, 79, 85, 78, 68]) = false := by rw [hs]; decide
    have e11 : (s.toList == [77, 79, 68]) = false := by rw [hs]; decide
    have e12 : (s.toList == [73, 70, 69, 82, 82, 79, 82]) = false := by rw [hs]; decide
    have e13 : (s.toList == [76, 69, 70, 84]) = false := by rw [hs]; decide
    have e14 : (s.toList == [78, 79, 84]) = true := by rw [hs]; decide
    clear hs h0 h1 h2 h3 h4 h5 h6 h7 h8 h9 h10 h11 h12 h13
    go_enter Tryz.func34, Tryz.ntmps34
    go_wp2_with fail
    go_ret3
    exact ⟨rfl, rfl⟩
  by_cases h15 : l = [65, 66, 83]
  · subst h15
    have e0 : (s.toList == [83, 85, 77]) = false := by rw [hs]; decide
    have e1 : (s.toList == [67, 79, 85, 78, 84]) = false := by rw [hs]; decide
    have e2 : (s.toList == [77, 73, 78]) = false := by rw [hs]; decide
    have e3 : (s.toList == [77, 65, 88]) = false := by rw [hs]; decide
    have e4 : (s.toList == [65, 86, 69, 82, 65, 71, 69]) = false := by rw [hs]; decide
    have e5 : (s.toList == [65, 78, 68]) = false := by rw [hs]; decide
    have e6 : (s.toList == [79, 82]) = false := by rw [hs]; decide
    have e7 : (s.toList == [67, 79, 78, 67, 65, 84]) = false := by rw [hs]; decide
    have e8 : (s.toList == [73, 70]) = false := by rw [hs]; decide
    have e9 : (s.toList == [73, 78, 68, 69, 88]) = false := by rw [hs]; decide
    have e10 : (s.toList == [82, 79, 85, 78, 68]) = false := by rw [hs]; decide
    have e11 : (s.toList == [77, 79, 68]) = false := by rw [hs]; decide
    have e12 : (s.toList == [73, 70, 69, 82, 82, 79, 82]) = false := by rw [hs]; decide
    have e13 : (s.toList == [76, 69, 70, 84]) = false := by rw [hs]; decide
    have e14 : (s.toList == [78, 79, 84]) = false := by rw [hs]; decide
    have e15 : (s.toList == [65, 66, 83]) = true := by rw [hs]; decide
    clear hs h0 h1 h2 h3 h4 h5 h6 h7 h8 h9 h10 h11 h12 h13 h14
    go_enter Tryz.func34, Tryz.ntmps34
    go_wp2_with fail
    go_ret3
    exact ⟨rfl, rfl⟩
  by_cases h16 : l = [70, 76, 79, 79, 82]
  · subst h16
    have e0 : (s.toList == [83, 85, 77]) = false := by rw [hs]; decide
    have e1 : (s.toList == [67, 79, 85, 78, 84]) = false := by rw [hs]; decide
    have e2 : (s.toList == [77, 73, 78]) = false := by rw [hs]; decide
    have e3 : (s.toList == [77, 65, 88]) = false := by rw [hs]; decide
    have e4 : (s.toList == [65, 86, 69, 82, 65, 71, 69]) = false := by rw [hs]; decide
    have e5 : (s.toList == [65, 78, 68]) = false := by rw [hs]; decide
    have e6 : (s.toList == [79, 82]) = false := by rw [hs]; decide
    have e7 : (s.toList == [67, 79, 78, 67, 65, 84]) = false := by rw [hs]; decide
    have e8 : (s.toList == [73, 70]) = false := by rw [hs]; decide
    have e9 : (s.toList == [73, 78, 68, 69, 88]) = false := by rw [hs]; decide
    have e10 : (s.toList == [82, 79, 85, 78, 68]) = false := by rw [hs]; decide
    have e11 : (s.toList == [77, 79, 68]) = false := by rw [hs]; decide
    have e12 : (s.toList == [73, 70, 69, 82, 82, 79, 82]) = false := by rw [hs]; decide
    have e13 : (s.toList == [76, 69, 70, 84]) = false := by rw [hs]; decide
    have e14 : (s.toList == [78, 79, 84]) = false := by rw [hs]; decide
    have e15 : (s.toList == [65, 66, 83]) = false := by rw [hs]; decide
    have e16 : (s.toList == [70, 76, 79, 79, 82]) = true := by rw [hs]; decide
    clear hs h0 h1 h2 h3 h4 h5 h6 h7 h8 h9 h10 h11 h12 h13 h14 h15
    go_enter Tryz.func34, Tryz.ntmps34
    go_wp2_with fail
    go_ret3
    exact ⟨rfl, rfl⟩
  by_cases h17 : l = [83, 81, 82, 84]
  · subst h17
    have e0 : (s.toList == [83, 85, 77]) = false := by rw [hs]; decide
    have e1 : (s.toList == [67, 79, 85, 78, 84]) = false := by rw [hs]; decide
    have e2 : (s.toList == [77, 73, 78]) = false := by rw [hs]; decide
    have e3 : (s.toList == [77, 65, 88]) = false := by rw [hs]; decide
    have e4 : (s.toList == [65, 86, 69, 82, 65, 71, 69]) = false := by rw [hs]; decide
    have e5 : (s.toList == [65, 78, 68]) = false := by rw [hs]; decide
    have e6 : (s.toList == [79, 82]) = false := by rw [hs]; decide
    have e7 : (s.toList == [67, 79, 78, 67, 65, 84]) = false := by rw [hs]; decide
    have e8 : (s.toList == [73, 70]) = false := by rw [hs]; decide
    have e9 : (s.toList == [73, 78, 68, 69, 88]) = false := by rw [hs]; decide
    have e10 : (s.toList == [82, 79, 85, 78, 68]) = false := by rw [hs]; decide
    have e11 : (s.toList == [77, 79, 68]) = false := by rw [hs]; decide
    have e12 : (s.toList == [73, 70, 69, 82, 82, 79, 82]) = false := by rw [hs]; decide
    have e13 : (s.toList == [76, 69, 70, 84]) = false := by rw [hs]; decide
    have e14 : (s.toList == [78, 79, 84]) = false := by rw [hs]; decide
    have e15 : (s.toList == [65, 66, 83]) = false := by rw [hs]; decide
    have e16 : (s.toList == [70, 76, 79, 79, 82]) = false := by rw [hs]; decide
    have e17 : (s.toList == [83, 81, 82, 84]) = true := by rw [hs]; decide
    clear hs h0 h1 h2 h3 h4 h5 h6 h7 h8 h9 h10 h11 h12 h13 h14 h15 h16
    go_enter Tryz.func34, Tryz.ntmps34
    go_wp2_with fail
    go_ret3
    exact ⟨rfl, rfl⟩
  by_cases h18 : l = [76, 69, 78]
  · subst h18
    have e0 : (s.toList == [83, 85, 77]) = false := by rw [hs]; decide
    have e1 : (s.toList == [67, 79, 85, 78, 84]) = false := by rw [hs]; decide
    have e2 : (s.toList == [77, 73, 78]) = false := by rw [hs]; decide
    have e3 : (s.toList == [77, 65, 88]) = false := by rw [hs]; decide
    have e4 : (s.toList == [65, 86, 69, 82, 65, 71, 69]) = false := by rw [hs]; decide
    have e5 : (s.toList == [65, 78, 68]) = false := by rw [hs]; decide
    have e6 : (s.toList == [79, 82]) = false := by rw [hs]; decide
    have e7 : (s.toList == [67, 79, 78, 67, 65, 84]) = false := by rw [hs]; decide
    have e8 : (s.toList == [73, 70]) = false := by rw [hs]; decide
    have e9 : (s.toList == [73, 78, 68, 69, 88]) = false := by rw [hs]; decide
    have e10 : (s.toList == [82, 79, 85, 78, 68]) = false := by rw [hs]; decide
    have e11 : (s.toList == [77, 79, 68]) = false := by rw [hs]; decide
    have e12 : (s.toList == [73, 70, 69, 82, 82, 79, 82]) = false := by rw [hs]; decide
    have e13 : (s.toList == [76, 69, 70, 84]) = false := by rw [hs]; decide
    have e14 : (s.toList == [78, 79, 84]) = false := by rw [hs]; decide
    have e15 : (s.toList == [65, 66, 83]) = false := by rw [hs]; decide
    have e16 : (s.toList == [70, 76, 79, 79, 82]) = false := by rw [hs]; decide
    have e17 : (s.toList == [83, 81, 82, 84]) = false := by rw [hs]; decide
    have e18 : (s.toList == [76, 69, 78]) = true := by rw [hs]; decide
    clear hs h0 h1 h2 h3 h4 h5 h6 h7 h8 h9 h10 h11 h12 h13 h14 h15 h16 h17
    go_enter Tryz.func34, Tryz.ntmps34
    go_wp2_with fail
    go_ret3
    exact ⟨rfl, rfl⟩
  by_cases h19 : l = [73, 83, 69, 82, 82, 79, 82]
  · subst h19
    have e0 : (s.toList == [83, 85, 77]) = false := by rw [hs]; decide
    have e1 : (s.toList == [67, 79, 85, 78, 84]) = false := by rw [hs]; decide
    have e2 : (s.toList == [77, 73, 78]) = false := by rw [hs]; decide
    have e3 : (s.toList == [77, 65, 88]) = false := by rw [hs]; decide
    have e4 : (s.toList == [65, 86, 69, 82, 65, 71, 69]) = false := by rw [hs]; decide
    have e5 : (s.toList == [65, 78, 68]) = false := by rw [hs]; decide
    have e6 : (s.toList == [79, 82]) = false := by rw [hs]; decide
    have e7 : (s.toList == [67, 79, 78, 67, 65, 84]) = false := by rw [hs]; decide
    have e8 : (s.toList == [73, 70]) = false := by rw [hs]; decide
    have e9 : (s.toList == [73, 78, 68, 69, 88]) = false := by rw [hs]; decide
    have e10 : (s.toList == [82, 79, 85, 78, 68]) = false := by rw [hs]; decide
    have e11 : (s.toList == [77, 79, 68]) = false := by rw [hs]; decide
    have e12 : (s.toList == [73, 70, 69, 82, 82, 79, 82]) = false := by rw [hs]; decide
    have e13 : (s.toList == [76, 69, 70, 84]) = false := by rw [hs]; decide
    have e14 : (s.toList == [78, 79, 84]) = false := by rw [hs]; decide
    have e15 : (s.toList == [65, 66, 83]) = false := by rw [hs]; decide
    have e16 : (s.toList == [70, 76, 79, 79, 82]) = false := by rw [hs]; decide
    have e17 : (s.toList == [83, 81, 82, 84]) = false := by rw [hs]; decide
    have e18 : (s.toList == [76, 69, 78]) = false := by rw [hs]; decide
    have e19 : (s.toList == [73, 83, 69, 82, 82, 79, 82]) = true := by rw [hs]; decide
    clear hs h0 h1 h2 h3 h4 h5 h6 h7 h8 h9 h10 h11 h12 h13 h14 h15 h16 h17 h18
    go_enter Tryz.func34, Tryz.ntmps34
    go_wp2_with fail
    go_ret3
    exact ⟨rfl, rfl⟩
  have e0 : (s.toList == [83, 85, 77]) = false := by rw [hs]; simpa using h0
  have e1 : (s.toList == [67, 79, 85, 78, 84]) = false := by rw [hs]; simpa using h1
  have e2 : (s.toList == [77, 73, 78]) = false := by rw [hs]; simpa using h2
  have e3 : (s.toList == [77, 65, 88]) = false := by rw [hs]; simpa using h3
  have e4 : (s.toList == [65, 86, 69, 82, 65, 71, 69]) = false := by rw [hs]; simpa using h4
  have e5 : (s.toList == [65, 78, 68]) = false := by rw [hs]; simpa using h5
  have e6 : (s.toList == [79, 82]) = false := by rw [hs]; simpa using h6
  have e7 : (s.toList == [67, 79, 78, 67, 65, 84]) = false := by rw [hs]; simpa using h7
  have e8 : (s.toList == [73, 70]) = false := by rw [hs]; simpa using h8
  have e9 : (s.toList == [73, 78, 68, 69, 88]) = false := by rw [hs]; simpa using h9
  have e10 : (s.toList == [82, 79, 85, 78, 68]) = false := by rw [hs]; simpa using h10
  have e11 : (s.toList == [77, 79, 68]) = false := by rw [hs]; simpa using h11
  have e12 : (s.toList == [73, 70, 69, 82, 82, 79, 82]) = false := by rw [hs]; simpa using h12
  have e13 : (s.toList == [76, 69, 70, 84]) = false := by rw [hs]; simpa using h13
  have e14 : (s.toList == [78, 79, 84]) = false := by rw [hs]; simpa using h14
  have e15 : (s.toList == [65, 66, 83]) = false := by rw [hs]; simpa using h15
  have e16 : (s.toList == [70, 76, 79, 79, 82]) = false := by rw [hs]; simpa using h16
  have e17 : (s.toList == [83, 81, 82, 84]) = false := by rw [hs]; simpa using h17
  have e18 : (s.toList == [76, 69, 78]) = false := by rw [hs]; simpa using h18
  have e19 : (s.toList == [73, 83, 69, 82, 82, 79, 82]) = false := by rw [hs]; simpa using h19
  have HK : Hid (kno l = none) := by show _ = _; simp [kno, kn1, kn2, kn3, kn4, kn5, h0, h1, h2, h3, h4, h5, h6, h7, h8, h9, h10, h11, h12, h13, h14, h15, h16, h17, h18, h19]
  clear hs h0 h1 h2 h3 h4 h5 h6 h7 h8 h9 h10 h11 h12 h13 h14 h15 h16 h17 h18 h19
  go_enter Tryz.func34, Tryz.ntmps34
  go_wp2_with fail
  go_ret3
  unfold knA knB
  rw [HK.out]
  exact ⟨rfl, rfl⟩
theorem rpower_any (s : ByteArray) (w : World) :
    Calls Tryz.prog 33 #[.string s] w fun e w' => e = .returned (.int .i64 ((bnd s.data.toList : Nat) : Int)) ∧ w' = w := by
  have hs := ByteArray.toList_eq s
  obtain ⟨l, hl⟩ : ∃ l, s.data.toList = l := ⟨_, rfl⟩
  rw [hl] at hs ⊢
  clear hl
  by_cases h0 : l = [61]
  · subst h0
    have e0 : (s.toList == [61]) = true := by rw [hs]; decide
    clear hs 
    go_enter Tryz.func33, Tryz.ntmps33
    go_wp2_with fail
    go_ret
    exact ⟨rfl, rfl⟩
  by_cases h1 : l = [60, 62]
  · subst h1
    have e0 : (s.toList == [61]) = false := by rw [hs]; decide
    have e1 : (s.toList == [60, 62]) = true := by rw [hs]; decide
    clear hs h0
    go_enter Tryz.func33, Tryz.ntmps33
    go_wp2_with fail
    go_ret
    exact ⟨rfl, rfl⟩
  by_cases h2 : l = [60]
  · subst h2
    have e0 : (s.toList == [61]) = false := by rw [hs]; decide
    have e1 : (s.toList == [60, 62]) = false := by rw [hs]; decide
    have e2 : (s.toList == [60]) = true := by rw [hs]; decide
    clear hs h0 h1
    go_enter Tryz.func33, Tryz.ntmps33
    go_wp2_with fail
    go_ret
    exact ⟨rfl, rfl⟩
  by_cases h3 : l = [60, 61]
  · subst h3
    have e0 : (s.toList == [61]) = false := by rw [hs]; decide
    have e1 : (s.toList == [60, 62]) = false := by rw [hs]; decide
    have e2 : (s.toList == [60]) = false := by rw [hs]; decide
    have e3 : (s.toList == [60, 61]) = true := by rw [hs]; decide
    clear hs h0 h1 h2
    go_enter Tryz.func33, Tryz.ntmps33
    go_wp2_with fail
    go_ret
    exact ⟨rfl, rfl⟩
  by_cases h4 : l = [62]
  · subst h4
    have e0 : (s.toList == [61]) = false := by rw [hs]; decide
    have e1 : (s.toList == [60, 62]) = false := by rw [hs]; decide
    have e2 : (s.toList == [60]) = false := by rw [hs]; decide
    have e3 : (s.toList == [60, 61]) = false := by rw [hs]; decide
    have e4 : (s.toList == [62]) = true := by rw [hs]; decide
    clear hs h0 h1 h2 h3
    go_enter Tryz.func33, Tryz.ntmps33
    go_wp2_with fail
    go_ret
    exact ⟨rfl, rfl⟩
  by_cases h5 : l = [62, 61]
  · subst h5
    have e0 : (s.toList == [61]) = false := by rw [hs]; decide
    have e1 : (s.toList == [60, 62]) = false := by rw [hs]; decide
    have e2 : (s.toList == [60]) = false := by rw [hs]; decide
    have e3 : (s.toList == [60, 61]) = false := by rw [hs]; decide
    have e4 : (s.toList == [62]) = false := by rw [hs]; decide
    have e5 : (s.toList == [62, 61]) = true := by rw [hs]; decide
    clear hs h0 h1 h2 h3 h4
    go_enter Tryz.func33, Tryz.ntmps33
    go_wp2_with fail
    go_ret
    exact ⟨rfl, rfl⟩
  by_cases h6 : l = [38]
  · subst h6
    have e0 : (s.toList == [61]) = false := by rw [hs]; decide
    have e1 : (s.toList == [60, 62]) = false := by rw [hs]; decide
    have e2 : (s.toList == [60]) = false := by rw [hs]; decide
    have e3 : (s.toList == [60, 61]) = false := by rw [hs]; decide
    have e4 : (s.toList == [62]) = false := by rw [hs]; decide
    have e5 : (s.toList == [62, 61]) = false := by rw [hs]; decide
    have e6 : (s.toList == [38]) = true := by rw [hs]; decide
    clear hs h0 h1 h2 h3 h4 h5
    go_enter Tryz.func33, Tryz.ntmps33
    go_wp2_with fail
    go_ret
    exact ⟨rfl, rfl⟩
  by_cases h7 : l = [43]
  · subst h7
    have e0 : (s.toList == [61]) = false := by rw [hs]; decide
    have e1 : (s.toList == [60, 62]) = false := by rw [hs]; decide
    have e2 : (s.toList == [60]) = false := by rw [hs]; decide
    have e3 : (s.toList == [60, 61]) = false := by rw [hs]; decide
    have e4 : (s.toList == [62]) = false := by rw [hs]; decide
    have e5 : (s.toList == [62, 61]) = false := by rw [hs]; decide
    have e6 : (s.toList == [38]) = false := by rw [hs]; decide
    have e7 : (s.toList == [43]) = true := by rw [hs]; decide
    clear hs h0 h1 h2 h3 h4 h5 h6
    go_enter Tryz.func33, Tryz.ntmps33
    go_wp2_with fail
    go_ret
    exact ⟨rfl, rfl⟩
  by_cases h8 : l = [45]
  · subst h8
    have e0 : (s.toList == [61]) = false := by rw [hs]; decide
    have e1 : (s.toList == [60, 62]) = false := by rw [hs]; decide
    have e2 : (s.toList == [60]) = false := by rw [hs]; decide
    have e3 : (s.toList == [60, 61]) = false := by rw [hs]; decide
    have e4 : (s.toList == [62]) = false := by rw [hs]; decide
    have e5 : (s.toList == [62, 61]) = false := by rw [hs]; decide
    have e6 : (s.toList == [38]) = false := by rw [hs]; decide
    have e7 : (s.toList == [43]) = false := by rw [hs]; decide
    have e8 : (s.toList == [45]) = true := by rw [hs]; decide
    clear hs h0 h1 h2 h3 h4 h5 h6 h7
    go_enter Tryz.func33, Tryz.ntmps33
    go_wp2_with fail
    go_ret
    exact ⟨rfl, rfl⟩
  by_cases h9 : l = [42]
  · subst h9
    have e0 : (s.toList == [61]) = false := by rw [hs]; decide
    have e1 : (s.toList == [60, 62]) = false := by rw [hs]; decide
    have e2 : (s.toList == [60]) = false := by rw [hs]; decide
    have e3 : (s.toList == [60, 61]) = false := by rw [hs]; decide
    have e4 : (s.toList == [62]) = false := by rw [hs]; decide
    have e5 : (s.toList == [62, 61]) = false := by rw [hs]; decide
    have e6 : (s.toList == [38]) = false := by rw [hs]; decide
    have e7 : (s.toList == [43]) = false := by rw [hs]; decide
    have e8 : (s.toList == [45]) = false := by rw [hs]; decide
    have e9 : (s.toList == [42]) = true := by rw [hs]; decide
    clear hs h0 h1 h2 h3 h4 h5 h6 h7 h8
    go_enter Tryz.func33, Tryz.ntmps33
    go_wp2_with fail
    go_ret
    exact ⟨rfl, rfl⟩
  by_cases h10 : l = [47]
  · subst h10
    have e0 : (s.toList == [61]) = false := by rw [hs]; decide
    have e1 : (s.toList == [60, 62]) = false := by rw [hs]; decide
    have e2 : (s.toList == [60]) = false := by rw [hs]; decide
    have e3 : (s.toList == [60, 61]) = false := by rw [hs]; decide
    have e4 : (s.toList == [62]) = false := by rw [hs]; decide
    have e5 : (s.toList == [62, 61]) = false := by rw [hs]; decide
    have e6 : (s.toList == [38]) = false := by rw [hs]; decide
    have e7 : (s.toList == [43]) = false := by rw [hs]; decide
    have e8 : (s.toList == [45]) = false := by rw [hs]; decide
    have e9 : (s.toList == [42]) = false := by rw [hs]; decide
    have e10 : (s.toList == [47]) = true := by rw [hs]; decide
    clear hs h0 h1 h2 h3 h4 h5 h6 h7 h8 h9
    go_enter Tryz.func33, Tryz.ntmps33
    go_wp2_with fail
    go_ret
    exact ⟨rfl, rfl⟩
  have e0 : (s.toList == [61]) = false := by rw [hs]; simpa using h0
  have e1 : (s.toList == [60, 62]) = false := by rw [hs]; simpa using h1
  have e2 : (s.toList == [60]) = false := by rw [hs]; simpa using h2
  have e3 : (s.toList == [60, 61]) = false := by rw [hs]; simpa using h3
  have e4 : (s.toList == [62]) = false := by rw [hs]; simpa using h4
  have e5 : (s.toList == [62, 61]) = false := by rw [hs]; simpa using h5
  have e6 : (s.toList == [38]) = false := by rw [hs]; simpa using h6
  have e7 : (s.toList == [43]) = false := by rw [hs]; simpa using h7
  have e8 : (s.toList == [45]) = false := by rw [hs]; simpa using h8
  have e9 : (s.toList == [42]) = false := by rw [hs]; simpa using h9
  have e10 : (s.toList == [47]) = false := by rw [hs]; simpa using h10
  have HK : Hid (bnd l = 0) := by show _ = _; simp [bnd, bd1, h0, h1, h2, h3, h4, h5, h6, h7, h8, h9, h10]
  clear hs h0 h1 h2 h3 h4 h5 h6 h7 h8 h9 h10
  go_enter Tryz.func33, Tryz.ntmps33
  go_wp2_with fail
  go_ret
  exact ⟨ret_int (by rw [HK.out]; rfl), rfl⟩
end Go.Proofs.YtbfahmkagnmbmaaGreatDoor

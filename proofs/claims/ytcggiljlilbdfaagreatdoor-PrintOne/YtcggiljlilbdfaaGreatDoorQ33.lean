/-
 Arguments, as the document reads them. Plain mathematics: no program in sight.
 The document's Small: a tree with not too many parts, and not too deep.
 The document's Own: a tree in memory of its own.
 The document's Well, of any tree not too deep.
-/
import Derived.Test.YtcggiljlilbdfaaGreatDoorQ32
import Derived.Test.YtcggiljlilbdfaaGreatDoorQ12
import Derived.Test.YtcggiljlilbdfaaGreatDoorQ21
import Derived.Test.YtcggiljlilbdfaaGreatDoorQ17
namespace Go.Proofs.YtcggiljlilbdfaaGreatDoor
open Go.RowKit

theorem not_kn {s : List UInt8} (h : okP s = true) (L : List (List UInt8)) (hL : L.all (fun t => !okP t) = true) : s ∉ L := by
 intro hm
 have := List.all_eq_true.mp hL s hm
 rw [h] at this
 cases this
theorem kno_ok {s : List UInt8} (h : okP s = true) : kno s = none ∧ s ≠ wTrue ∧ s ≠ wFalse := by
 refine ⟨?_, fun hh => ?_, fun hh => ?_⟩
 · unfold kno
   rw [if_neg (not_kn h kn1 (by kernel_rfl)), if_neg (not_kn h kn2 (by kernel_rfl)), if_neg (not_kn h kn3 (by kernel_rfl)), if_neg (not_kn h kn4 (by kernel_rfl)), if_neg (not_kn h kn5 (by kernel_rfl))]
 · have e : okP wTrue = false := by kernel_rfl
   rw [hh, e] at h; cases h
 · have e : okP wFalse = false := by kernel_rfl
   rw [hh, e] at h; cases h
theorem brk_len {n d : Nat} {F : Rd} (hF : ShF n F) {ts ts1 : List Tk} {x : T} (h : Nz ts) (hn : ts.length ≤ n + 1) (e : brk F d ts = .ok (x, ts1)) : ts1.length + 3 ≤ ts.length := by
 unfold brk at e
 split at e
 · cases e
 · rename_i us1 h1
   have s1 := pass1_sh h h1
   have a1 := s1.2
   split at e
   · cases e
   · rename_i y us2 h2
     have s2 := hF _ _ s1.1 (by omega) y us2 h2
     have a2 := s2.2
     split at e
     · cases e
     · rename_i us3 h3
       have s3 := pass1_sh s2.1 h3
       have a3 := s3.2
       cases e
       omega
theorem call_k {F : Rd} {s : List UInt8} {a b d : Nat} {ts ts1 : List Tk} {x : T} (e : call F s a b d ts = .ok (x, ts1)) : x.k = 8 := by
 unfold call at e
 split at e
 · cases e
 · cases e; rfl
theorem brk_k {F : Rd} {d : Nat} {ts ts1 : List Tk} {x : T} (e : brk F d ts = .ok (x, ts1)) : ∃ us us1, F (d + 1) us = .ok (x, us1) := by
 unfold brk at e
 split at e
 · cases e
 · rename_i us1 h1
   split at e
   · cases e
   · rename_i y us2 h2
     split at e
     · cases e
     · cases e; exact ⟨_, _, h2⟩
/-- What is one word and a place is a word that names it. -/
theorem O_one {n d : Nat} (hd4 : d ≤ 40) {ts ts1 : List Tk} {x : T} (h : Nz ts) (hn : ts.length ≤ n) (e : O n d ts = .ok (x, ts1)) (h4 : x.k = 4) (hl : ts.length = ts1.length + 1) :
   (hd ts).1 = 2 ∧ okP (hd ts).2.2.1 = true ∧ ts1 = ts.tail := by
 cases n with
 | zero => cases e
 | succ n =>
   change opn (frm (O n)) (O n) d ts = _ at e
   unfold opn at e
   split at e
   · rw [tk1_ok hd4] at e
     dsimp only at e
     split at e
     · cases e
     · cases e; cases h4
   · unfold smp one at e
     rw [tk1_ok hd4] at e
     split at e
     · cases e; cases h4
     · split at e
       · cases e; cases h4
       · split at e
         · cases e; cases h4
         · split at e
           · rename_i hk
             unfold wrd one at e
             rw [tk1_ok hd4] at e
             split at e
             · cases e; cases h4
             · split at e
               · cases e; cases h4
               · split at e
                 · obtain ⟨us, us1, hc⟩ := brk_k e
                   rw [call_k hc] at h4
                   cases h4
                 · unfold refr at e
                   by_cases ho : (hd ts).1 = 2 ∧ okP (hd ts).2.2.1 = true
                   · rw [if_pos ho, tk1_ok hd4] at e
                     cases e
                     exact ⟨ho.1, ho.2, rfl⟩
                   · rw [if_neg ho] at e
                     cases e
           · have := brk_len (frm_sh (O_sh n)) h hn e
             omega
theorem cl_k {o : Rd} (k d : Nat) : ∀ (f : Nat) (x y : T) (ts ts' : List Tk), cl o d f k x ts = .ok (y, ts') → (y = x ∧ ts' = ts) ∨ y.k = 7 := by
 intro f
 induction f with
 | zero => intro x y ts ts' e; cases e; exact .inl ⟨rfl, rfl⟩
 | succ f ih =>
   intro x y ts ts' e
   unfold cl at e
   split at e
   · split at e
     · cases e
     · rcases ih _ _ _ _ e with ⟨h, _⟩ | h
       · exact .inr (by rw [h]; rfl)
       · exact .inr h
   · cases e; exact .inl ⟨rfl, rfl⟩
theorem O_ref {n d : Nat} (hd4 : d ≤ 40) {ts : List Tk} (h2 : (hd ts).1 = 2) (ho : okP (hd ts).2.2.1 = true) : O (n + 1) d ts = .ok (tRef (rfP (hd ts).2.2.1), ts.tail) := by
 obtain ⟨a1, a2, a3⟩ := kno_ok ho
 show opn (frm (O n)) (O n) d ts = _
 have hs : isSg [45] ts = false := by unfold isSg; rw [h2]; rfl
 unfold opn smp wrd refr
 rw [hs, if_neg (by decide), if_neg (by omega), if_neg (by omega), if_neg (by omega), if_pos h2, if_neg a2, if_neg a3, a1, if_pos ⟨h2, ho⟩, tk1_ok hd4]
/-- An argument, as the document reads it. -/
theorem argm_doc {n d : Nat} (hd4 : d ≤ 40) {ts : List Tk} (h : Nz ts) (hn : ts.length ≤ n) : argm (frm (O n)) d ts =
   if (hd ts).1 = 2 ∧ okP (hd ts).2.2.1 = true ∧ isSg [58] ts.tail = true then (match refr d ts.tail.tail with | .error e => .error e | .ok (q, ts3) => .ok (tRange (rfP (hd ts).2.2.1) q, ts3)) else frm (O n) d ts := by
 have hC : frm (O n) d ts = thenR (O n d ts) (fun x ts1 => cl (O n) d ts1.length 1 x ts1) := clm_all (O_sh n) hd4 1 (by decide) (by decide) ts h hn
 by_cases hc : (hd ts).1 = 2 ∧ okP (hd ts).2.2.1 = true ∧ isSg [58] ts.tail = true
 · rw [if_pos hc]
   obtain ⟨c1, c2, c3⟩ := hc
   obtain ⟨m, rfl⟩ : ∃ m, n = m + 1 := ⟨n - 1, by have := h.pos; omega⟩
   rw [O_ref hd4 c1 c2] at hC
   have ht := h.tail (by rw [c1]; decide)
   have hcl : cl (O (m + 1)) d ts.tail.length 1 (tRef (rfP (hd ts).2.2.1)) ts.tail = .ok (tRef (rfP (hd ts).2.2.1), ts.tail) := by
     obtain ⟨g, hg⟩ : ∃ g, ts.tail.length = g + 1 := ⟨ts.tail.length - 1, by have := ht.1.pos; omega⟩
     rw [hg, cl, if_neg]
     rintro ⟨_, h1⟩
     rw [(isSg_k c3).2] at h1
     exact absurd h1 (by decide)
   have hF : frm (O (m + 1)) d ts = .ok (tRef (rfP (hd ts).2.2.1), ts.tail) := hC.trans hcl
   unfold argm
   rw [hF]
   dsimp only
   rw [if_pos ⟨rfl, ht.2.symm, c3⟩, tk1_ok hd4]
   rfl
 · rw [if_neg hc]
   unfold argm
   cases hF : frm (O n) d ts with
   | error e => rfl
   | ok q =>
     obtain ⟨x, ts1⟩ := q
     dsimp only
     rw [if_neg]
     rintro ⟨h4, hl, h58⟩
     rw [hF] at hC
     cases hO : O n d ts with
     | error e => rw [hO] at hC; cases hC
     | ok q =>
       obtain ⟨y, us⟩ := q
       rw [hO] at hC
       rcases cl_k 1 d _ _ _ _ _ hC.symm with ⟨rfl, rfl⟩ | h7
       · obtain ⟨a1, a2, a3⟩ := O_one hd4 h hn hO h4 hl
         exact hc ⟨a1, a2, a3 ▸ h58⟩
       · rw [h7] at h4; cases h4

open Go.RowKit
set_option maxHeartbeats 6000000

open Go.RowKit
set_option maxHeartbeats 6000000

/-- An empty list in a new block. -/
theorem OwX.zero {W W' : World} {base g : Nat} (hW : W' = W.alloc (.cells #[] 29)) (hg : g = W.heap.size) (hb : base ≤ g) : OwX W' base (.slice (some ⟨g, 0, none⟩) 0 0) [] := by
 subst hW hg
 refine ⟨⟨rfl, .inr ⟨W.heap.size, 0, #[], rfl, hb, ?_, Nat.le_refl _, Nat.zero_le _, rfl, rfl⟩⟩, fun p hp => by cases hp⟩
 show (W.heap.push _)[W.heap.size]? = _; simp
theorem OwX.ext {w w' : World} {base : Nat} {v : Value} {ps : List (T × Value)} (h : OwX w base v ps) (e : Ext w w') : OwX w' base v ps := by
 refine ⟨⟨h.1.1, ?_⟩, fun p hp => (h.2 p hp).ext e⟩
 rcases h.1.2 with h2 | ⟨g, cap, cur, h1, h2, h3, h4⟩
 · exact .inl h2
 · exact .inr ⟨g, cap, cur, h1, h2, (e.block g (heap_lt h3)).trans h3, h4⟩
theorem BlkX.grown {W W' : World} {base g : Nat} {v lv : Value} {t : T} {ps : List (T × Value)} (B : BlkX W g t lv) (h : W.grownBy W' v.ownBlock) (hB : OwX W base v ps) (hg : g < base) : BlkX W' g t lv := by
 have hz := B.1
 have hb := h.block g hz (fun e => hB.far hg e.symm)
 obtain ⟨z, ⟨k0, k1, k2, k3, k4, k5, k6, k7, k8, k9, k10, k11, k12⟩, f0, f1, f2, f3, f4, f5, f6, f7, f8, f9, f10, f11, f12⟩ := B
 have k := fun o => World.cell?_of_block (a := ⟨g, o, none⟩) hb
 have f := fun o => World.frozen?_of_block (a := ⟨g, o, none⟩) hb
 exact ⟨Nat.lt_of_lt_of_le z h.size, ⟨(k 0).trans k0, (k 1).trans k1, (k 2).trans k2, (k 3).trans k3, (k 4).trans k4, (k 5).trans k5, (k 6).trans k6, (k 7).trans k7, (k 8).trans k8, (k 9).trans k9, (k 10).trans k10, (k 11).trans k11, (k 12).trans k12⟩, (f 0).trans f0, (f 1).trans f1, (f 2).trans f2, (f 3).trans f3, (f 4).trans f4, (f 5).trans f5, (f 6).trans f6, (f 7).trans f7, (f 8).trans f8, (f 9).trans f9, (f 10).trans f10, (f 11).trans f11, (f 12).trans f12⟩

open Go.RowKit
set_option maxHeartbeats 6000000

end Go.Proofs.YtcggiljlilbdfaaGreatDoor

/-
 Law RelForms' own region: two trees that are made, in whichever order their blocks are laid.
-/
import Derived.Test.YtcggiljlilbdfaaR30
import Derived.Test.YtcggiljlilbdfaaR31
import Derived.Test.YtcggiljlilbdfaaR37
import Derived.Test.YtcggiljlilbdfaaR18
namespace Go.Proofs.Ytcggiljlilbdfaa
open Go.RowKit
set_option maxHeartbeats 6000000

def fdO : Array Oper := #[⟨some 11, .load 26 (.tmp 2), 26, "law.go:32", #[], none⟩, ⟨some 12, .call { callee := .value (.func 14), args := #[.tmp 11], argTypes := #[26] }, 26, "law.go:32", #[⟨0, .data⟩], none⟩, ⟨some 13, .fieldAddr 28 (.tmp 3) 0, 0, "law.go:32", #[], none⟩, ⟨some 14, .load 3 (.tmp 13), 3, "law.go:32", #[⟨2, .data⟩], none⟩, ⟨some 15, .fieldAddr 28 (.tmp 3) 1, 0, "law.go:32", #[], none⟩, ⟨some 16, .load 3 (.tmp 15), 3, "law.go:32", #[⟨4, .data⟩], none⟩, ⟨some 17, .call { callee := .value (.func 13), args := #[.tmp 12, .tmp 14, .tmp 16], argTypes := #[26, 3, 3] }, 26, "law.go:32", #[⟨1, .data⟩, ⟨3, .data⟩, ⟨5, .data⟩, ⟨1, .chain⟩], none⟩, ⟨some 18, .load 26 (.tmp 2), 26, "law.go:32", #[], none⟩, ⟨some 19, .call { callee := .value (.func 14), args := #[.tmp 18], argTypes := #[26] }, 26, "law.go:32", #[⟨7, .data⟩, ⟨6, .chain⟩], none⟩, ⟨some 20, .fieldAddr 28 (.tmp 3) 0, 0, "law.go:32", #[], none⟩, ⟨some 21, .load 3 (.tmp 20), 3, "law.go:32", #[⟨9, .data⟩], none⟩, ⟨some 22, .fieldAddr 28 (.tmp 3) 1, 0, "law.go:32", #[], none⟩, ⟨some 23, .load 3 (.tmp 22), 3, "law.go:32", #[⟨11, .data⟩], none⟩, ⟨some 24, .call { callee := .value (.func 15), args := #[.tmp 19, .tmp 21, .tmp 23], argTypes := #[26, 3, 3] }, 26, "law.go:32", #[⟨8, .data⟩, ⟨10, .data⟩, ⟨12, .data⟩, ⟨8, .chain⟩], none⟩, ⟨some 5, .alloc 26, 0, "law.go:32", #[], none⟩, ⟨some 6, .alloc 26, 0, "law.go:32", #[], none⟩, ⟨none, .store 26 (.tmp 5) (.tmp 17), 0, "law.go:32", #[⟨14, .data⟩, ⟨6, .data⟩, ⟨13, .chain⟩, ⟨0, .phase⟩, ⟨1, .phase⟩, ⟨2, .phase⟩, ⟨3, .phase⟩, ⟨4, .phase⟩, ⟨5, .phase⟩, ⟨6, .phase⟩, { on := 7, ground := Ground.textOnly Departure.lateStores }, { on := 8, ground := Ground.textOnly Departure.lateStoresUnsure }, { on := 9, ground := Ground.textOnly Departure.lateStores }, { on := 10, ground := Ground.textOnly Departure.lateStores }, { on := 11, ground := Ground.textOnly Departure.lateStores }, { on := 12, ground := Ground.textOnly Departure.lateStores }, { on := 13, ground := Ground.textOnly Departure.lateStoresUnsure }, ⟨14, .phase⟩, ⟨15, .phase⟩], none⟩, ⟨none, .store 26 (.tmp 6) (.tmp 24), 0, "law.go:32", #[⟨15, .data⟩, ⟨13, .data⟩, ⟨16, .chain⟩, ⟨0, .phase⟩, ⟨1, .phase⟩, ⟨2, .phase⟩, ⟨3, .phase⟩, ⟨4, .phase⟩, ⟨5, .phase⟩, ⟨6, .phase⟩, ⟨7, .phase⟩, ⟨8, .phase⟩, ⟨9, .phase⟩, ⟨10, .phase⟩, ⟨11, .phase⟩, ⟨12, .phase⟩, ⟨13, .phase⟩, ⟨14, .phase⟩, ⟨15, .phase⟩, ⟨16, .phase⟩], none⟩]
def fdE (u0 u1 u2 u3 u4 u7 u8 u9 u10 u13 u15 u20 u22 u25 u26 u27 u28 u29 u30 u31 u32 u33 u34 u35 u36 u37 u38 u39 u40 u41 u42 u43 u44 u45 u46 u47 u48 u49 u50 u51 u52 u53 u54 u55 : Value) (t f b : T) (pp : Option Addr) (ln cl : Nat) (o0 o1 : Int) (W1 : World) (N1 : Nat) (S : World → Prop) (Q : Exit → Act → World → Prop) : Prop := (Hid (N1 + 1 = W1.heap.size)) ∧ (Hid (∀ V, Ext W1 V → S V)) ∧ (Hid (∀ V, Ext W1 V → Calls Try.prog 14 #[.agg #[.int .i64 t.k, .int .i64 t.n, .string (bs t.s), .int .i64 t.e, .int .i64 t.r.1, .int .i64 t.r.2.1, .bool t.r.2.2.1, .bool t.r.2.2.2, .int .i64 t.q.1, .int .i64 t.q.2.1, .bool t.q.2.2.1, .bool t.q.2.2.2, .slice pp ln cl]] V (OwnQ V t))) ∧ (Hid (∀ V p l c, IsL V (fun _ => True) (.slice p l c) t.l → Calls Try.prog 13 #[.agg #[.int .i64 t.k, .int .i64 t.n, .string (bs t.s), .int .i64 t.e, .int .i64 t.r.1, .int .i64 t.r.2.1, .bool t.r.2.2.1, .bool t.r.2.2.2, .int .i64 t.q.1, .int .i64 t.q.2.1, .bool t.q.2.2.1, .bool t.q.2.2.2, .slice p l c], .int .i64 o0, .int .i64 o1] V (MpQ V f))) ∧ (Hid (∀ V p l c, IsL V (fun _ => True) (.slice p l c) t.l → Calls Try.prog 15 #[.agg #[.int .i64 t.k, .int .i64 t.n, .string (bs t.s), .int .i64 t.e, .int .i64 t.r.1, .int .i64 t.r.2.1, .bool t.r.2.2.1, .bool t.r.2.2.2, .int .i64 t.q.1, .int .i64 t.q.2.1, .bool t.q.2.2.1, .bool t.q.2.2.2, .slice p l c], .int .i64 o0, .int .i64 o1] V (MpQ V b))) ∧ (∀ (p1 : Option Addr) (l1 c1 : Nat) (p2 : Option Addr) (l2 c2 : Nat) (p3 : Option Addr) (l3 c3 : Nat) (p4 : Option Addr) (l4 c4 : Nat) (ga gb : Nat) (y : World), Hid (Ext W1 y) → Hid (IsL y (fun k => k ≠ ga ∧ k ≠ gb) (.slice p1 l1 c1) t.l) → Hid (IsL y (fun k => k ≠ ga ∧ k ≠ gb) (.slice p2 l2 c2) f.l) → Hid (IsL y (fun k => k ≠ ga ∧ k ≠ gb) (.slice p3 l3 c3) t.l) → Hid (IsL y (fun k => k ≠ ga ∧ k ≠ gb) (.slice p4 l4 c4) b.l) → Hid (BlkX y ga f (.slice p2 l2 c2)) → Hid (N1 < ga) → Hid (BlkX y gb b (.slice p4 l4 c4)) → Hid (N1 < gb) → Hid (ga ≠ gb) → Q .normal { tmps := #[u0, u1, u2, u3, u4, (.pointer (some ⟨ga, 0, none⟩)), (.pointer (some ⟨gb, 0, none⟩)), u7, u8, u9, u10, (.agg #[.int .i64 t.k, .int .i64 t.n, .string (bs t.s), .int .i64 t.e, .int .i64 t.r.1, .int .i64 t.r.2.1, .bool t.r.2.2.1, .bool t.r.2.2.2, .int .i64 t.q.1, .int .i64 t.q.2.1, .bool t.q.2.2.1, .bool t.q.2.2.2, .slice pp ln cl]), (.agg #[.int .i64 t.k, .int .i64 t.n, .string (bs t.s), .int .i64 t.e, .int .i64 t.r.1, .int .i64 t.r.2.1, .bool t.r.2.2.1, .bool t.r.2.2.2, .int .i64 t.q.1, .int .i64 t.q.2.1, .bool t.q.2.2.1, .bool t.q.2.2.2, .slice p1 l1 c1]), u13, (.int .i64 o0), u15, (.int .i64 o1), (.agg #[.int .i64 f.k, .int .i64 f.n, .string (bs f.s), .int .i64 f.e, .int .i64 f.r.1, .int .i64 f.r.2.1, .bool f.r.2.2.1, .bool f.r.2.2.2, .int .i64 f.q.1, .int .i64 f.q.2.1, .bool f.q.2.2.1, .bool f.q.2.2.2, .slice p2 l2 c2]), (.agg #[.int .i64 t.k, .int .i64 t.n, .string (bs t.s), .int .i64 t.e, .int .i64 t.r.1, .int .i64 t.r.2.1, .bool t.r.2.2.1, .bool t.r.2.2.2, .int .i64 t.q.1, .int .i64 t.q.2.1, .bool t.q.2.2.1, .bool t.q.2.2.2, .slice pp ln cl]), (.agg #[.int .i64 t.k, .int .i64 t.n, .string (bs t.s), .int .i64 t.e, .int .i64 t.r.1, .int .i64 t.r.2.1, .bool t.r.2.2.1, .bool t.r.2.2.2, .int .i64 t.q.1, .int .i64 t.q.2.1, .bool t.q.2.2.1, .bool t.q.2.2.2, .slice p3 l3 c3]), u20, (.int .i64 o0), u22, (.int .i64 o1), (.agg #[.int .i64 b.k, .int .i64 b.n, .string (bs b.s), .int .i64 b.e, .int .i64 b.r.1, .int .i64 b.r.2.1, .bool b.r.2.2.1, .bool b.r.2.2.2, .int .i64 b.q.1, .int .i64 b.q.2.1, .bool b.q.2.2.1, .bool b.q.2.2.2, .slice p4 l4 c4]), u25, u26, u27, u28, u29, u30, u31, u32, u33, u34, u35, u36, u37, u38, u39, u40, u41, u42, u43, u44, u45, u46, u47, u48, u49, u50, u51, u52, u53, u54, u55], defers := [] } y)
set_option maxRecDepth 100000 in
theorem fd_4gagb {u0 u1 u2 u3 u4 u7 u8 u9 u10 u13 u15 u20 u22 u25 u26 u27 u28 u29 u30 u31 u32 u33 u34 u35 u36 u37 u38 u39 u40 u41 u42 u43 u44 u45 u46 u47 u48 u49 u50 u51 u52 u53 u54 u55 : Value} {t f b : T} {pp : Option Addr} {ln cl : Nat} {o0 o1 : Int} {W1 : World} {N1 : Nat} {S : World → Prop} {Q : Exit → Act → World → Prop} (hE : fdE u0 u1 u2 u3 u4 u7 u8 u9 u10 u13 u15 u20 u22 u25 u26 u27 u28 u29 u30 u31 u32 u33 u34 u35 u36 u37 u38 u39 u40 u41 u42 u43 u44 u45 u46 u47 u48 u49 u50 u51 u52 u53 u54 u55 t f b pp ln cl o0 o1 W1 N1 S Q) (p1 : Option Addr) (l1 c1 : Nat) (p2 : Option Addr) (l2 c2 : Nat) (p3 : Option Addr) (l3 c3 : Nat) (p4 : Option Addr) (l4 c4 : Nat) (ga : Nat) (gb : Nat) (y0 : World) (X : Hid (Ext W1 y0)) (H1 : Hid (IsL y0 (fun k => k ≠ ga ∧ k ≠ gb) (.slice p1 l1 c1) t.l)) (H2 : Hid (IsL y0 (fun k => k ≠ ga ∧ k ≠ gb) (.slice p2 l2 c2) f.l)) (H3 : Hid (IsL y0 (fun k => k ≠ ga ∧ k ≠ gb) (.slice p3 l3 c3) t.l)) (H4 : Hid (IsL y0 (fun k => k ≠ ga ∧ k ≠ gb) (.slice p4 l4 c4) b.l)) (GA : Hid (BlkX y0 ga tz (.slice none 0 0))) (NGA : Hid (N1 < ga)) (GB : Hid (BlkX y0 gb tz (.slice none 0 0))) (NGB : Hid (N1 < gb)) (HD : Hid (ga ≠ gb)) :
   wpBar Try.prog .any fdO Q (fun _ => false) S 2 #[true, true, true, true, true, true, true, true, true, true, true, true, true, true, true, true, false, false] { tmps := #[u0, u1, u2, u3, u4, (.pointer (some ⟨ga, 0, none⟩)), (.pointer (some ⟨gb, 0, none⟩)), u7, u8, u9, u10, (.agg #[.int .i64 t.k, .int .i64 t.n, .string (bs t.s), .int .i64 t.e, .int .i64 t.r.1, .int .i64 t.r.2.1, .bool t.r.2.2.1, .bool t.r.2.2.2, .int .i64 t.q.1, .int .i64 t.q.2.1, .bool t.q.2.2.1, .bool t.q.2.2.2, .slice pp ln cl]), (.agg #[.int .i64 t.k, .int .i64 t.n, .string (bs t.s), .int .i64 t.e, .int .i64 t.r.1, .int .i64 t.r.2.1, .bool t.r.2.2.1, .bool t.r.2.2.2, .int .i64 t.q.1, .int .i64 t.q.2.1, .bool t.q.2.2.1, .bool t.q.2.2.2, .slice p1 l1 c1]), u13, (.int .i64 o0), u15, (.int .i64 o1), (.agg #[.int .i64 f.k, .int .i64 f.n, .string (bs f.s), .int .i64 f.e, .int .i64 f.r.1, .int .i64 f.r.2.1, .bool f.r.2.2.1, .bool f.r.2.2.2, .int .i64 f.q.1, .int .i64 f.q.2.1, .bool f.q.2.2.1, .bool f.q.2.2.2, .slice p2 l2 c2]), (.agg #[.int .i64 t.k, .int .i64 t.n, .string (bs t.s), .int .i64 t.e, .int .i64 t.r.1, .int .i64 t.r.2.1, .bool t.r.2.2.1, .bool t.r.2.2.2, .int .i64 t.q.1, .int .i64 t.q.2.1, .bool t.q.2.2.1, .bool t.q.2.2.2, .slice pp ln cl]), (.agg #[.int .i64 t.k, .int .i64 t.n, .string (bs t.s), .int .i64 t.e, .int .i64 t.r.1, .int .i64 t.r.2.1, .bool t.r.2.2.1, .bool t.r.2.2.2, .int .i64 t.q.1, .int .i64 t.q.2.1, .bool t.q.2.2.1, .bool t.q.2.2.2, .slice p3 l3 c3]), u20, (.int .i64 o0), u22, (.int .i64 o1), (.agg #[.int .i64 b.k, .int .i64 b.n, .string (bs b.s), .int .i64 b.e, .int .i64 b.r.1, .int .i64 b.r.2.1, .bool b.r.2.2.1, .bool b.r.2.2.2, .int .i64 b.q.1, .int .i64 b.q.2.1, .bool b.q.2.2.1, .bool b.q.2.2.2, .slice p4 l4 c4]), u25, u26, u27, u28, u29, u30, u31, u32, u33, u34, u35, u36, u37, u38, u39, u40, u41, u42, u43, u44, u45, u46, u47, u48, u49, u50, u51, u52, u53, u54, u55], defers := [] } y0 := by
 unfold fdO
 have hE2 := hE
 obtain ⟨HNW, mkS, OA, FOc, BAc, hdone⟩ := hE2
 obtain ⟨zb, ⟨b0, b1, b2, b3, b4, b5, b6, b7, b8, b9, b10, b11, b12⟩, bf0, bf1, bf2, bf3, bf4, bf5, bf6, bf7, bf8, bf9, bf10, bf11, bf12⟩ := GA.out
 refine bar_one (i := 16) (by kernel_rfl) rfl (fun KK hKK => ?_)
 go_simp
 have EP : Hid (Ext W1 (putX y0 ga f (.slice p2 l2 c2))) := putX_E X.out (by have h1 := HNW.out; have h3 := NGA.out; show W1.heap.size ≤ ga; omega) _ _
 refine hKK.out _ (putX y0 ga f (.slice p2 l2 c2)) (fun _ => mkS.out _ EP.out) ?_
 clear hKK KK zb b0 b1 b2 b3 b4 b5 b6 b7 b8 b9 b10 b11 b12 bf0 bf1 bf2 bf3 bf4 bf5 bf6 bf7 bf8 bf9 bf10 bf11 bf12
 replace GA : Hid (BlkX (putX y0 ga f (.slice p2 l2 c2)) ga f (.slice p2 l2 c2)) := GA.out.put _ _
 replace GB : Hid (BlkX (putX y0 ga f (.slice p2 l2 c2)) gb tz (.slice none 0 0)) := Blk13.keep GB.out (putX_heap _ _ _ _ _ (Ne.symm HD.out))
 replace H1 : Hid (IsL (putX y0 ga f (.slice p2 l2 c2)) (fun k => k ≠ ga ∧ k ≠ gb) (.slice p1 l1 c1) t.l) := putX_L H1.out (fun k hk => by have hk2 : k ≠ ga ∧ k ≠ gb := hk; omega)
 replace H2 : Hid (IsL (putX y0 ga f (.slice p2 l2 c2)) (fun k => k ≠ ga ∧ k ≠ gb) (.slice p2 l2 c2) f.l) := putX_L H2.out (fun k hk => by have hk2 : k ≠ ga ∧ k ≠ gb := hk; omega)
 replace H3 : Hid (IsL (putX y0 ga f (.slice p2 l2 c2)) (fun k => k ≠ ga ∧ k ≠ gb) (.slice p3 l3 c3) t.l) := putX_L H3.out (fun k hk => by have hk2 : k ≠ ga ∧ k ≠ gb := hk; omega)
 replace H4 : Hid (IsL (putX y0 ga f (.slice p2 l2 c2)) (fun k => k ≠ ga ∧ k ≠ gb) (.slice p4 l4 c4) b.l) := putX_L H4.out (fun k hk => by have hk2 : k ≠ ga ∧ k ≠ gb := hk; omega)
 replace X := EP
 clear EP
 generalize putX y0 ga f (.slice p2 l2 c2) = w2 at *
 rw [show (#[true, true, true, true, true, true, true, true, true, true, true, true, true, true, true, true, false, false] : Array Bool).setIfInBounds 16 true = #[true, true, true, true, true, true, true, true, true, true, true, true, true, true, true, true, true, false] from rfl]
 obtain ⟨zb, ⟨b0, b1, b2, b3, b4, b5, b6, b7, b8, b9, b10, b11, b12⟩, bf0, bf1, bf2, bf3, bf4, bf5, bf6, bf7, bf8, bf9, bf10, bf11, bf12⟩ := GB.out
 refine bar_one (i := 17) (by kernel_rfl) rfl (fun KK hKK => ?_)
 go_simp
 have EP : Hid (Ext W1 (putX w2 gb b (.slice p4 l4 c4))) := putX_E X.out (by have h1 := HNW.out; have h3 := NGB.out; show W1.heap.size ≤ gb; omega) _ _
 refine hKK.out _ (putX w2 gb b (.slice p4 l4 c4)) (fun _ => mkS.out _ EP.out) ?_
 clear hKK KK zb b0 b1 b2 b3 b4 b5 b6 b7 b8 b9 b10 b11 b12 bf0 bf1 bf2 bf3 bf4 bf5 bf6 bf7 bf8 bf9 bf10 bf11 bf12
 replace GB : Hid (BlkX (putX w2 gb b (.slice p4 l4 c4)) gb b (.slice p4 l4 c4)) := GB.out.put _ _
 replace GA : Hid (BlkX (putX w2 gb b (.slice p4 l4 c4)) ga f (.slice p2 l2 c2)) := Blk13.keep GA.out (putX_heap _ _ _ _ _ HD.out)
 replace H1 : Hid (IsL (putX w2 gb b (.slice p4 l4 c4)) (fun k => k ≠ ga ∧ k ≠ gb) (.slice p1 l1 c1) t.l) := putX_L H1.out (fun k hk => by have hk2 : k ≠ ga ∧ k ≠ gb := hk; omega)
 replace H2 : Hid (IsL (putX w2 gb b (.slice p4 l4 c4)) (fun k => k ≠ ga ∧ k ≠ gb) (.slice p2 l2 c2) f.l) := putX_L H2.out (fun k hk => by have hk2 : k ≠ ga ∧ k ≠ gb := hk; omega)
 replace H3 : Hid (IsL (putX w2 gb b (.slice p4 l4 c4)) (fun k => k ≠ ga ∧ k ≠ gb) (.slice p3 l3 c3) t.l) := putX_L H3.out (fun k hk => by have hk2 : k ≠ ga ∧ k ≠ gb := hk; omega)
 replace H4 : Hid (IsL (putX w2 gb b (.slice p4 l4 c4)) (fun k => k ≠ ga ∧ k ≠ gb) (.slice p4 l4 c4) b.l) := putX_L H4.out (fun k hk => by have hk2 : k ≠ ga ∧ k ≠ gb := hk; omega)
 replace X := EP
 clear EP
 generalize putX w2 gb b (.slice p4 l4 c4) = w3 at *
 rw [show (#[true, true, true, true, true, true, true, true, true, true, true, true, true, true, true, true, true, false] : Array Bool).setIfInBounds 17 true = #[true, true, true, true, true, true, true, true, true, true, true, true, true, true, true, true, true, true] from rfl]
 refine bar_done (by kernel_rfl) ?_ _
 exact hdone p1 l1 c1 p2 l2 c2 p3 l3 c3 p4 l4 c4 ga gb w3 X H1 H2 H3 H4 GA NGA GB NGB HD

set_option maxRecDepth 100000 in
theorem fd_4ga {u0 u1 u2 u3 u4 u6 u7 u8 u9 u10 u13 u15 u20 u22 u25 u26 u27 u28 u29 u30 u31 u32 u33 u34 u35 u36 u37 u38 u39 u40 u41 u42 u43 u44 u45 u46 u47 u48 u49 u50 u51 u52 u53 u54 u55 : Value} {t f b : T} {pp : Option Addr} {ln cl : Nat} {o0 o1 : Int} {W1 : World} {N1 : Nat} {S : World → Prop} {Q : Exit → Act → World → Prop} (hE : fdE u0 u1 u2 u3 u4 u7 u8 u9 u10 u13 u15 u20 u22 u25 u26 u27 u28 u29 u30 u31 u32 u33 u34 u35 u36 u37 u38 u39 u40 u41 u42 u43 u44 u45 u46 u47 u48 u49 u50 u51 u52 u53 u54 u55 t f b pp ln cl o0 o1 W1 N1 S Q) (p1 : Option Addr) (l1 c1 : Nat) (p2 : Option Addr) (l2 c2 : Nat) (p3 : Option Addr) (l3 c3 : Nat) (p4 : Option Addr) (l4 c4 : Nat) (ga : Nat) (y0 : World) (X : Hid (Ext W1 y0)) (H1 : Hid (IsL y0 (fun k => k ≠ ga) (.slice p1 l1 c1) t.l)) (H2 : Hid (IsL y0 (fun k => k ≠ ga) (.slice p2 l2 c2) f.l)) (H3 : Hid (IsL y0 (fun k => k ≠ ga) (.slice p3 l3 c3) t.l)) (H4 : Hid (IsL y0 (fun k => k ≠ ga) (.slice p4 l4 c4) b.l)) (GA : Hid (BlkX y0 ga tz (.slice none 0 0))) (NGA : Hid (N1 < ga)) :
   wpBar Try.prog .any fdO Q (fun _ => false) S 3 #[true, true, true, true, true, true, true, true, true, true, true, true, true, true, true, false, false, false] { tmps := #[u0, u1, u2, u3, u4, (.pointer (some ⟨ga, 0, none⟩)), u6, u7, u8, u9, u10, (.agg #[.int .i64 t.k, .int .i64 t.n, .string (bs t.s), .int .i64 t.e, .int .i64 t.r.1, .int .i64 t.r.2.1, .bool t.r.2.2.1, .bool t.r.2.2.2, .int .i64 t.q.1, .int .i64 t.q.2.1, .bool t.q.2.2.1, .bool t.q.2.2.2, .slice pp ln cl]), (.agg #[.int .i64 t.k, .int .i64 t.n, .string (bs t.s), .int .i64 t.e, .int .i64 t.r.1, .int .i64 t.r.2.1, .bool t.r.2.2.1, .bool t.r.2.2.2, .int .i64 t.q.1, .int .i64 t.q.2.1, .bool t.q.2.2.1, .bool t.q.2.2.2, .slice p1 l1 c1]), u13, (.int .i64 o0), u15, (.int .i64 o1), (.agg #[.int .i64 f.k, .int .i64 f.n, .string (bs f.s), .int .i64 f.e, .int .i64 f.r.1, .int .i64 f.r.2.1, .bool f.r.2.2.1, .bool f.r.2.2.2, .int .i64 f.q.1, .int .i64 f.q.2.1, .bool f.q.2.2.1, .bool f.q.2.2.2, .slice p2 l2 c2]), (.agg #[.int .i64 t.k, .int .i64 t.n, .string (bs t.s), .int .i64 t.e, .int .i64 t.r.1, .int .i64 t.r.2.1, .bool t.r.2.2.1, .bool t.r.2.2.2, .int .i64 t.q.1, .int .i64 t.q.2.1, .bool t.q.2.2.1, .bool t.q.2.2.2, .slice pp ln cl]), (.agg #[.int .i64 t.k, .int .i64 t.n, .string (bs t.s), .int .i64 t.e, .int .i64 t.r.1, .int .i64 t.r.2.1, .bool t.r.2.2.1, .bool t.r.2.2.2, .int .i64 t.q.1, .int .i64 t.q.2.1, .bool t.q.2.2.1, .bool t.q.2.2.2, .slice p3 l3 c3]), u20, (.int .i64 o0), u22, (.int .i64 o1), (.agg #[.int .i64 b.k, .int .i64 b.n, .string (bs b.s), .int .i64 b.e, .int .i64 b.r.1, .int .i64 b.r.2.1, .bool b.r.2.2.1, .bool b.r.2.2.2, .int .i64 b.q.1, .int .i64 b.q.2.1, .bool b.q.2.2.1, .bool b.q.2.2.2, .slice p4 l4 c4]), u25, u26, u27, u28, u29, u30, u31, u32, u33, u34, u35, u36, u37, u38, u39, u40, u41, u42, u43, u44, u45, u46, u47, u48, u49, u50, u51, u52, u53, u54, u55], defers := [] } y0 := by
 unfold fdO
 have hE2 := hE
 obtain ⟨HNW, mkS, OA, FOc, BAc, hdone⟩ := hE2
 refine bar_one (i := 15) (by kernel_rfl) rfl (fun KK hKK => ?_)
 go_simp
 refine hKK.out _ _ (fun _ => mkS.out _ (X.out.alloc _)) ?_
 clear hKK KK
 obtain ⟨y1, hya⟩ : ∃ ya, World.alloc y0 (.cells #[.int .i64 0, .int .i64 0, .string ⟨#[]⟩, .int .i64 0, .int .i64 0, .int .i64 0, .bool false, .bool false, .int .i64 0, .int .i64 0, .bool false, .bool false, .slice none 0 0] 26) = ya := ⟨_, rfl⟩
 obtain ⟨gb, hga⟩ : ∃ g, y0.heap.size = g := ⟨_, rfl⟩
 have E : Ext y0 y1 := by rw [← hya]; exact (Ext.refl _).alloc _
 have GB : Hid (BlkX y1 gb tz (.slice none 0 0)) := by rw [← hya, ← hga]; exact BlkX.top rfl (Ext.refl _)
 have NGB : Hid (N1 < gb) := by show _ < _; rw [← hga]; have h1 := HNW.out; have h2 := X.out.sz; omega
 have HD : Hid (ga ≠ gb) := by show _ ≠ _; have := GA.out.1; rw [hga] at this; omega
 rw [hya, hga]
 replace X : Hid (Ext W1 y1) := X.out.trans E
 replace H1 : Hid (IsL y1 (fun k => k ≠ ga ∧ k ≠ gb) (.slice p1 l1 c1) t.l) := (H1.out.mono (fun k hk hs => by have h2 : k < gb := (by rw [← hga]; exact hs); have h3 : k ≠ ga := hk; show k ≠ ga ∧ k ≠ gb; omega)).ext E
 replace H2 : Hid (IsL y1 (fun k => k ≠ ga ∧ k ≠ gb) (.slice p2 l2 c2) f.l) := (H2.out.mono (fun k hk hs => by have h2 : k < gb := (by rw [← hga]; exact hs); have h3 : k ≠ ga := hk; show k ≠ ga ∧ k ≠ gb; omega)).ext E
 replace H3 : Hid (IsL y1 (fun k => k ≠ ga ∧ k ≠ gb) (.slice p3 l3 c3) t.l) := (H3.out.mono (fun k hk hs => by have h2 : k < gb := (by rw [← hga]; exact hs); have h3 : k ≠ ga := hk; show k ≠ ga ∧ k ≠ gb; omega)).ext E
 replace H4 : Hid (IsL y1 (fun k => k ≠ ga ∧ k ≠ gb) (.slice p4 l4 c4) b.l) := (H4.out.mono (fun k hk hs => by have h2 : k < gb := (by rw [← hga]; exact hs); have h3 : k ≠ ga := hk; show k ≠ ga ∧ k ≠ gb; omega)).ext E
 replace GA := hx13 GA E
 clear E hya hga
 rw [show (#[true, true, true, true, true, true, true, true, true, true, true, true, true, true, true, false, false, false] : Array Bool).setIfInBounds 15 true = #[true, true, true, true, true, true, true, true, true, true, true, true, true, true, true, true, false, false] from rfl]
 exact fd_4gagb hE p1 l1 c1 p2 l2 c2 p3 l3 c3 p4 l4 c4 ga gb y1 X H1 H2 H3 H4 GA NGA GB NGB HD

set_option maxRecDepth 100000 in
theorem fd_4gb {u0 u1 u2 u3 u4 u5 u7 u8 u9 u10 u13 u15 u20 u22 u25 u26 u27 u28 u29 u30 u31 u32 u33 u34 u35 u36 u37 u38 u39 u40 u41 u42 u43 u44 u45 u46 u47 u48 u49 u50 u51 u52 u53 u54 u55 : Value} {t f b : T} {pp : Option Addr} {ln cl : Nat} {o0 o1 : Int} {W1 : World} {N1 : Nat} {S : World → Prop} {Q : Exit → Act → World → Prop} (hE : fdE u0 u1 u2 u3 u4 u7 u8 u9 u10 u13 u15 u20 u22 u25 u26 u27 u28 u29 u30 u31 u32 u33 u34 u35 u36 u37 u38 u39 u40 u41 u42 u43 u44 u45 u46 u47 u48 u49 u50 u51 u52 u53 u54 u55 t f b pp ln cl o0 o1 W1 N1 S Q) (p1 : Option Addr) (l1 c1 : Nat) (p2 : Option Addr) (l2 c2 : Nat) (p3 : Option Addr) (l3 c3 : Nat) (p4 : Option Addr) (l4 c4 : Nat) (gb : Nat) (y0 : World) (X : Hid (Ext W1 y0)) (H1 : Hid (IsL y0 (fun k => k ≠ gb) (.slice p1 l1 c1) t.l)) (H2 : Hid (IsL y0 (fun k => k ≠ gb) (.slice p2 l2 c2) f.l)) (H3 : Hid (IsL y0 (fun k => k ≠ gb) (.slice p3 l3 c3) t.l)) (H4 : Hid (IsL y0 (fun k => k ≠ gb) (.slice p4 l4 c4) b.l)) (GB : Hid (BlkX y0 gb tz (.slice none 0 0))) (NGB : Hid (N1 < gb)) :
   wpBar Try.prog .any fdO Q (fun _ => false) S 3 #[true, true, true, true, true, true, true, true, true, true, true, true, true, true, false, true, false, false] { tmps := #[u0, u1, u2, u3, u4, u5, (.pointer (some ⟨gb, 0, none⟩)), u7, u8, u9, u10, (.agg #[.int .i64 t.k, .int .i64 t.n, .string (bs t.s), .int .i64 t.e, .int .i64 t.r.1, .int .i64 t.r.2.1, .bool t.r.2.2.1, .bool t.r.2.2.2, .int .i64 t.q.1, .int .i64 t.q.2.1, .bool t.q.2.2.1, .bool t.q.2.2.2, .slice pp ln cl]), (.agg #[.int .i64 t.k, .int .i64 t.n, .string (bs t.s), .int .i64 t.e, .int .i64 t.r.1, .int .i64 t.r.2.1, .bool t.r.2.2.1, .bool t.r.2.2.2, .int .i64 t.q.1, .int .i64 t.q.2.1, .bool t.q.2.2.1, .bool t.q.2.2.2, .slice p1 l1 c1]), u13, (.int .i64 o0), u15, (.int .i64 o1), (.agg #[.int .i64 f.k, .int .i64 f.n, .string (bs f.s), .int .i64 f.e, .int .i64 f.r.1, .int .i64 f.r.2.1, .bool f.r.2.2.1, .bool f.r.2.2.2, .int .i64 f.q.1, .int .i64 f.q.2.1, .bool f.q.2.2.1, .bool f.q.2.2.2, .slice p2 l2 c2]), (.agg #[.int .i64 t.k, .int .i64 t.n, .string (bs t.s), .int .i64 t.e, .int .i64 t.r.1, .int .i64 t.r.2.1, .bool t.r.2.2.1, .bool t.r.2.2.2, .int .i64 t.q.1, .int .i64 t.q.2.1, .bool t.q.2.2.1, .bool t.q.2.2.2, .slice pp ln cl]), (.agg #[.int .i64 t.k, .int .i64 t.n, .string (bs t.s), .int .i64 t.e, .int .i64 t.r.1, .int .i64 t.r.2.1, .bool t.r.2.2.1, .bool t.r.2.2.2, .int .i64 t.q.1, .int .i64 t.q.2.1, .bool t.q.2.2.1, .bool t.q.2.2.2, .slice p3 l3 c3]), u20, (.int .i64 o0), u22, (.int .i64 o1), (.agg #[.int .i64 b.k, .int .i64 b.n, .string (bs b.s), .int .i64 b.e, .int .i64 b.r.1, .int .i64 b.r.2.1, .bool b.r.2.2.1, .bool b.r.2.2.2, .int .i64 b.q.1, .int .i64 b.q.2.1, .bool b.q.2.2.1, .bool b.q.2.2.2, .slice p4 l4 c4]), u25, u26, u27, u28, u29, u30, u31, u32, u33, u34, u35, u36, u37, u38, u39, u40, u41, u42, u43, u44, u45, u46, u47, u48, u49, u50, u51, u52, u53, u54, u55], defers := [] } y0 := by
 unfold fdO
 have hE2 := hE
 obtain ⟨HNW, mkS, OA, FOc, BAc, hdone⟩ := hE2
 refine bar_one (i := 14) (by kernel_rfl) rfl (fun KK hKK => ?_)
 go_simp
 refine hKK.out _ _ (fun _ => mkS.out _ (X.out.alloc _)) ?_
 clear hKK KK
 obtain ⟨y1, hya⟩ : ∃ ya, World.alloc y0 (.cells #[.int .i64 0, .int .i64 0, .string ⟨#[]⟩, .int .i64 0, .int .i64 0, .int .i64 0, .bool false, .bool false, .int .i64 0, .int .i64 0, .bool false, .bool false, .slice none 0 0] 26) = ya := ⟨_, rfl⟩
 obtain ⟨ga, hga⟩ : ∃ g, y0.heap.size = g := ⟨_, rfl⟩
 have E : Ext y0 y1 := by rw [← hya]; exact (Ext.refl _).alloc _
 have GA : Hid (BlkX y1 ga tz (.slice none 0 0)) := by rw [← hya, ← hga]; exact BlkX.top rfl (Ext.refl _)
 have NGA : Hid (N1 < ga) := by show _ < _; rw [← hga]; have h1 := HNW.out; have h2 := X.out.sz; omega
 have HD : Hid (ga ≠ gb) := by show _ ≠ _; have := GB.out.1; rw [hga] at this; omega
 rw [hya, hga]
 replace X : Hid (Ext W1 y1) := X.out.trans E
 replace H1 : Hid (IsL y1 (fun k => k ≠ ga ∧ k ≠ gb) (.slice p1 l1 c1) t.l) := (H1.out.mono (fun k hk hs => by have h2 : k < ga := (by rw [← hga]; exact hs); have h3 : k ≠ gb := hk; show k ≠ ga ∧ k ≠ gb; omega)).ext E
 replace H2 : Hid (IsL y1 (fun k => k ≠ ga ∧ k ≠ gb) (.slice p2 l2 c2) f.l) := (H2.out.mono (fun k hk hs => by have h2 : k < ga := (by rw [← hga]; exact hs); have h3 : k ≠ gb := hk; show k ≠ ga ∧ k ≠ gb; omega)).ext E
 replace H3 : Hid (IsL y1 (fun k => k ≠ ga ∧ k ≠ gb) (.slice p3 l3 c3) t.l) := (H3.out.mono (fun k hk hs => by have h2 : k < ga := (by rw [← hga]; exact hs); have h3 : k ≠ gb := hk; show k ≠ ga ∧ k ≠ gb; omega)).ext E
 replace H4 : Hid (IsL y1 (fun k => k ≠ ga ∧ k ≠ gb) (.slice p4 l4 c4) b.l) := (H4.out.mono (fun k hk hs => by have h2 : k < ga := (by rw [← hga]; exact hs); have h3 : k ≠ gb := hk; show k ≠ ga ∧ k ≠ gb; omega)).ext E
 replace GB := hx13 GB E
 clear E hya hga
 rw [show (#[true, true, true, true, true, true, true, true, true, true, true, true, true, true, false, true, false, false] : Array Bool).setIfInBounds 14 true = #[true, true, true, true, true, true, true, true, true, true, true, true, true, true, true, true, false, false] from rfl]
 exact fd_4gagb hE p1 l1 c1 p2 l2 c2 p3 l3 c3 p4 l4 c4 ga gb y1 X H1 H2 H3 H4 GA NGA GB NGB HD

set_option maxRecDepth 100000 in
theorem fd_4 {u0 u1 u2 u3 u4 u5 u6 u7 u8 u9 u10 u13 u15 u20 u22 u25 u26 u27 u28 u29 u30 u31 u32 u33 u34 u35 u36 u37 u38 u39 u40 u41 u42 u43 u44 u45 u46 u47 u48 u49 u50 u51 u52 u53 u54 u55 : Value} {t f b : T} {pp : Option Addr} {ln cl : Nat} {o0 o1 : Int} {W1 : World} {N1 : Nat} {S : World → Prop} {Q : Exit → Act → World → Prop} (hE : fdE u0 u1 u2 u3 u4 u7 u8 u9 u10 u13 u15 u20 u22 u25 u26 u27 u28 u29 u30 u31 u32 u33 u34 u35 u36 u37 u38 u39 u40 u41 u42 u43 u44 u45 u46 u47 u48 u49 u50 u51 u52 u53 u54 u55 t f b pp ln cl o0 o1 W1 N1 S Q) (p1 : Option Addr) (l1 c1 : Nat) (p2 : Option Addr) (l2 c2 : Nat) (p3 : Option Addr) (l3 c3 : Nat) (p4 : Option Addr) (l4 c4 : Nat)  (y0 : World) (X : Hid (Ext W1 y0)) (H1 : Hid (IsL y0 (fun _ => True) (.slice p1 l1 c1) t.l)) (H2 : Hid (IsL y0 (fun _ => True) (.slice p2 l2 c2) f.l)) (H3 : Hid (IsL y0 (fun _ => True) (.slice p3 l3 c3) t.l)) (H4 : Hid (IsL y0 (fun _ => True) (.slice p4 l4 c4) b.l)) :
   wpBar Try.prog .any fdO Q (fun _ => false) S 4 #[true, true, true, true, true, true, true, true, true, true, true, true, true, true, false, false, false, false] { tmps := #[u0, u1, u2, u3, u4, u5, u6, u7, u8, u9, u10, (.agg #[.int .i64 t.k, .int .i64 t.n, .string (bs t.s), .int .i64 t.e, .int .i64 t.r.1, .int .i64 t.r.2.1, .bool t.r.2.2.1, .bool t.r.2.2.2, .int .i64 t.q.1, .int .i64 t.q.2.1, .bool t.q.2.2.1, .bool t.q.2.2.2, .slice pp ln cl]), (.agg #[.int .i64 t.k, .int .i64 t.n, .string (bs t.s), .int .i64 t.e, .int .i64 t.r.1, .int .i64 t.r.2.1, .bool t.r.2.2.1, .bool t.r.2.2.2, .int .i64 t.q.1, .int .i64 t.q.2.1, .bool t.q.2.2.1, .bool t.q.2.2.2, .slice p1 l1 c1]), u13, (.int .i64 o0), u15, (.int .i64 o1), (.agg #[.int .i64 f.k, .int .i64 f.n, .string (bs f.s), .int .i64 f.e, .int .i64 f.r.1, .int .i64 f.r.2.1, .bool f.r.2.2.1, .bool f.r.2.2.2, .int .i64 f.q.1, .int .i64 f.q.2.1, .bool f.q.2.2.1, .bool f.q.2.2.2, .slice p2 l2 c2]), (.agg #[.int .i64 t.k, .int .i64 t.n, .string (bs t.s), .int .i64 t.e, .int .i64 t.r.1, .int .i64 t.r.2.1, .bool t.r.2.2.1, .bool t.r.2.2.2, .int .i64 t.q.1, .int .i64 t.q.2.1, .bool t.q.2.2.1, .bool t.q.2.2.2, .slice pp ln cl]), (.agg #[.int .i64 t.k, .int .i64 t.n, .string (bs t.s), .int .i64 t.e, .int .i64 t.r.1, .int .i64 t.r.2.1, .bool t.r.2.2.1, .bool t.r.2.2.2, .int .i64 t.q.1, .int .i64 t.q.2.1, .bool t.q.2.2.1, .bool t.q.2.2.2, .slice p3 l3 c3]), u20, (.int .i64 o0), u22, (.int .i64 o1), (.agg #[.int .i64 b.k, .int .i64 b.n, .string (bs b.s), .int .i64 b.e, .int .i64 b.r.1, .int .i64 b.r.2.1, .bool b.r.2.2.1, .bool b.r.2.2.2, .int .i64 b.q.1, .int .i64 b.q.2.1, .bool b.q.2.2.1, .bool b.q.2.2.2, .slice p4 l4 c4]), u25, u26, u27, u28, u29, u30, u31, u32, u33, u34, u35, u36, u37, u38, u39, u40, u41, u42, u43, u44, u45, u46, u47, u48, u49, u50, u51, u52, u53, u54, u55], defers := [] } y0 := by
 unfold fdO
 have hE2 := hE
 obtain ⟨HNW, mkS, OA, FOc, BAc, hdone⟩ := hE2
 refine bar_list (rs := [14, 15]) (by kernel_rfl) (by simp) ?_
 refine Bars.cons rfl (fun KK hKK => ?_) ?_
 · go_simp
   refine hKK.out _ _ (fun _ => mkS.out _ (X.out.alloc _)) ?_
   clear hKK KK
   obtain ⟨y1, hya⟩ : ∃ ya, World.alloc y0 (.cells #[.int .i64 0, .int .i64 0, .string ⟨#[]⟩, .int .i64 0, .int .i64 0, .int .i64 0, .bool false, .bool false, .int .i64 0, .int .i64 0, .bool false, .bool false, .slice none 0 0] 26) = ya := ⟨_, rfl⟩
   obtain ⟨ga, hga⟩ : ∃ g, y0.heap.size = g := ⟨_, rfl⟩
   have E : Ext y0 y1 := by rw [← hya]; exact (Ext.refl _).alloc _
   have GA : Hid (BlkX y1 ga tz (.slice none 0 0)) := by rw [← hya, ← hga]; exact BlkX.top rfl (Ext.refl _)
   have NGA : Hid (N1 < ga) := by show _ < _; rw [← hga]; have h1 := HNW.out; have h2 := X.out.sz; omega
   rw [hya, hga]
   replace X : Hid (Ext W1 y1) := X.out.trans E
   replace H1 : Hid (IsL y1 (fun k => k ≠ ga) (.slice p1 l1 c1) t.l) := (H1.out.mono (fun k _ hs => by have h2 : k < ga := (by rw [← hga]; exact hs); show k ≠ ga; omega)).ext E
   replace H2 : Hid (IsL y1 (fun k => k ≠ ga) (.slice p2 l2 c2) f.l) := (H2.out.mono (fun k _ hs => by have h2 : k < ga := (by rw [← hga]; exact hs); show k ≠ ga; omega)).ext E
   replace H3 : Hid (IsL y1 (fun k => k ≠ ga) (.slice p3 l3 c3) t.l) := (H3.out.mono (fun k _ hs => by have h2 : k < ga := (by rw [← hga]; exact hs); show k ≠ ga; omega)).ext E
   replace H4 : Hid (IsL y1 (fun k => k ≠ ga) (.slice p4 l4 c4) b.l) := (H4.out.mono (fun k _ hs => by have h2 : k < ga := (by rw [← hga]; exact hs); show k ≠ ga; omega)).ext E
   clear E hya hga
   rw [show (#[true, true, true, true, true, true, true, true, true, true, true, true, true, true, false, false, false, false] : Array Bool).setIfInBounds 14 true = #[true, true, true, true, true, true, true, true, true, true, true, true, true, true, true, false, false, false] from rfl]
   exact fd_4ga hE p1 l1 c1 p2 l2 c2 p3 l3 c3 p4 l4 c4 ga y1 X H1 H2 H3 H4 GA NGA
 · refine Bars.cons rfl (fun KK hKK => ?_) ?_
   · go_simp
     refine hKK.out _ _ (fun _ => mkS.out _ (X.out.alloc _)) ?_
     clear hKK KK
     obtain ⟨y1, hya⟩ : ∃ ya, World.alloc y0 (.cells #[.int .i64 0, .int .i64 0, .string ⟨#[]⟩, .int .i64 0, .int .i64 0, .int .i64 0, .bool false, .bool false, .int .i64 0, .int .i64 0, .bool false, .bool false, .slice none 0 0] 26) = ya := ⟨_, rfl⟩
     obtain ⟨gb, hga⟩ : ∃ g, y0.heap.size = g := ⟨_, rfl⟩
     have E : Ext y0 y1 := by rw [← hya]; exact (Ext.refl _).alloc _
     have GB : Hid (BlkX y1 gb tz (.slice none 0 0)) := by rw [← hya, ← hga]; exact BlkX.top rfl (Ext.refl _)
     have NGB : Hid (N1 < gb) := by show _ < _; rw [← hga]; have h1 := HNW.out; have h2 := X.out.sz; omega
     rw [hya, hga]
     replace X : Hid (Ext W1 y1) := X.out.trans E
     replace H1 : Hid (IsL y1 (fun k => k ≠ gb) (.slice p1 l1 c1) t.l) := (H1.out.mono (fun k _ hs => by have h2 : k < gb := (by rw [← hga]; exact hs); show k ≠ gb; omega)).ext E
     replace H2 : Hid (IsL y1 (fun k => k ≠ gb) (.slice p2 l2 c2) f.l) := (H2.out.mono (fun k _ hs => by have h2 : k < gb := (by rw [← hga]; exact hs); show k ≠ gb; omega)).ext E
     replace H3 : Hid (IsL y1 (fun k => k ≠ gb) (.slice p3 l3 c3) t.l) := (H3.out.mono (fun k _ hs => by have h2 : k < gb := (by rw [← hga]; exact hs); show k ≠ gb; omega)).ext E
     replace H4 : Hid (IsL y1 (fun k => k ≠ gb) (.slice p4 l4 c4) b.l) := (H4.out.mono (fun k _ hs => by have h2 : k < gb := (by rw [← hga]; exact hs); show k ≠ gb; omega)).ext E
     clear E hya hga
     rw [show (#[true, true, true, true, true, true, true, true, true, true, true, true, true, true, false, false, false, false] : Array Bool).setIfInBounds 15 true = #[true, true, true, true, true, true, true, true, true, true, true, true, true, true, false, true, false, false] from rfl]
     exact fd_4gb hE p1 l1 c1 p2 l2 c2 p3 l3 c3 p4 l4 c4 gb y1 X H1 H2 H3 H4 GB NGB
   · exact Bars.nil

set_option maxRecDepth 100000 in
theorem fd_3gagb {u0 u1 u2 u3 u4 u7 u8 u9 u10 u13 u15 u20 u22 u24 u25 u26 u27 u28 u29 u30 u31 u32 u33 u34 u35 u36 u37 u38 u39 u40 u41 u42 u43 u44 u45 u46 u47 u48 u49 u50 u51 u52 u53 u54 u55 : Value} {t f b : T} {pp : Option Addr} {ln cl : Nat} {o0 o1 : Int} {W1 : World} {N1 : Nat} {S : World → Prop} {Q : Exit → Act → World → Prop} (hE : fdE u0 u1 u2 u3 u4 u7 u8 u9 u10 u13 u15 u20 u22 u25 u26 u27 u28 u29 u30 u31 u32 u33 u34 u35 u36 u37 u38 u39 u40 u41 u42 u43 u44 u45 u46 u47 u48 u49 u50 u51 u52 u53 u54 u55 t f b pp ln cl o0 o1 W1 N1 S Q) (p1 : Option Addr) (l1 c1 : Nat) (p2 : Option Addr) (l2 c2 : Nat) (p3 : Option Addr) (l3 c3 : Nat) (ga : Nat) (gb : Nat) (y0 : World) (X : Hid (Ext W1 y0)) (H1 : Hid (IsL y0 (fun k => k ≠ ga ∧ k ≠ gb) (.slice p1 l1 c1) t.l)) (H2 : Hid (IsL y0 (fun k => k ≠ ga ∧ k ≠ gb) (.slice p2 l2 c2) f.l)) (H3 : Hid (IsL y0 (fun k => k ≠ ga ∧ k ≠ gb) (.slice p3 l3 c3) t.l)) (GA : Hid (BlkX y0 ga tz (.slice none 0 0))) (NGA : Hid (N1 < ga)) (GB : Hid (BlkX y0 gb tz (.slice none 0 0))) (NGB : Hid (N1 < gb)) (HD : Hid (ga ≠ gb)) :
   wpBar Try.prog .any fdO Q (fun _ => false) S 3 #[true, true, true, true, true, true, true, true, true, true, true, true, true, false, true, true, false, false] { tmps := #[u0, u1, u2, u3, u4, (.pointer (some ⟨ga, 0, none⟩)), (.pointer (some ⟨gb, 0, none⟩)), u7, u8, u9, u10, (.agg #[.int .i64 t.k, .int .i64 t.n, .string (bs t.s), .int .i64 t.e, .int .i64 t.r.1, .int .i64 t.r.2.1, .bool t.r.2.2.1, .bool t.r.2.2.2, .int .i64 t.q.1, .int .i64 t.q.2.1, .bool t.q.2.2.1, .bool t.q.2.2.2, .slice pp ln cl]), (.agg #[.int .i64 t.k, .int .i64 t.n, .string (bs t.s), .int .i64 t.e, .int .i64 t.r.1, .int .i64 t.r.2.1, .bool t.r.2.2.1, .bool t.r.2.2.2, .int .i64 t.q.1, .int .i64 t.q.2.1, .bool t.q.2.2.1, .bool t.q.2.2.2, .slice p1 l1 c1]), u13, (.int .i64 o0), u15, (.int .i64 o1), (.agg #[.int .i64 f.k, .int .i64 f.n, .string (bs f.s), .int .i64 f.e, .int .i64 f.r.1, .int .i64 f.r.2.1, .bool f.r.2.2.1, .bool f.r.2.2.2, .int .i64 f.q.1, .int .i64 f.q.2.1, .bool f.q.2.2.1, .bool f.q.2.2.2, .slice p2 l2 c2]), (.agg #[.int .i64 t.k, .int .i64 t.n, .string (bs t.s), .int .i64 t.e, .int .i64 t.r.1, .int .i64 t.r.2.1, .bool t.r.2.2.1, .bool t.r.2.2.2, .int .i64 t.q.1, .int .i64 t.q.2.1, .bool t.q.2.2.1, .bool t.q.2.2.2, .slice pp ln cl]), (.agg #[.int .i64 t.k, .int .i64 t.n, .string (bs t.s), .int .i64 t.e, .int .i64 t.r.1, .int .i64 t.r.2.1, .bool t.r.2.2.1, .bool t.r.2.2.2, .int .i64 t.q.1, .int .i64 t.q.2.1, .bool t.q.2.2.1, .bool t.q.2.2.2, .slice p3 l3 c3]), u20, (.int .i64 o0), u22, (.int .i64 o1), u24, u25, u26, u27, u28, u29, u30, u31, u32, u33, u34, u35, u36, u37, u38, u39, u40, u41, u42, u43, u44, u45, u46, u47, u48, u49, u50, u51, u52, u53, u54, u55], defers := [] } y0 := by
 unfold fdO
 have hE2 := hE
 obtain ⟨HNW, mkS, OA, FOc, BAc, hdone⟩ := hE2
 refine bar_one (i := 13) (by kernel_rfl) rfl (fun KK hKK => ?_)
 go_simp
 go_wp2_with (go_at_call 15; refine Calls.mono (BAc.out _ p3 l3 c3 (H3.out.mono (fun _ _ _ => trivial))) ?_; rintro e y1 ⟨p4, l4, c4, rfl, hL4, E⟩; have H4 : Hid (IsL y1 (fun k => k ≠ ga ∧ k ≠ gb) (.slice p4 l4 c4) b.l) := hL4.mono (fun k hk _ => by have hk2 : y0.heap.size ≤ k := hk; have q0 := GA.out.1; have q1 := GB.out.1; show k ≠ ga ∧ k ≠ gb; omega); clear hL4; unfold aggX)
 replace X : Hid (Ext W1 y1) := X.out.trans E
 refine hKK.out _ _ (fun _ => mkS.out _ X.out) ?_
 clear hKK KK
 replace H1 := hxL H1 E
 replace H2 := hxL H2 E
 replace H3 := hxL H3 E
 replace GA := hx13 GA E
 replace GB := hx13 GB E
 rw [show (#[true, true, true, true, true, true, true, true, true, true, true, true, true, false, true, true, false, false] : Array Bool).setIfInBounds 13 true = #[true, true, true, true, true, true, true, true, true, true, true, true, true, true, true, true, false, false] from rfl]
 exact fd_4gagb hE p1 l1 c1 p2 l2 c2 p3 l3 c3 p4 l4 c4 ga gb y1 X H1 H2 H3 H4 GA NGA GB NGB HD

set_option maxRecDepth 100000 in
theorem fd_3ga {u0 u1 u2 u3 u4 u6 u7 u8 u9 u10 u13 u15 u20 u22 u24 u25 u26 u27 u28 u29 u30 u31 u32 u33 u34 u35 u36 u37 u38 u39 u40 u41 u42 u43 u44 u45 u46 u47 u48 u49 u50 u51 u52 u53 u54 u55 : Value} {t f b : T} {pp : Option Addr} {ln cl : Nat} {o0 o1 : Int} {W1 : World} {N1 : Nat} {S : World → Prop} {Q : Exit → Act → World → Prop} (hE : fdE u0 u1 u2 u3 u4 u7 u8 u9 u10 u13 u15 u20 u22 u25 u26 u27 u28 u29 u30 u31 u32 u33 u34 u35 u36 u37 u38 u39 u40 u41 u42 u43 u44 u45 u46 u47 u48 u49 u50 u51 u52 u53 u54 u55 t f b pp ln cl o0 o1 W1 N1 S Q) (p1 : Option Addr) (l1 c1 : Nat) (p2 : Option Addr) (l2 c2 : Nat) (p3 : Option Addr) (l3 c3 : Nat) (ga : Nat) (y0 : World) (X : Hid (Ext W1 y0)) (H1 : Hid (IsL y0 (fun k => k ≠ ga) (.slice p1 l1 c1) t.l)) (H2 : Hid (IsL y0 (fun k => k ≠ ga) (.slice p2 l2 c2) f.l)) (H3 : Hid (IsL y0 (fun k => k ≠ ga) (.slice p3 l3 c3) t.l)) (GA : Hid (BlkX y0 ga tz (.slice none 0 0))) (NGA : Hid (N1 < ga)) :
   wpBar Try.prog .any fdO Q (fun _ => false) S 4 #[true, true, true, true, true, true, true, true, true, true, true, true, true, false, true, false, false, false] { tmps := #[u0, u1, u2, u3, u4, (.pointer (some ⟨ga, 0, none⟩)), u6, u7, u8, u9, u10, (.agg #[.int .i64 t.k, .int .i64 t.n, .string (bs t.s), .int .i64 t.e, .int .i64 t.r.1, .int .i64 t.r.2.1, .bool t.r.2.2.1, .bool t.r.2.2.2, .int .i64 t.q.1, .int .i64 t.q.2.1, .bool t.q.2.2.1, .bool t.q.2.2.2, .slice pp ln cl]), (.agg #[.int .i64 t.k, .int .i64 t.n, .string (bs t.s), .int .i64 t.e, .int .i64 t.r.1, .int .i64 t.r.2.1, .bool t.r.2.2.1, .bool t.r.2.2.2, .int .i64 t.q.1, .int .i64 t.q.2.1, .bool t.q.2.2.1, .bool t.q.2.2.2, .slice p1 l1 c1]), u13, (.int .i64 o0), u15, (.int .i64 o1), (.agg #[.int .i64 f.k, .int .i64 f.n, .string (bs f.s), .int .i64 f.e, .int .i64 f.r.1, .int .i64 f.r.2.1, .bool f.r.2.2.1, .bool f.r.2.2.2, .int .i64 f.q.1, .int .i64 f.q.2.1, .bool f.q.2.2.1, .bool f.q.2.2.2, .slice p2 l2 c2]), (.agg #[.int .i64 t.k, .int .i64 t.n, .string (bs t.s), .int .i64 t.e, .int .i64 t.r.1, .int .i64 t.r.2.1, .bool t.r.2.2.1, .bool t.r.2.2.2, .int .i64 t.q.1, .int .i64 t.q.2.1, .bool t.q.2.2.1, .bool t.q.2.2.2, .slice pp ln cl]), (.agg #[.int .i64 t.k, .int .i64 t.n, .string (bs t.s), .int .i64 t.e, .int .i64 t.r.1, .int .i64 t.r.2.1, .bool t.r.2.2.1, .bool t.r.2.2.2, .int .i64 t.q.1, .int .i64 t.q.2.1, .bool t.q.2.2.1, .bool t.q.2.2.2, .slice p3 l3 c3]), u20, (.int .i64 o0), u22, (.int .i64 o1), u24, u25, u26, u27, u28, u29, u30, u31, u32, u33, u34, u35, u36, u37, u38, u39, u40, u41, u42, u43, u44, u45, u46, u47, u48, u49, u50, u51, u52, u53, u54, u55], defers := [] } y0 := by
 unfold fdO
 have hE2 := hE
 obtain ⟨HNW, mkS, OA, FOc, BAc, hdone⟩ := hE2
 refine bar_list (rs := [13, 15]) (by kernel_rfl) (by simp) ?_
 refine Bars.cons rfl (fun KK hKK => ?_) ?_
 · go_simp
   go_wp2_with (go_at_call 15; refine Calls.mono (BAc.out _ p3 l3 c3 (H3.out.mono (fun _ _ _ => trivial))) ?_; rintro e y1 ⟨p4, l4, c4, rfl, hL4, E⟩; have H4 : Hid (IsL y1 (fun k => k ≠ ga) (.slice p4 l4 c4) b.l) := hL4.mono (fun k hk _ => by have hk2 : y0.heap.size ≤ k := hk; have q0 := GA.out.1; show k ≠ ga; omega); clear hL4; unfold aggX)
   replace X : Hid (Ext W1 y1) := X.out.trans E
   refine hKK.out _ _ (fun _ => mkS.out _ X.out) ?_
   clear hKK KK
   replace H1 := hxL H1 E
   replace H2 := hxL H2 E
   replace H3 := hxL H3 E
   replace GA := hx13 GA E
   rw [show (#[true, true, true, true, true, true, true, true, true, true, true, true, true, false, true, false, false, false] : Array Bool).setIfInBounds 13 true = #[true, true, true, true, true, true, true, true, true, true, true, true, true, true, true, false, false, false] from rfl]
   exact fd_4ga hE p1 l1 c1 p2 l2 c2 p3 l3 c3 p4 l4 c4 ga y1 X H1 H2 H3 H4 GA NGA
 · refine Bars.cons rfl (fun KK hKK => ?_) ?_
   · go_simp
     refine hKK.out _ _ (fun _ => mkS.out _ (X.out.alloc _)) ?_
     clear hKK KK
     obtain ⟨y1, hya⟩ : ∃ ya, World.alloc y0 (.cells #[.int .i64 0, .int .i64 0, .string ⟨#[]⟩, .int .i64 0, .int .i64 0, .int .i64 0, .bool false, .bool false, .int .i64 0, .int .i64 0, .bool false, .bool false, .slice none 0 0] 26) = ya := ⟨_, rfl⟩
     obtain ⟨gb, hga⟩ : ∃ g, y0.heap.size = g := ⟨_, rfl⟩
     have E : Ext y0 y1 := by rw [← hya]; exact (Ext.refl _).alloc _
     have GB : Hid (BlkX y1 gb tz (.slice none 0 0)) := by rw [← hya, ← hga]; exact BlkX.top rfl (Ext.refl _)
     have NGB : Hid (N1 < gb) := by show _ < _; rw [← hga]; have h1 := HNW.out; have h2 := X.out.sz; omega
     have HD : Hid (ga ≠ gb) := by show _ ≠ _; have := GA.out.1; rw [hga] at this; omega
     rw [hya, hga]
     replace X : Hid (Ext W1 y1) := X.out.trans E
     replace H1 : Hid (IsL y1 (fun k => k ≠ ga ∧ k ≠ gb) (.slice p1 l1 c1) t.l) := (H1.out.mono (fun k hk hs => by have h2 : k < gb := (by rw [← hga]; exact hs); have h3 : k ≠ ga := hk; show k ≠ ga ∧ k ≠ gb; omega)).ext E
     replace H2 : Hid (IsL y1 (fun k => k ≠ ga ∧ k ≠ gb) (.slice p2 l2 c2) f.l) := (H2.out.mono (fun k hk hs => by have h2 : k < gb := (by rw [← hga]; exact hs); have h3 : k ≠ ga := hk; show k ≠ ga ∧ k ≠ gb; omega)).ext E
     replace H3 : Hid (IsL y1 (fun k => k ≠ ga ∧ k ≠ gb) (.slice p3 l3 c3) t.l) := (H3.out.mono (fun k hk hs => by have h2 : k < gb := (by rw [← hga]; exact hs); have h3 : k ≠ ga := hk; show k ≠ ga ∧ k ≠ gb; omega)).ext E
     replace GA := hx13 GA E
     clear E hya hga
     rw [show (#[true, true, true, true, true, true, true, true, true, true, true, true, true, false, true, false, false, false] : Array Bool).setIfInBounds 15 true = #[true, true, true, true, true, true, true, true, true, true, true, true, true, false, true, true, false, false] from rfl]
     exact fd_3gagb hE p1 l1 c1 p2 l2 c2 p3 l3 c3 ga gb y1 X H1 H2 H3 GA NGA GB NGB HD
   · exact Bars.nil

set_option maxRecDepth 100000 in
theorem fd_3gb {u0 u1 u2 u3 u4 u5 u7 u8 u9 u10 u13 u15 u20 u22 u24 u25 u26 u27 u28 u29 u30 u31 u32 u33 u34 u35 u36 u37 u38 u39 u40 u41 u42 u43 u44 u45 u46 u47 u48 u49 u50 u51 u52 u53 u54 u55 : Value} {t f b : T} {pp : Option Addr} {ln cl : Nat} {o0 o1 : Int} {W1 : World} {N1 : Nat} {S : World → Prop} {Q : Exit → Act → World → Prop} (hE : fdE u0 u1 u2 u3 u4 u7 u8 u9 u10 u13 u15 u20 u22 u25 u26 u27 u28 u29 u30 u31 u32 u33 u34 u35 u36 u37 u38 u39 u40 u41 u42 u43 u44 u45 u46 u47 u48 u49 u50 u51 u52 u53 u54 u55 t f b pp ln cl o0 o1 W1 N1 S Q) (p1 : Option Addr) (l1 c1 : Nat) (p2 : Option Addr) (l2 c2 : Nat) (p3 : Option Addr) (l3 c3 : Nat) (gb : Nat) (y0 : World) (X : Hid (Ext W1 y0)) (H1 : Hid (IsL y0 (fun k => k ≠ gb) (.slice p1 l1 c1) t.l)) (H2 : Hid (IsL y0 (fun k => k ≠ gb) (.slice p2 l2 c2) f.l)) (H3 : Hid (IsL y0 (fun k => k ≠ gb) (.slice p3 l3 c3) t.l)) (GB : Hid (BlkX y0 gb tz (.slice none 0 0))) (NGB : Hid (N1 < gb)) :
   wpBar Try.prog .any fdO Q (fun _ => false) S 4 #[true, true, true, true, true, true, true, true, true, true, true, true, true, false, false, true, false, false] { tmps := #[u0, u1, u2, u3, u4, u5, (.pointer (some ⟨gb, 0, none⟩)), u7, u8, u9, u10, (.agg #[.int .i64 t.k, .int .i64 t.n, .string (bs t.s), .int .i64 t.e, .int .i64 t.r.1, .int .i64 t.r.2.1, .bool t.r.2.2.1, .bool t.r.2.2.2, .int .i64 t.q.1, .int .i64 t.q.2.1, .bool t.q.2.2.1, .bool t.q.2.2.2, .slice pp ln cl]), (.agg #[.int .i64 t.k, .int .i64 t.n, .string (bs t.s), .int .i64 t.e, .int .i64 t.r.1, .int .i64 t.r.2.1, .bool t.r.2.2.1, .bool t.r.2.2.2, .int .i64 t.q.1, .int .i64 t.q.2.1, .bool t.q.2.2.1, .bool t.q.2.2.2, .slice p1 l1 c1]), u13, (.int .i64 o0), u15, (.int .i64 o1), (.agg #[.int .i64 f.k, .int .i64 f.n, .string (bs f.s), .int .i64 f.e, .int .i64 f.r.1, .int .i64 f.r.2.1, .bool f.r.2.2.1, .bool f.r.2.2.2, .int .i64 f.q.1, .int .i64 f.q.2.1, .bool f.q.2.2.1, .bool f.q.2.2.2, .slice p2 l2 c2]), (.agg #[.int .i64 t.k, .int .i64 t.n, .string (bs t.s), .int .i64 t.e, .int .i64 t.r.1, .int .i64 t.r.2.1, .bool t.r.2.2.1, .bool t.r.2.2.2, .int .i64 t.q.1, .int .i64 t.q.2.1, .bool t.q.2.2.1, .bool t.q.2.2.2, .slice pp ln cl]), (.agg #[.int .i64 t.k, .int .i64 t.n, .string (bs t.s), .int .i64 t.e, .int .i64 t.r.1, .int .i64 t.r.2.1, .bool t.r.2.2.1, .bool t.r.2.2.2, .int .i64 t.q.1, .int .i64 t.q.2.1, .bool t.q.2.2.1, .bool t.q.2.2.2, .slice p3 l3 c3]), u20, (.int .i64 o0), u22, (.int .i64 o1), u24, u25, u26, u27, u28, u29, u30, u31, u32, u33, u34, u35, u36, u37, u38, u39, u40, u41, u42, u43, u44, u45, u46, u47, u48, u49, u50, u51, u52, u53, u54, u55], defers := [] } y0 := by
 unfold fdO
 have hE2 := hE
 obtain ⟨HNW, mkS, OA, FOc, BAc, hdone⟩ := hE2
 refine bar_list (rs := [13, 14]) (by kernel_rfl) (by simp) ?_
 refine Bars.cons rfl (fun KK hKK => ?_) ?_
 · go_simp
   go_wp2_with (go_at_call 15; refine Calls.mono (BAc.out _ p3 l3 c3 (H3.out.mono (fun _ _ _ => trivial))) ?_; rintro e y1 ⟨p4, l4, c4, rfl, hL4, E⟩; have H4 : Hid (IsL y1 (fun k => k ≠ gb) (.slice p4 l4 c4) b.l) := hL4.mono (fun k hk _ => by have hk2 : y0.heap.size ≤ k := hk; have q0 := GB.out.1; show k ≠ gb; omega); clear hL4; unfold aggX)
   replace X : Hid (Ext W1 y1) := X.out.trans E
   refine hKK.out _ _ (fun _ => mkS.out _ X.out) ?_
   clear hKK KK
   replace H1 := hxL H1 E
   replace H2 := hxL H2 E
   replace H3 := hxL H3 E
   replace GB := hx13 GB E
   rw [show (#[true, true, true, true, true, true, true, true, true, true, true, true, true, false, false, true, false, false] : Array Bool).setIfInBounds 13 true = #[true, true, true, true, true, true, true, true, true, true, true, true, true, true, false, true, false, false] from rfl]
   exact fd_4gb hE p1 l1 c1 p2 l2 c2 p3 l3 c3 p4 l4 c4 gb y1 X H1 H2 H3 H4 GB NGB
 · refine Bars.cons rfl (fun KK hKK => ?_) ?_
   · go_simp
     refine hKK.out _ _ (fun _ => mkS.out _ (X.out.alloc _)) ?_
     clear hKK KK
     obtain ⟨y1, hya⟩ : ∃ ya, World.alloc y0 (.cells #[.int .i64 0, .int .i64 0, .string ⟨#[]⟩, .int .i64 0, .int .i64 0, .int .i64 0, .bool false, .bool false, .int .i64 0, .int .i64 0, .bool false, .bool false, .slice none 0 0] 26) = ya := ⟨_, rfl⟩
     obtain ⟨ga, hga⟩ : ∃ g, y0.heap.size = g := ⟨_, rfl⟩
     have E : Ext y0 y1 := by rw [← hya]; exact (Ext.refl _).alloc _
     have GA : Hid (BlkX y1 ga tz (.slice none 0 0)) := by rw [← hya, ← hga]; exact BlkX.top rfl (Ext.refl _)
     have NGA : Hid (N1 < ga) := by show _ < _; rw [← hga]; have h1 := HNW.out; have h2 := X.out.sz; omega
     have HD : Hid (ga ≠ gb) := by show _ ≠ _; have := GB.out.1; rw [hga] at this; omega
     rw [hya, hga]
     replace X : Hid (Ext W1 y1) := X.out.trans E
     replace H1 : Hid (IsL y1 (fun k => k ≠ ga ∧ k ≠ gb) (.slice p1 l1 c1) t.l) := (H1.out.mono (fun k hk hs => by have h2 : k < ga := (by rw [← hga]; exact hs); have h3 : k ≠ gb := hk; show k ≠ ga ∧ k ≠ gb; omega)).ext E
     replace H2 : Hid (IsL y1 (fun k => k ≠ ga ∧ k ≠ gb) (.slice p2 l2 c2) f.l) := (H2.out.mono (fun k hk hs => by have h2 : k < ga := (by rw [← hga]; exact hs); have h3 : k ≠ gb := hk; show k ≠ ga ∧ k ≠ gb; omega)).ext E
     replace H3 : Hid (IsL y1 (fun k => k ≠ ga ∧ k ≠ gb) (.slice p3 l3 c3) t.l) := (H3.out.mono (fun k hk hs => by have h2 : k < ga := (by rw [← hga]; exact hs); have h3 : k ≠ gb := hk; show k ≠ ga ∧ k ≠ gb; omega)).ext E
     replace GB := hx13 GB E
     clear E hya hga
     rw [show (#[true, true, true, true, true, true, true, true, true, true, true, true, true, false, false, true, false, false] : Array Bool).setIfInBounds 14 true = #[true, true, true, true, true, true, true, true, true, true, true, true, true, false, true, true, false, false] from rfl]
     exact fd_3gagb hE p1 l1 c1 p2 l2 c2 p3 l3 c3 ga gb y1 X H1 H2 H3 GA NGA GB NGB HD
   · exact Bars.nil

set_option maxRecDepth 100000 in
theorem fd_3 {u0 u1 u2 u3 u4 u5 u6 u7 u8 u9 u10 u13 u15 u20 u22 u24 u25 u26 u27 u28 u29 u30 u31 u32 u33 u34 u35 u36 u37 u38 u39 u40 u41 u42 u43 u44 u45 u46 u47 u48 u49 u50 u51 u52 u53 u54 u55 : Value} {t f b : T} {pp : Option Addr} {ln cl : Nat} {o0 o1 : Int} {W1 : World} {N1 : Nat} {S : World → Prop} {Q : Exit → Act → World → Prop} (hE : fdE u0 u1 u2 u3 u4 u7 u8 u9 u10 u13 u15 u20 u22 u25 u26 u27 u28 u29 u30 u31 u32 u33 u34 u35 u36 u37 u38 u39 u40 u41 u42 u43 u44 u45 u46 u47 u48 u49 u50 u51 u52 u53 u54 u55 t f b pp ln cl o0 o1 W1 N1 S Q) (p1 : Option Addr) (l1 c1 : Nat) (p2 : Option Addr) (l2 c2 : Nat) (p3 : Option Addr) (l3 c3 : Nat)  (y0 : World) (X : Hid (Ext W1 y0)) (H1 : Hid (IsL y0 (fun _ => True) (.slice p1 l1 c1) t.l)) (H2 : Hid (IsL y0 (fun _ => True) (.slice p2 l2 c2) f.l)) (H3 : Hid (IsL y0 (fun _ => True) (.slice p3 l3 c3) t.l)) :
   wpBar Try.prog .any fdO Q (fun _ => false) S 5 #[true, true, true, true, true, true, true, true, true, true, true, true, true, false, false, false, false, false] { tmps := #[u0, u1, u2, u3, u4, u5, u6, u7, u8, u9, u10, (.agg #[.int .i64 t.k, .int .i64 t.n, .string (bs t.s), .int .i64 t.e, .int .i64 t.r.1, .int .i64 t.r.2.1, .bool t.r.2.2.1, .bool t.r.2.2.2, .int .i64 t.q.1, .int .i64 t.q.2.1, .bool t.q.2.2.1, .bool t.q.2.2.2, .slice pp ln cl]), (.agg #[.int .i64 t.k, .int .i64 t.n, .string (bs t.s), .int .i64 t.e, .int .i64 t.r.1, .int .i64 t.r.2.1, .bool t.r.2.2.1, .bool t.r.2.2.2, .int .i64 t.q.1, .int .i64 t.q.2.1, .bool t.q.2.2.1, .bool t.q.2.2.2, .slice p1 l1 c1]), u13, (.int .i64 o0), u15, (.int .i64 o1), (.agg #[.int .i64 f.k, .int .i64 f.n, .string (bs f.s), .int .i64 f.e, .int .i64 f.r.1, .int .i64 f.r.2.1, .bool f.r.2.2.1, .bool f.r.2.2.2, .int .i64 f.q.1, .int .i64 f.q.2.1, .bool f.q.2.2.1, .bool f.q.2.2.2, .slice p2 l2 c2]), (.agg #[.int .i64 t.k, .int .i64 t.n, .string (bs t.s), .int .i64 t.e, .int .i64 t.r.1, .int .i64 t.r.2.1, .bool t.r.2.2.1, .bool t.r.2.2.2, .int .i64 t.q.1, .int .i64 t.q.2.1, .bool t.q.2.2.1, .bool t.q.2.2.2, .slice pp ln cl]), (.agg #[.int .i64 t.k, .int .i64 t.n, .string (bs t.s), .int .i64 t.e, .int .i64 t.r.1, .int .i64 t.r.2.1, .bool t.r.2.2.1, .bool t.r.2.2.2, .int .i64 t.q.1, .int .i64 t.q.2.1, .bool t.q.2.2.1, .bool t.q.2.2.2, .slice p3 l3 c3]), u20, (.int .i64 o0), u22, (.int .i64 o1), u24, u25, u26, u27, u28, u29, u30, u31, u32, u33, u34, u35, u36, u37, u38, u39, u40, u41, u42, u43, u44, u45, u46, u47, u48, u49, u50, u51, u52, u53, u54, u55], defers := [] } y0 := by
 unfold fdO
 have hE2 := hE
 obtain ⟨HNW, mkS, OA, FOc, BAc, hdone⟩ := hE2
 refine bar_list (rs := [13, 14, 15]) (by kernel_rfl) (by simp) ?_
 refine Bars.cons rfl (fun KK hKK => ?_) ?_
 · go_simp
   go_wp2_with (go_at_call 15; refine Calls.mono (BAc.out _ p3 l3 c3 (H3.out.mono (fun _ _ _ => trivial))) ?_; rintro e y1 ⟨p4, l4, c4, rfl, hL4, E⟩; have H4 : Hid (IsL y1 (fun _ => True) (.slice p4 l4 c4) b.l) := hL4.mono (fun _ _ _ => trivial); clear hL4; unfold aggX)
   replace X : Hid (Ext W1 y1) := X.out.trans E
   refine hKK.out _ _ (fun _ => mkS.out _ X.out) ?_
   clear hKK KK
   replace H1 := hxL H1 E
   replace H2 := hxL H2 E
   replace H3 := hxL H3 E
   rw [show (#[true, true, true, true, true, true, true, true, true, true, true, true, true, false, false, false, false, false] : Array Bool).setIfInBounds 13 true = #[true, true, true, true, true, true, true, true, true, true, true, true, true, true, false, false, false, false] from rfl]
   exact fd_4 hE p1 l1 c1 p2 l2 c2 p3 l3 c3 p4 l4 c4  y1 X H1 H2 H3 H4
 · refine Bars.cons rfl (fun KK hKK => ?_) ?_
   · go_simp
     refine hKK.out _ _ (fun _ => mkS.out _ (X.out.alloc _)) ?_
     clear hKK KK
     obtain ⟨y1, hya⟩ : ∃ ya, World.alloc y0 (.cells #[.int .i64 0, .int .i64 0, .string ⟨#[]⟩, .int .i64 0, .int .i64 0, .int .i64 0, .bool false, .bool false, .int .i64 0, .int .i64 0, .bool false, .bool false, .slice none 0 0] 26) = ya := ⟨_, rfl⟩
     obtain ⟨ga, hga⟩ : ∃ g, y0.heap.size = g := ⟨_, rfl⟩
     have E : Ext y0 y1 := by rw [← hya]; exact (Ext.refl _).alloc _
     have GA : Hid (BlkX y1 ga tz (.slice none 0 0)) := by rw [← hya, ← hga]; exact BlkX.top rfl (Ext.refl _)
     have NGA : Hid (N1 < ga) := by show _ < _; rw [← hga]; have h1 := HNW.out; have h2 := X.out.sz; omega
     rw [hya, hga]
     replace X : Hid (Ext W1 y1) := X.out.trans E
     replace H1 : Hid (IsL y1 (fun k => k ≠ ga) (.slice p1 l1 c1) t.l) := (H1.out.mono (fun k _ hs => by have h2 : k < ga := (by rw [← hga]; exact hs); show k ≠ ga; omega)).ext E
     replace H2 : Hid (IsL y1 (fun k => k ≠ ga) (.slice p2 l2 c2) f.l) := (H2.out.mono (fun k _ hs => by have h2 : k < ga := (by rw [← hga]; exact hs); show k ≠ ga; omega)).ext E
     replace H3 : Hid (IsL y1 (fun k => k ≠ ga) (.slice p3 l3 c3) t.l) := (H3.out.mono (fun k _ hs => by have h2 : k < ga := (by rw [← hga]; exact hs); show k ≠ ga; omega)).ext E
     clear E hya hga
     rw [show (#[true, true, true, true, true, true, true, true, true, true, true, true, true, false, false, false, false, false] : Array Bool).setIfInBounds 14 true = #[true, true, true, true, true, true, true, true, true, true, true, true, true, false, true, false, false, false] from rfl]
     exact fd_3ga hE p1 l1 c1 p2 l2 c2 p3 l3 c3 ga y1 X H1 H2 H3 GA NGA
   · refine Bars.cons rfl (fun KK hKK => ?_) ?_
     · go_simp
       refine hKK.out _ _ (fun _ => mkS.out _ (X.out.alloc _)) ?_
       clear hKK KK
       obtain ⟨y1, hya⟩ : ∃ ya, World.alloc y0 (.cells #[.int .i64 0, .int .i64 0, .string ⟨#[]⟩, .int .i64 0, .int .i64 0, .int .i64 0, .bool false, .bool false, .int .i64 0, .int .i64 0, .bool false, .bool false, .slice none 0 0] 26) = ya := ⟨_, rfl⟩
       obtain ⟨gb, hga⟩ : ∃ g, y0.heap.size = g := ⟨_, rfl⟩
       have E : Ext y0 y1 := by rw [← hya]; exact (Ext.refl _).alloc _
       have GB : Hid (BlkX y1 gb tz (.slice none 0 0)) := by rw [← hya, ← hga]; exact BlkX.top rfl (Ext.refl _)
       have NGB : Hid (N1 < gb) := by show _ < _; rw [← hga]; have h1 := HNW.out; have h2 := X.out.sz; omega
       rw [hya, hga]
       replace X : Hid (Ext W1 y1) := X.out.trans E
       replace H1 : Hid (IsL y1 (fun k => k ≠ gb) (.slice p1 l1 c1) t.l) := (H1.out.mono (fun k _ hs => by have h2 : k < gb := (by rw [← hga]; exact hs); show k ≠ gb; omega)).ext E
       replace H2 : Hid (IsL y1 (fun k => k ≠ gb) (.slice p2 l2 c2) f.l) := (H2.out.mono (fun k _ hs => by have h2 : k < gb := (by rw [← hga]; exact hs); show k ≠ gb; omega)).ext E
       replace H3 : Hid (IsL y1 (fun k => k ≠ gb) (.slice p3 l3 c3) t.l) := (H3.out.mono (fun k _ hs => by have h2 : k < gb := (by rw [← hga]; exact hs); show k ≠ gb; omega)).ext E
       clear E hya hga
       rw [show (#[true, true, true, true, true, true, true, true, true, true, true, true, true, false, false, false, false, false] : Array Bool).setIfInBounds 15 true = #[true, true, true, true, true, true, true, true, true, true, true, true, true, false, false, true, false, false] from rfl]
       exact fd_3gb hE p1 l1 c1 p2 l2 c2 p3 l3 c3 gb y1 X H1 H2 H3 GB NGB
     · exact Bars.nil

set_option maxRecDepth 100000 in
theorem fd_2gagb {u0 u1 u2 u3 u4 u7 u8 u9 u10 u13 u15 u19 u20 u22 u24 u25 u26 u27 u28 u29 u30 u31 u32 u33 u34 u35 u36 u37 u38 u39 u40 u41 u42 u43 u44 u45 u46 u47 u48 u49 u50 u51 u52 u53 u54 u55 : Value} {t f b : T} {pp : Option Addr} {ln cl : Nat} {o0 o1 : Int} {W1 : World} {N1 : Nat} {S : World → Prop} {Q : Exit → Act → World → Prop} (hE : fdE u0 u1 u2 u3 u4 u7 u8 u9 u10 u13 u15 u20 u22 u25 u26 u27 u28 u29 u30 u31 u32 u33 u34 u35 u36 u37 u38 u39 u40 u41 u42 u43 u44 u45 u46 u47 u48 u49 u50 u51 u52 u53 u54 u55 t f b pp ln cl o0 o1 W1 N1 S Q) (p1 : Option Addr) (l1 c1 : Nat) (p2 : Option Addr) (l2 c2 : Nat) (ga : Nat) (gb : Nat) (y0 : World) (X : Hid (Ext W1 y0)) (H1 : Hid (IsL y0 (fun k => k ≠ ga ∧ k ≠ gb) (.slice p1 l1 c1) t.l)) (H2 : Hid (IsL y0 (fun k => k ≠ ga ∧ k ≠ gb) (.slice p2 l2 c2) f.l)) (GA : Hid (BlkX y0 ga tz (.slice none 0 0))) (NGA : Hid (N1 < ga)) (GB : Hid (BlkX y0 gb tz (.slice none 0 0))) (NGB : Hid (N1 < gb)) (HD : Hid (ga ≠ gb)) :
   wpBar Try.prog .any fdO Q (fun _ => false) S 4 #[true, true, true, true, true, true, true, true, false, true, true, true, true, false, true, true, false, false] { tmps := #[u0, u1, u2, u3, u4, (.pointer (some ⟨ga, 0, none⟩)), (.pointer (some ⟨gb, 0, none⟩)), u7, u8, u9, u10, (.agg #[.int .i64 t.k, .int .i64 t.n, .string (bs t.s), .int .i64 t.e, .int .i64 t.r.1, .int .i64 t.r.2.1, .bool t.r.2.2.1, .bool t.r.2.2.2, .int .i64 t.q.1, .int .i64 t.q.2.1, .bool t.q.2.2.1, .bool t.q.2.2.2, .slice pp ln cl]), (.agg #[.int .i64 t.k, .int .i64 t.n, .string (bs t.s), .int .i64 t.e, .int .i64 t.r.1, .int .i64 t.r.2.1, .bool t.r.2.2.1, .bool t.r.2.2.2, .int .i64 t.q.1, .int .i64 t.q.2.1, .bool t.q.2.2.1, .bool t.q.2.2.2, .slice p1 l1 c1]), u13, (.int .i64 o0), u15, (.int .i64 o1), (.agg #[.int .i64 f.k, .int .i64 f.n, .string (bs f.s), .int .i64 f.e, .int .i64 f.r.1, .int .i64 f.r.2.1, .bool f.r.2.2.1, .bool f.r.2.2.2, .int .i64 f.q.1, .int .i64 f.q.2.1, .bool f.q.2.2.1, .bool f.q.2.2.2, .slice p2 l2 c2]), (.agg #[.int .i64 t.k, .int .i64 t.n, .string (bs t.s), .int .i64 t.e, .int .i64 t.r.1, .int .i64 t.r.2.1, .bool t.r.2.2.1, .bool t.r.2.2.2, .int .i64 t.q.1, .int .i64 t.q.2.1, .bool t.q.2.2.1, .bool t.q.2.2.2, .slice pp ln cl]), u19, u20, (.int .i64 o0), u22, (.int .i64 o1), u24, u25, u26, u27, u28, u29, u30, u31, u32, u33, u34, u35, u36, u37, u38, u39, u40, u41, u42, u43, u44, u45, u46, u47, u48, u49, u50, u51, u52, u53, u54, u55], defers := [] } y0 := by
 unfold fdO
 have hE2 := hE
 obtain ⟨HNW, mkS, OA, FOc, BAc, hdone⟩ := hE2
 refine bar_one (i := 8) (by kernel_rfl) rfl (fun KK hKK => ?_)
 go_simp
 go_wp2_with (go_at_call 14; refine Calls.mono (OA.out _ X.out) ?_; rintro e y1 ⟨lv3, rfl, hL3, E⟩; obtain ⟨p3, c3, hlv, hcl⟩ := hL3.form; obtain ⟨l3, hl3⟩ : ∃ l3, t.l.length = l3 := ⟨_, rfl⟩; rw [hl3] at hlv; subst hlv; have H3 : Hid (IsL y1 (fun k => k ≠ ga ∧ k ≠ gb) (.slice p3 l3 c3) t.l) := hL3.mono (fun k hk _ => by have hk2 : y0.heap.size ≤ k := hk; have q0 := GA.out.1; have q1 := GB.out.1; show k ≠ ga ∧ k ≠ gb; omega); clear hL3 hcl hl3; unfold aggX)
 replace X : Hid (Ext W1 y1) := X.out.trans E
 refine hKK.out _ _ (fun _ => mkS.out _ X.out) ?_
 clear hKK KK
 replace H1 := hxL H1 E
 replace H2 := hxL H2 E
 replace GA := hx13 GA E
 replace GB := hx13 GB E
 rw [show (#[true, true, true, true, true, true, true, true, false, true, true, true, true, false, true, true, false, false] : Array Bool).setIfInBounds 8 true = #[true, true, true, true, true, true, true, true, true, true, true, true, true, false, true, true, false, false] from rfl]
 exact fd_3gagb hE p1 l1 c1 p2 l2 c2 p3 l3 c3 ga gb y1 X H1 H2 H3 GA NGA GB NGB HD

set_option maxRecDepth 100000 in
theorem fd_2ga {u0 u1 u2 u3 u4 u6 u7 u8 u9 u10 u13 u15 u19 u20 u22 u24 u25 u26 u27 u28 u29 u30 u31 u32 u33 u34 u35 u36 u37 u38 u39 u40 u41 u42 u43 u44 u45 u46 u47 u48 u49 u50 u51 u52 u53 u54 u55 : Value} {t f b : T} {pp : Option Addr} {ln cl : Nat} {o0 o1 : Int} {W1 : World} {N1 : Nat} {S : World → Prop} {Q : Exit → Act → World → Prop} (hE : fdE u0 u1 u2 u3 u4 u7 u8 u9 u10 u13 u15 u20 u22 u25 u26 u27 u28 u29 u30 u31 u32 u33 u34 u35 u36 u37 u38 u39 u40 u41 u42 u43 u44 u45 u46 u47 u48 u49 u50 u51 u52 u53 u54 u55 t f b pp ln cl o0 o1 W1 N1 S Q) (p1 : Option Addr) (l1 c1 : Nat) (p2 : Option Addr) (l2 c2 : Nat) (ga : Nat) (y0 : World) (X : Hid (Ext W1 y0)) (H1 : Hid (IsL y0 (fun k => k ≠ ga) (.slice p1 l1 c1) t.l)) (H2 : Hid (IsL y0 (fun k => k ≠ ga) (.slice p2 l2 c2) f.l)) (GA : Hid (BlkX y0 ga tz (.slice none 0 0))) (NGA : Hid (N1 < ga)) :
   wpBar Try.prog .any fdO Q (fun _ => false) S 5 #[true, true, true, true, true, true, true, true, false, true, true, true, true, false, true, false, false, false] { tmps := #[u0, u1, u2, u3, u4, (.pointer (some ⟨ga, 0, none⟩)), u6, u7, u8, u9, u10, (.agg #[.int .i64 t.k, .int .i64 t.n, .string (bs t.s), .int .i64 t.e, .int .i64 t.r.1, .int .i64 t.r.2.1, .bool t.r.2.2.1, .bool t.r.2.2.2, .int .i64 t.q.1, .int .i64 t.q.2.1, .bool t.q.2.2.1, .bool t.q.2.2.2, .slice pp ln cl]), (.agg #[.int .i64 t.k, .int .i64 t.n, .string (bs t.s), .int .i64 t.e, .int .i64 t.r.1, .int .i64 t.r.2.1, .bool t.r.2.2.1, .bool t.r.2.2.2, .int .i64 t.q.1, .int .i64 t.q.2.1, .bool t.q.2.2.1, .bool t.q.2.2.2, .slice p1 l1 c1]), u13, (.int .i64 o0), u15, (.int .i64 o1), (.agg #[.int .i64 f.k, .int .i64 f.n, .string (bs f.s), .int .i64 f.e, .int .i64 f.r.1, .int .i64 f.r.2.1, .bool f.r.2.2.1, .bool f.r.2.2.2, .int .i64 f.q.1, .int .i64 f.q.2.1, .bool f.q.2.2.1, .bool f.q.2.2.2, .slice p2 l2 c2]), (.agg #[.int .i64 t.k, .int .i64 t.n, .string (bs t.s), .int .i64 t.e, .int .i64 t.r.1, .int .i64 t.r.2.1, .bool t.r.2.2.1, .bool t.r.2.2.2, .int .i64 t.q.1, .int .i64 t.q.2.1, .bool t.q.2.2.1, .bool t.q.2.2.2, .slice pp ln cl]), u19, u20, (.int .i64 o0), u22, (.int .i64 o1), u24, u25, u26, u27, u28, u29, u30, u31, u32, u33, u34, u35, u36, u37, u38, u39, u40, u41, u42, u43, u44, u45, u46, u47, u48, u49, u50, u51, u52, u53, u54, u55], defers := [] } y0 := by
 unfold fdO
 have hE2 := hE
 obtain ⟨HNW, mkS, OA, FOc, BAc, hdone⟩ := hE2
 refine bar_list (rs := [8, 15]) (by kernel_rfl) (by simp) ?_
 refine Bars.cons rfl (fun KK hKK => ?_) ?_
 · go_simp
   go_wp2_with (go_at_call 14; refine Calls.mono (OA.out _ X.out) ?_; rintro e y1 ⟨lv3, rfl, hL3, E⟩; obtain ⟨p3, c3, hlv, hcl⟩ := hL3.form; obtain ⟨l3, hl3⟩ : ∃ l3, t.l.length = l3 := ⟨_, rfl⟩; rw [hl3] at hlv; subst hlv; have H3 : Hid (IsL y1 (fun k => k ≠ ga) (.slice p3 l3 c3) t.l) := hL3.mono (fun k hk _ => by have hk2 : y0.heap.size ≤ k := hk; have q0 := GA.out.1; show k ≠ ga; omega); clear hL3 hcl hl3; unfold aggX)
   replace X : Hid (Ext W1 y1) := X.out.trans E
   refine hKK.out _ _ (fun _ => mkS.out _ X.out) ?_
   clear hKK KK
   replace H1 := hxL H1 E
   replace H2 := hxL H2 E
   replace GA := hx13 GA E
   rw [show (#[true, true, true, true, true, true, true, true, false, true, true, true, true, false, true, false, false, false] : Array Bool).setIfInBounds 8 true = #[true, true, true, true, true, true, true, true, true, true, true, true, true, false, true, false, false, false] from rfl]
   exact fd_3ga hE p1 l1 c1 p2 l2 c2 p3 l3 c3 ga y1 X H1 H2 H3 GA NGA
 · refine Bars.cons rfl (fun KK hKK => ?_) ?_
   · go_simp
     refine hKK.out _ _ (fun _ => mkS.out _ (X.out.alloc _)) ?_
     clear hKK KK
     obtain ⟨y1, hya⟩ : ∃ ya, World.alloc y0 (.cells #[.int .i64 0, .int .i64 0, .string ⟨#[]⟩, .int .i64 0, .int .i64 0, .int .i64 0, .bool false, .bool false, .int .i64 0, .int .i64 0, .bool false, .bool false, .slice none 0 0] 26) = ya := ⟨_, rfl⟩
     obtain ⟨gb, hga⟩ : ∃ g, y0.heap.size = g := ⟨_, rfl⟩
     have E : Ext y0 y1 := by rw [← hya]; exact (Ext.refl _).alloc _
     have GB : Hid (BlkX y1 gb tz (.slice none 0 0)) := by rw [← hya, ← hga]; exact BlkX.top rfl (Ext.refl _)
     have NGB : Hid (N1 < gb) := by show _ < _; rw [← hga]; have h1 := HNW.out; have h2 := X.out.sz; omega
     have HD : Hid (ga ≠ gb) := by show _ ≠ _; have := GA.out.1; rw [hga] at this; omega
     rw [hya, hga]
     replace X : Hid (Ext W1 y1) := X.out.trans E
     replace H1 : Hid (IsL y1 (fun k => k ≠ ga ∧ k ≠ gb) (.slice p1 l1 c1) t.l) := (H1.out.mono (fun k hk hs => by have h2 : k < gb := (by rw [← hga]; exact hs); have h3 : k ≠ ga := hk; show k ≠ ga ∧ k ≠ gb; omega)).ext E
     replace H2 : Hid (IsL y1 (fun k => k ≠ ga ∧ k ≠ gb) (.slice p2 l2 c2) f.l) := (H2.out.mono (fun k hk hs => by have h2 : k < gb := (by rw [← hga]; exact hs); have h3 : k ≠ ga := hk; show k ≠ ga ∧ k ≠ gb; omega)).ext E
     replace GA := hx13 GA E
     clear E hya hga
     rw [show (#[true, true, true, true, true, true, true, true, false, true, true, true, true, false, true, false, false, false] : Array Bool).setIfInBounds 15 true = #[true, true, true, true, true, true, true, true, false, true, true, true, true, false, true, true, false, false] from rfl]
     exact fd_2gagb hE p1 l1 c1 p2 l2 c2 ga gb y1 X H1 H2 GA NGA GB NGB HD
   · exact Bars.nil

set_option maxRecDepth 100000 in
theorem fd_2gb {u0 u1 u2 u3 u4 u5 u7 u8 u9 u10 u13 u15 u19 u20 u22 u24 u25 u26 u27 u28 u29 u30 u31 u32 u33 u34 u35 u36 u37 u38 u39 u40 u41 u42 u43 u44 u45 u46 u47 u48 u49 u50 u51 u52 u53 u54 u55 : Value} {t f b : T} {pp : Option Addr} {ln cl : Nat} {o0 o1 : Int} {W1 : World} {N1 : Nat} {S : World → Prop} {Q : Exit → Act → World → Prop} (hE : fdE u0 u1 u2 u3 u4 u7 u8 u9 u10 u13 u15 u20 u22 u25 u26 u27 u28 u29 u30 u31 u32 u33 u34 u35 u36 u37 u38 u39 u40 u41 u42 u43 u44 u45 u46 u47 u48 u49 u50 u51 u52 u53 u54 u55 t f b pp ln cl o0 o1 W1 N1 S Q) (p1 : Option Addr) (l1 c1 : Nat) (p2 : Option Addr) (l2 c2 : Nat) (gb : Nat) (y0 : World) (X : Hid (Ext W1 y0)) (H1 : Hid (IsL y0 (fun k => k ≠ gb) (.slice p1 l1 c1) t.l)) (H2 : Hid (IsL y0 (fun k => k ≠ gb) (.slice p2 l2 c2) f.l)) (GB : Hid (BlkX y0 gb tz (.slice none 0 0))) (NGB : Hid (N1 < gb)) :
   wpBar Try.prog .any fdO Q (fun _ => false) S 5 #[true, true, true, true, true, true, true, true, false, true, true, true, true, false, false, true, false, false] { tmps := #[u0, u1, u2, u3, u4, u5, (.pointer (some ⟨gb, 0, none⟩)), u7, u8, u9, u10, (.agg #[.int .i64 t.k, .int .i64 t.n, .string (bs t.s), .int .i64 t.e, .int .i64 t.r.1, .int .i64 t.r.2.1, .bool t.r.2.2.1, .bool t.r.2.2.2, .int .i64 t.q.1, .int .i64 t.q.2.1, .bool t.q.2.2.1, .bool t.q.2.2.2, .slice pp ln cl]), (.agg #[.int .i64 t.k, .int .i64 t.n, .string (bs t.s), .int .i64 t.e, .int .i64 t.r.1, .int .i64 t.r.2.1, .bool t.r.2.2.1, .bool t.r.2.2.2, .int .i64 t.q.1, .int .i64 t.q.2.1, .bool t.q.2.2.1, .bool t.q.2.2.2, .slice p1 l1 c1]), u13, (.int .i64 o0), u15, (.int .i64 o1), (.agg #[.int .i64 f.k, .int .i64 f.n, .string (bs f.s), .int .i64 f.e, .int .i64 f.r.1, .int .i64 f.r.2.1, .bool f.r.2.2.1, .bool f.r.2.2.2, .int .i64 f.q.1, .int .i64 f.q.2.1, .bool f.q.2.2.1, .bool f.q.2.2.2, .slice p2 l2 c2]), (.agg #[.int .i64 t.k, .int .i64 t.n, .string (bs t.s), .int .i64 t.e, .int .i64 t.r.1, .int .i64 t.r.2.1, .bool t.r.2.2.1, .bool t.r.2.2.2, .int .i64 t.q.1, .int .i64 t.q.2.1, .bool t.q.2.2.1, .bool t.q.2.2.2, .slice pp ln cl]), u19, u20, (.int .i64 o0), u22, (.int .i64 o1), u24, u25, u26, u27, u28, u29, u30, u31, u32, u33, u34, u35, u36, u37, u38, u39, u40, u41, u42, u43, u44, u45, u46, u47, u48, u49, u50, u51, u52, u53, u54, u55], defers := [] } y0 := by
 unfold fdO
 have hE2 := hE
 obtain ⟨HNW, mkS, OA, FOc, BAc, hdone⟩ := hE2
 refine bar_list (rs := [8, 14]) (by kernel_rfl) (by simp) ?_
 refine Bars.cons rfl (fun KK hKK => ?_) ?_
 · go_simp
   go_wp2_with (go_at_call 14; refine Calls.mono (OA.out _ X.out) ?_; rintro e y1 ⟨lv3, rfl, hL3, E⟩; obtain ⟨p3, c3, hlv, hcl⟩ := hL3.form; obtain ⟨l3, hl3⟩ : ∃ l3, t.l.length = l3 := ⟨_, rfl⟩; rw [hl3] at hlv; subst hlv; have H3 : Hid (IsL y1 (fun k => k ≠ gb) (.slice p3 l3 c3) t.l) := hL3.mono (fun k hk _ => by have hk2 : y0.heap.size ≤ k := hk; have q0 := GB.out.1; show k ≠ gb; omega); clear hL3 hcl hl3; unfold aggX)
   replace X : Hid (Ext W1 y1) := X.out.trans E
   refine hKK.out _ _ (fun _ => mkS.out _ X.out) ?_
   clear hKK KK
   replace H1 := hxL H1 E
   replace H2 := hxL H2 E
   replace GB := hx13 GB E
   rw [show (#[true, true, true, true, true, true, true, true, false, true, true, true, true, false, false, true, false, false] : Array Bool).setIfInBounds 8 true = #[true, true, true, true, true, true, true, true, true, true, true, true, true, false, false, true, false, false] from rfl]
   exact fd_3gb hE p1 l1 c1 p2 l2 c2 p3 l3 c3 gb y1 X H1 H2 H3 GB NGB
 · refine Bars.cons rfl (fun KK hKK => ?_) ?_
   · go_simp
     refine hKK.out _ _ (fun _ => mkS.out _ (X.out.alloc _)) ?_
     clear hKK KK
     obtain ⟨y1, hya⟩ : ∃ ya, World.alloc y0 (.cells #[.int .i64 0, .int .i64 0, .string ⟨#[]⟩, .int .i64 0, .int .i64 0, .int .i64 0, .bool false, .bool false, .int .i64 0, .int .i64 0, .bool false, .bool false, .slice none 0 0] 26) = ya := ⟨_, rfl⟩
     obtain ⟨ga, hga⟩ : ∃ g, y0.heap.size = g := ⟨_, rfl⟩
     have E : Ext y0 y1 := by rw [← hya]; exact (Ext.refl _).alloc _
     have GA : Hid (BlkX y1 ga tz (.slice none 0 0)) := by rw [← hya, ← hga]; exact BlkX.top rfl (Ext.refl _)
     have NGA : Hid (N1 < ga) := by show _ < _; rw [← hga]; have h1 := HNW.out; have h2 := X.out.sz; omega
     have HD : Hid (ga ≠ gb) := by show _ ≠ _; have := GB.out.1; rw [hga] at this; omega
     rw [hya, hga]
     replace X : Hid (Ext W1 y1) := X.out.trans E
     replace H1 : Hid (IsL y1 (fun k => k ≠ ga ∧ k ≠ gb) (.slice p1 l1 c1) t.l) := (H1.out.mono (fun k hk hs => by have h2 : k < ga := (by rw [← hga]; exact hs); have h3 : k ≠ gb := hk; show k ≠ ga ∧ k ≠ gb; omega)).ext E
     replace H2 : Hid (IsL y1 (fun k => k ≠ ga ∧ k ≠ gb) (.slice p2 l2 c2) f.l) := (H2.out.mono (fun k hk hs => by have h2 : k < ga := (by rw [← hga]; exact hs); have h3 : k ≠ gb := hk; show k ≠ ga ∧ k ≠ gb; omega)).ext E
     replace GB := hx13 GB E
     clear E hya hga
     rw [show (#[true, true, true, true, true, true, true, true, false, true, true, true, true, false, false, true, false, false] : Array Bool).setIfInBounds 14 true = #[true, true, true, true, true, true, true, true, false, true, true, true, true, false, true, true, false, false] from rfl]
     exact fd_2gagb hE p1 l1 c1 p2 l2 c2 ga gb y1 X H1 H2 GA NGA GB NGB HD
   · exact Bars.nil

set_option maxRecDepth 100000 in
theorem fd_2 {u0 u1 u2 u3 u4 u5 u6 u7 u8 u9 u10 u13 u15 u19 u20 u22 u24 u25 u26 u27 u28 u29 u30 u31 u32 u33 u34 u35 u36 u37 u38 u39 u40 u41 u42 u43 u44 u45 u46 u47 u48 u49 u50 u51 u52 u53 u54 u55 : Value} {t f b : T} {pp : Option Addr} {ln cl : Nat} {o0 o1 : Int} {W1 : World} {N1 : Nat} {S : World → Prop} {Q : Exit → Act → World → Prop} (hE : fdE u0 u1 u2 u3 u4 u7 u8 u9 u10 u13 u15 u20 u22 u25 u26 u27 u28 u29 u30 u31 u32 u33 u34 u35 u36 u37 u38 u39 u40 u41 u42 u43 u44 u45 u46 u47 u48 u49 u50 u51 u52 u53 u54 u55 t f b pp ln cl o0 o1 W1 N1 S Q) (p1 : Option Addr) (l1 c1 : Nat) (p2 : Option Addr) (l2 c2 : Nat)  (y0 : World) (X : Hid (Ext W1 y0)) (H1 : Hid (IsL y0 (fun _ => True) (.slice p1 l1 c1) t.l)) (H2 : Hid (IsL y0 (fun _ => True) (.slice p2 l2 c2) f.l)) :
   wpBar Try.prog .any fdO Q (fun _ => false) S 6 #[true, true, true, true, true, true, true, true, false, true, true, true, true, false, false, false, false, false] { tmps := #[u0, u1, u2, u3, u4, u5, u6, u7, u8, u9, u10, (.agg #[.int .i64 t.k, .int .i64 t.n, .string (bs t.s), .int .i64 t.e, .int .i64 t.r.1, .int .i64 t.r.2.1, .bool t.r.2.2.1, .bool t.r.2.2.2, .int .i64 t.q.1, .int .i64 t.q.2.1, .bool t.q.2.2.1, .bool t.q.2.2.2, .slice pp ln cl]), (.agg #[.int .i64 t.k, .int .i64 t.n, .string (bs t.s), .int .i64 t.e, .int .i64 t.r.1, .int .i64 t.r.2.1, .bool t.r.2.2.1, .bool t.r.2.2.2, .int .i64 t.q.1, .int .i64 t.q.2.1, .bool t.q.2.2.1, .bool t.q.2.2.2, .slice p1 l1 c1]), u13, (.int .i64 o0), u15, (.int .i64 o1), (.agg #[.int .i64 f.k, .int .i64 f.n, .string (bs f.s), .int .i64 f.e, .int .i64 f.r.1, .int .i64 f.r.2.1, .bool f.r.2.2.1, .bool f.r.2.2.2, .int .i64 f.q.1, .int .i64 f.q.2.1, .bool f.q.2.2.1, .bool f.q.2.2.2, .slice p2 l2 c2]), (.agg #[.int .i64 t.k, .int .i64 t.n, .string (bs t.s), .int .i64 t.e, .int .i64 t.r.1, .int .i64 t.r.2.1, .bool t.r.2.2.1, .bool t.r.2.2.2, .int .i64 t.q.1, .int .i64 t.q.2.1, .bool t.q.2.2.1, .bool t.q.2.2.2, .slice pp ln cl]), u19, u20, (.int .i64 o0), u22, (.int .i64 o1), u24, u25, u26, u27, u28, u29, u30, u31, u32, u33, u34, u35, u36, u37, u38, u39, u40, u41, u42, u43, u44, u45, u46, u47, u48, u49, u50, u51, u52, u53, u54, u55], defers := [] } y0 := by
 unfold fdO
 have hE2 := hE
 obtain ⟨HNW, mkS, OA, FOc, BAc, hdone⟩ := hE2
 refine bar_list (rs := [8, 14, 15]) (by kernel_rfl) (by simp) ?_
 refine Bars.cons rfl (fun KK hKK => ?_) ?_
 · go_simp
   go_wp2_with (go_at_call 14; refine Calls.mono (OA.out _ X.out) ?_; rintro e y1 ⟨lv3, rfl, hL3, E⟩; obtain ⟨p3, c3, hlv, hcl⟩ := hL3.form; obtain ⟨l3, hl3⟩ : ∃ l3, t.l.length = l3 := ⟨_, rfl⟩; rw [hl3] at hlv; subst hlv; have H3 : Hid (IsL y1 (fun _ => True) (.slice p3 l3 c3) t.l) := hL3.mono (fun _ _ _ => trivial); clear hL3 hcl hl3; unfold aggX)
   replace X : Hid (Ext W1 y1) := X.out.trans E
   refine hKK.out _ _ (fun _ => mkS.out _ X.out) ?_
   clear hKK KK
   replace H1 := hxL H1 E
   replace H2 := hxL H2 E
   rw [show (#[true, true, true, true, true, true, true, true, false, true, true, true, true, false, false, false, false, false] : Array Bool).setIfInBounds 8 true = #[true, true, true, true, true, true, true, true, true, true, true, true, true, false, false, false, false, false] from rfl]
   exact fd_3 hE p1 l1 c1 p2 l2 c2 p3 l3 c3  y1 X H1 H2 H3
 · refine Bars.cons rfl (fun KK hKK => ?_) ?_
   · go_simp
     refine hKK.out _ _ (fun _ => mkS.out _ (X.out.alloc _)) ?_
     clear hKK KK
     obtain ⟨y1, hya⟩ : ∃ ya, World.alloc y0 (.cells #[.int .i64 0, .int .i64 0, .string ⟨#[]⟩, .int .i64 0, .int .i64 0, .int .i64 0, .bool false, .bool false, .int .i64 0, .int .i64 0, .bool false, .bool false, .slice none 0 0] 26) = ya := ⟨_, rfl⟩
     obtain ⟨ga, hga⟩ : ∃ g, y0.heap.size = g := ⟨_, rfl⟩
     have E : Ext y0 y1 := by rw [← hya]; exact (Ext.refl _).alloc _
     have GA : Hid (BlkX y1 ga tz (.slice none 0 0)) := by rw [← hya, ← hga]; exact BlkX.top rfl (Ext.refl _)
     have NGA : Hid (N1 < ga) := by show _ < _; rw [← hga]; have h1 := HNW.out; have h2 := X.out.sz; omega
     rw [hya, hga]
     replace X : Hid (Ext W1 y1) := X.out.trans E
     replace H1 : Hid (IsL y1 (fun k => k ≠ ga) (.slice p1 l1 c1) t.l) := (H1.out.mono (fun k _ hs => by have h2 : k < ga := (by rw [← hga]; exact hs); show k ≠ ga; omega)).ext E
     replace H2 : Hid (IsL y1 (fun k => k ≠ ga) (.slice p2 l2 c2) f.l) := (H2.out.mono (fun k _ hs => by have h2 : k < ga := (by rw [← hga]; exact hs); show k ≠ ga; omega)).ext E
     clear E hya hga
     rw [show (#[true, true, true, true, true, true, true, true, false, true, true, true, true, false, false, false, false, false] : Array Bool).setIfInBounds 14 true = #[true, true, true, true, true, true, true, true, false, true, true, true, true, false, true, false, false, false] from rfl]
     exact fd_2ga hE p1 l1 c1 p2 l2 c2 ga y1 X H1 H2 GA NGA
   · refine Bars.cons rfl (fun KK hKK => ?_) ?_
     · go_simp
       refine hKK.out _ _ (fun _ => mkS.out _ (X.out.alloc _)) ?_
       clear hKK KK
       obtain ⟨y1, hya⟩ : ∃ ya, World.alloc y0 (.cells #[.int .i64 0, .int .i64 0, .string ⟨#[]⟩, .int .i64 0, .int .i64 0, .int .i64 0, .bool false, .bool false, .int .i64 0, .int .i64 0, .bool false, .bool false, .slice none 0 0] 26) = ya := ⟨_, rfl⟩
       obtain ⟨gb, hga⟩ : ∃ g, y0.heap.size = g := ⟨_, rfl⟩
       have E : Ext y0 y1 := by rw [← hya]; exact (Ext.refl _).alloc _
       have GB : Hid (BlkX y1 gb tz (.slice none 0 0)) := by rw [← hya, ← hga]; exact BlkX.top rfl (Ext.refl _)
       have NGB : Hid (N1 < gb) := by show _ < _; rw [← hga]; have h1 := HNW.out; have h2 := X.out.sz; omega
       rw [hya, hga]
       replace X : Hid (Ext W1 y1) := X.out.trans E
       replace H1 : Hid (IsL y1 (fun k => k ≠ gb) (.slice p1 l1 c1) t.l) := (H1.out.mono (fun k _ hs => by have h2 : k < gb := (by rw [← hga]; exact hs); show k ≠ gb; omega)).ext E
       replace H2 : Hid (IsL y1 (fun k => k ≠ gb) (.slice p2 l2 c2) f.l) := (H2.out.mono (fun k _ hs => by have h2 : k < gb := (by rw [← hga]; exact hs); show k ≠ gb; omega)).ext E
       clear E hya hga
       rw [show (#[true, true, true, true, true, true, true, true, false, true, true, true, true, false, false, false, false, false] : Array Bool).setIfInBounds 15 true = #[true, true, true, true, true, true, true, true, false, true, true, true, true, false, false, true, false, false] from rfl]
       exact fd_2gb hE p1 l1 c1 p2 l2 c2 gb y1 X H1 H2 GB NGB
     · exact Bars.nil

set_option maxRecDepth 100000 in
theorem fd_1gagb {u0 u1 u2 u3 u4 u7 u8 u9 u10 u13 u15 u17 u19 u20 u22 u24 u25 u26 u27 u28 u29 u30 u31 u32 u33 u34 u35 u36 u37 u38 u39 u40 u41 u42 u43 u44 u45 u46 u47 u48 u49 u50 u51 u52 u53 u54 u55 : Value} {t f b : T} {pp : Option Addr} {ln cl : Nat} {o0 o1 : Int} {W1 : World} {N1 : Nat} {S : World → Prop} {Q : Exit → Act → World → Prop} (hE : fdE u0 u1 u2 u3 u4 u7 u8 u9 u10 u13 u15 u20 u22 u25 u26 u27 u28 u29 u30 u31 u32 u33 u34 u35 u36 u37 u38 u39 u40 u41 u42 u43 u44 u45 u46 u47 u48 u49 u50 u51 u52 u53 u54 u55 t f b pp ln cl o0 o1 W1 N1 S Q) (p1 : Option Addr) (l1 c1 : Nat) (ga : Nat) (gb : Nat) (y0 : World) (X : Hid (Ext W1 y0)) (H1 : Hid (IsL y0 (fun k => k ≠ ga ∧ k ≠ gb) (.slice p1 l1 c1) t.l)) (GA : Hid (BlkX y0 ga tz (.slice none 0 0))) (NGA : Hid (N1 < ga)) (GB : Hid (BlkX y0 gb tz (.slice none 0 0))) (NGB : Hid (N1 < gb)) (HD : Hid (ga ≠ gb)) :
   wpBar Try.prog .any fdO Q (fun _ => false) S 5 #[true, true, true, true, true, true, false, true, false, true, true, true, true, false, true, true, false, false] { tmps := #[u0, u1, u2, u3, u4, (.pointer (some ⟨ga, 0, none⟩)), (.pointer (some ⟨gb, 0, none⟩)), u7, u8, u9, u10, (.agg #[.int .i64 t.k, .int .i64 t.n, .string (bs t.s), .int .i64 t.e, .int .i64 t.r.1, .int .i64 t.r.2.1, .bool t.r.2.2.1, .bool t.r.2.2.2, .int .i64 t.q.1, .int .i64 t.q.2.1, .bool t.q.2.2.1, .bool t.q.2.2.2, .slice pp ln cl]), (.agg #[.int .i64 t.k, .int .i64 t.n, .string (bs t.s), .int .i64 t.e, .int .i64 t.r.1, .int .i64 t.r.2.1, .bool t.r.2.2.1, .bool t.r.2.2.2, .int .i64 t.q.1, .int .i64 t.q.2.1, .bool t.q.2.2.1, .bool t.q.2.2.2, .slice p1 l1 c1]), u13, (.int .i64 o0), u15, (.int .i64 o1), u17, (.agg #[.int .i64 t.k, .int .i64 t.n, .string (bs t.s), .int .i64 t.e, .int .i64 t.r.1, .int .i64 t.r.2.1, .bool t.r.2.2.1, .bool t.r.2.2.2, .int .i64 t.q.1, .int .i64 t.q.2.1, .bool t.q.2.2.1, .bool t.q.2.2.2, .slice pp ln cl]), u19, u20, (.int .i64 o0), u22, (.int .i64 o1), u24, u25, u26, u27, u28, u29, u30, u31, u32, u33, u34, u35, u36, u37, u38, u39, u40, u41, u42, u43, u44, u45, u46, u47, u48, u49, u50, u51, u52, u53, u54, u55], defers := [] } y0 := by
 unfold fdO
 have hE2 := hE
 obtain ⟨HNW, mkS, OA, FOc, BAc, hdone⟩ := hE2
 refine bar_one (i := 6) (by kernel_rfl) rfl (fun KK hKK => ?_)
 go_simp
 go_wp2_with (go_at_call 13; refine Calls.mono (FOc.out _ p1 l1 c1 (H1.out.mono (fun _ _ _ => trivial))) ?_; rintro e y1 ⟨p2, l2, c2, rfl, hL2, E⟩; have H2 : Hid (IsL y1 (fun k => k ≠ ga ∧ k ≠ gb) (.slice p2 l2 c2) f.l) := hL2.mono (fun k hk _ => by have hk2 : y0.heap.size ≤ k := hk; have q0 := GA.out.1; have q1 := GB.out.1; show k ≠ ga ∧ k ≠ gb; omega); clear hL2; unfold aggX)
 replace X : Hid (Ext W1 y1) := X.out.trans E
 refine hKK.out _ _ (fun _ => mkS.out _ X.out) ?_
 clear hKK KK
 replace H1 := hxL H1 E
 replace GA := hx13 GA E
 replace GB := hx13 GB E
 rw [show (#[true, true, true, true, true, true, false, true, false, true, true, true, true, false, true, true, false, false] : Array Bool).setIfInBounds 6 true = #[true, true, true, true, true, true, true, true, false, true, true, true, true, false, true, true, false, false] from rfl]
 exact fd_2gagb hE p1 l1 c1 p2 l2 c2 ga gb y1 X H1 H2 GA NGA GB NGB HD

set_option maxRecDepth 100000 in
theorem fd_1ga {u0 u1 u2 u3 u4 u6 u7 u8 u9 u10 u13 u15 u17 u19 u20 u22 u24 u25 u26 u27 u28 u29 u30 u31 u32 u33 u34 u35 u36 u37 u38 u39 u40 u41 u42 u43 u44 u45 u46 u47 u48 u49 u50 u51 u52 u53 u54 u55 : Value} {t f b : T} {pp : Option Addr} {ln cl : Nat} {o0 o1 : Int} {W1 : World} {N1 : Nat} {S : World → Prop} {Q : Exit → Act → World → Prop} (hE : fdE u0 u1 u2 u3 u4 u7 u8 u9 u10 u13 u15 u20 u22 u25 u26 u27 u28 u29 u30 u31 u32 u33 u34 u35 u36 u37 u38 u39 u40 u41 u42 u43 u44 u45 u46 u47 u48 u49 u50 u51 u52 u53 u54 u55 t f b pp ln cl o0 o1 W1 N1 S Q) (p1 : Option Addr) (l1 c1 : Nat) (ga : Nat) (y0 : World) (X : Hid (Ext W1 y0)) (H1 : Hid (IsL y0 (fun k => k ≠ ga) (.slice p1 l1 c1) t.l)) (GA : Hid (BlkX y0 ga tz (.slice none 0 0))) (NGA : Hid (N1 < ga)) :
   wpBar Try.prog .any fdO Q (fun _ => false) S 6 #[true, true, true, true, true, true, false, true, false, true, true, true, true, false, true, false, false, false] { tmps := #[u0, u1, u2, u3, u4, (.pointer (some ⟨ga, 0, none⟩)), u6, u7, u8, u9, u10, (.agg #[.int .i64 t.k, .int .i64 t.n, .string (bs t.s), .int .i64 t.e, .int .i64 t.r.1, .int .i64 t.r.2.1, .bool t.r.2.2.1, .bool t.r.2.2.2, .int .i64 t.q.1, .int .i64 t.q.2.1, .bool t.q.2.2.1, .bool t.q.2.2.2, .slice pp ln cl]), (.agg #[.int .i64 t.k, .int .i64 t.n, .string (bs t.s), .int .i64 t.e, .int .i64 t.r.1, .int .i64 t.r.2.1, .bool t.r.2.2.1, .bool t.r.2.2.2, .int .i64 t.q.1, .int .i64 t.q.2.1, .bool t.q.2.2.1, .bool t.q.2.2.2, .slice p1 l1 c1]), u13, (.int .i64 o0), u15, (.int .i64 o1), u17, (.agg #[.int .i64 t.k, .int .i64 t.n, .string (bs t.s), .int .i64 t.e, .int .i64 t.r.1, .int .i64 t.r.2.1, .bool t.r.2.2.1, .bool t.r.2.2.2, .int .i64 t.q.1, .int .i64 t.q.2.1, .bool t.q.2.2.1, .bool t.q.2.2.2, .slice pp ln cl]), u19, u20, (.int .i64 o0), u22, (.int .i64 o1), u24, u25, u26, u27, u28, u29, u30, u31, u32, u33, u34, u35, u36, u37, u38, u39, u40, u41, u42, u43, u44, u45, u46, u47, u48, u49, u50, u51, u52, u53, u54, u55], defers := [] } y0 := by
 unfold fdO
 have hE2 := hE
 obtain ⟨HNW, mkS, OA, FOc, BAc, hdone⟩ := hE2
 refine bar_list (rs := [6, 15]) (by kernel_rfl) (by simp) ?_
 refine Bars.cons rfl (fun KK hKK => ?_) ?_
 · go_simp
   go_wp2_with (go_at_call 13; refine Calls.mono (FOc.out _ p1 l1 c1 (H1.out.mono (fun _ _ _ => trivial))) ?_; rintro e y1 ⟨p2, l2, c2, rfl, hL2, E⟩; have H2 : Hid (IsL y1 (fun k => k ≠ ga) (.slice p2 l2 c2) f.l) := hL2.mono (fun k hk _ => by have hk2 : y0.heap.size ≤ k := hk; have q0 := GA.out.1; show k ≠ ga; omega); clear hL2; unfold aggX)
   replace X : Hid (Ext W1 y1) := X.out.trans E
   refine hKK.out _ _ (fun _ => mkS.out _ X.out) ?_
   clear hKK KK
   replace H1 := hxL H1 E
   replace GA := hx13 GA E
   rw [show (#[true, true, true, true, true, true, false, true, false, true, true, true, true, false, true, false, false, false] : Array Bool).setIfInBounds 6 true = #[true, true, true, true, true, true, true, true, false, true, true, true, true, false, true, false, false, false] from rfl]
   exact fd_2ga hE p1 l1 c1 p2 l2 c2 ga y1 X H1 H2 GA NGA
 · refine Bars.cons rfl (fun KK hKK => ?_) ?_
   · go_simp
     refine hKK.out _ _ (fun _ => mkS.out _ (X.out.alloc _)) ?_
     clear hKK KK
     obtain ⟨y1, hya⟩ : ∃ ya, World.alloc y0 (.cells #[.int .i64 0, .int .i64 0, .string ⟨#[]⟩, .int .i64 0, .int .i64 0, .int .i64 0, .bool false, .bool false, .int .i64 0, .int .i64 0, .bool false, .bool false, .slice none 0 0] 26) = ya := ⟨_, rfl⟩
     obtain ⟨gb, hga⟩ : ∃ g, y0.heap.size = g := ⟨_, rfl⟩
     have E : Ext y0 y1 := by rw [← hya]; exact (Ext.refl _).alloc _
     have GB : Hid (BlkX y1 gb tz (.slice none 0 0)) := by rw [← hya, ← hga]; exact BlkX.top rfl (Ext.refl _)
     have NGB : Hid (N1 < gb) := by show _ < _; rw [← hga]; have h1 := HNW.out; have h2 := X.out.sz; omega
     have HD : Hid (ga ≠ gb) := by show _ ≠ _; have := GA.out.1; rw [hga] at this; omega
     rw [hya, hga]
     replace X : Hid (Ext W1 y1) := X.out.trans E
     replace H1 : Hid (IsL y1 (fun k => k ≠ ga ∧ k ≠ gb) (.slice p1 l1 c1) t.l) := (H1.out.mono (fun k hk hs => by have h2 : k < gb := (by rw [← hga]; exact hs); have h3 : k ≠ ga := hk; show k ≠ ga ∧ k ≠ gb; omega)).ext E
     replace GA := hx13 GA E
     clear E hya hga
     rw [show (#[true, true, true, true, true, true, false, true, false, true, true, true, true, false, true, false, false, false] : Array Bool).setIfInBounds 15 true = #[true, true, true, true, true, true, false, true, false, true, true, true, true, false, true, true, false, false] from rfl]
     exact fd_1gagb hE p1 l1 c1 ga gb y1 X H1 GA NGA GB NGB HD
   · exact Bars.nil

set_option maxRecDepth 100000 in
theorem fd_1gb {u0 u1 u2 u3 u4 u5 u7 u8 u9 u10 u13 u15 u17 u19 u20 u22 u24 u25 u26 u27 u28 u29 u30 u31 u32 u33 u34 u35 u36 u37 u38 u39 u40 u41 u42 u43 u44 u45 u46 u47 u48 u49 u50 u51 u52 u53 u54 u55 : Value} {t f b : T} {pp : Option Addr} {ln cl : Nat} {o0 o1 : Int} {W1 : World} {N1 : Nat} {S : World → Prop} {Q : Exit → Act → World → Prop} (hE : fdE u0 u1 u2 u3 u4 u7 u8 u9 u10 u13 u15 u20 u22 u25 u26 u27 u28 u29 u30 u31 u32 u33 u34 u35 u36 u37 u38 u39 u40 u41 u42 u43 u44 u45 u46 u47 u48 u49 u50 u51 u52 u53 u54 u55 t f b pp ln cl o0 o1 W1 N1 S Q) (p1 : Option Addr) (l1 c1 : Nat) (gb : Nat) (y0 : World) (X : Hid (Ext W1 y0)) (H1 : Hid (IsL y0 (fun k => k ≠ gb) (.slice p1 l1 c1) t.l)) (GB : Hid (BlkX y0 gb tz (.slice none 0 0))) (NGB : Hid (N1 < gb)) :
   wpBar Try.prog .any fdO Q (fun _ => false) S 6 #[true, true, true, true, true, true, false, true, false, true, true, true, true, false, false, true, false, false] { tmps := #[u0, u1, u2, u3, u4, u5, (.pointer (some ⟨gb, 0, none⟩)), u7, u8, u9, u10, (.agg #[.int .i64 t.k, .int .i64 t.n, .string (bs t.s), .int .i64 t.e, .int .i64 t.r.1, .int .i64 t.r.2.1, .bool t.r.2.2.1, .bool t.r.2.2.2, .int .i64 t.q.1, .int .i64 t.q.2.1, .bool t.q.2.2.1, .bool t.q.2.2.2, .slice pp ln cl]), (.agg #[.int .i64 t.k, .int .i64 t.n, .string (bs t.s), .int .i64 t.e, .int .i64 t.r.1, .int .i64 t.r.2.1, .bool t.r.2.2.1, .bool t.r.2.2.2, .int .i64 t.q.1, .int .i64 t.q.2.1, .bool t.q.2.2.1, .bool t.q.2.2.2, .slice p1 l1 c1]), u13, (.int .i64 o0), u15, (.int .i64 o1), u17, (.agg #[.int .i64 t.k, .int .i64 t.n, .string (bs t.s), .int .i64 t.e, .int .i64 t.r.1, .int .i64 t.r.2.1, .bool t.r.2.2.1, .bool t.r.2.2.2, .int .i64 t.q.1, .int .i64 t.q.2.1, .bool t.q.2.2.1, .bool t.q.2.2.2, .slice pp ln cl]), u19, u20, (.int .i64 o0), u22, (.int .i64 o1), u24, u25, u26, u27, u28, u29, u30, u31, u32, u33, u34, u35, u36, u37, u38, u39, u40, u41, u42, u43, u44, u45, u46, u47, u48, u49, u50, u51, u52, u53, u54, u55], defers := [] } y0 := by
 unfold fdO
 have hE2 := hE
 obtain ⟨HNW, mkS, OA, FOc, BAc, hdone⟩ := hE2
 refine bar_list (rs := [6, 14]) (by kernel_rfl) (by simp) ?_
 refine Bars.cons rfl (fun KK hKK => ?_) ?_
 · go_simp
   go_wp2_with (go_at_call 13; refine Calls.mono (FOc.out _ p1 l1 c1 (H1.out.mono (fun _ _ _ => trivial))) ?_; rintro e y1 ⟨p2, l2, c2, rfl, hL2, E⟩; have H2 : Hid (IsL y1 (fun k => k ≠ gb) (.slice p2 l2 c2) f.l) := hL2.mono (fun k hk _ => by have hk2 : y0.heap.size ≤ k := hk; have q0 := GB.out.1; show k ≠ gb; omega); clear hL2; unfold aggX)
   replace X : Hid (Ext W1 y1) := X.out.trans E
   refine hKK.out _ _ (fun _ => mkS.out _ X.out) ?_
   clear hKK KK
   replace H1 := hxL H1 E
   replace GB := hx13 GB E
   rw [show (#[true, true, true, true, true, true, false, true, false, true, true, true, true, false, false, true, false, false] : Array Bool).setIfInBounds 6 true = #[true, true, true, true, true, true, true, true, false, true, true, true, true, false, false, true, false, false] from rfl]
   exact fd_2gb hE p1 l1 c1 p2 l2 c2 gb y1 X H1 H2 GB NGB
 · refine Bars.cons rfl (fun KK hKK => ?_) ?_
   · go_simp
     refine hKK.out _ _ (fun _ => mkS.out _ (X.out.alloc _)) ?_
     clear hKK KK
     obtain ⟨y1, hya⟩ : ∃ ya, World.alloc y0 (.cells #[.int .i64 0, .int .i64 0, .string ⟨#[]⟩, .int .i64 0, .int .i64 0, .int .i64 0, .bool false, .bool false, .int .i64 0, .int .i64 0, .bool false, .bool false, .slice none 0 0] 26) = ya := ⟨_, rfl⟩
     obtain ⟨ga, hga⟩ : ∃ g, y0.heap.size = g := ⟨_, rfl⟩
     have E : Ext y0 y1 := by rw [← hya]; exact (Ext.refl _).alloc _
     have GA : Hid (BlkX y1 ga tz (.slice none 0 0)) := by rw [← hya, ← hga]; exact BlkX.top rfl (Ext.refl _)
     have NGA : Hid (N1 < ga) := by show _ < _; rw [← hga]; have h1 := HNW.out; have h2 := X.out.sz; omega
     have HD : Hid (ga ≠ gb) := by show _ ≠ _; have := GB.out.1; rw [hga] at this; omega
     rw [hya, hga]
     replace X : Hid (Ext W1 y1) := X.out.trans E
     replace H1 : Hid (IsL y1 (fun k => k ≠ ga ∧ k ≠ gb) (.slice p1 l1 c1) t.l) := (H1.out.mono (fun k hk hs => by have h2 : k < ga := (by rw [← hga]; exact hs); have h3 : k ≠ gb := hk; show k ≠ ga ∧ k ≠ gb; omega)).ext E
     replace GB := hx13 GB E
     clear E hya hga
     rw [show (#[true, true, true, true, true, true, false, true, false, true, true, true, true, false, false, true, false, false] : Array Bool).setIfInBounds 14 true = #[true, true, true, true, true, true, false, true, false, true, true, true, true, false, true, true, false, false] from rfl]
     exact fd_1gagb hE p1 l1 c1 ga gb y1 X H1 GA NGA GB NGB HD
   · exact Bars.nil

set_option maxRecDepth 100000 in
theorem fd_1 {u0 u1 u2 u3 u4 u5 u6 u7 u8 u9 u10 u13 u15 u17 u19 u20 u22 u24 u25 u26 u27 u28 u29 u30 u31 u32 u33 u34 u35 u36 u37 u38 u39 u40 u41 u42 u43 u44 u45 u46 u47 u48 u49 u50 u51 u52 u53 u54 u55 : Value} {t f b : T} {pp : Option Addr} {ln cl : Nat} {o0 o1 : Int} {W1 : World} {N1 : Nat} {S : World → Prop} {Q : Exit → Act → World → Prop} (hE : fdE u0 u1 u2 u3 u4 u7 u8 u9 u10 u13 u15 u20 u22 u25 u26 u27 u28 u29 u30 u31 u32 u33 u34 u35 u36 u37 u38 u39 u40 u41 u42 u43 u44 u45 u46 u47 u48 u49 u50 u51 u52 u53 u54 u55 t f b pp ln cl o0 o1 W1 N1 S Q) (p1 : Option Addr) (l1 c1 : Nat)  (y0 : World) (X : Hid (Ext W1 y0)) (H1 : Hid (IsL y0 (fun _ => True) (.slice p1 l1 c1) t.l)) :
   wpBar Try.prog .any fdO Q (fun _ => false) S 7 #[true, true, true, true, true, true, false, true, false, true, true, true, true, false, false, false, false, false] { tmps := #[u0, u1, u2, u3, u4, u5, u6, u7, u8, u9, u10, (.agg #[.int .i64 t.k, .int .i64 t.n, .string (bs t.s), .int .i64 t.e, .int .i64 t.r.1, .int .i64 t.r.2.1, .bool t.r.2.2.1, .bool t.r.2.2.2, .int .i64 t.q.1, .int .i64 t.q.2.1, .bool t.q.2.2.1, .bool t.q.2.2.2, .slice pp ln cl]), (.agg #[.int .i64 t.k, .int .i64 t.n, .string (bs t.s), .int .i64 t.e, .int .i64 t.r.1, .int .i64 t.r.2.1, .bool t.r.2.2.1, .bool t.r.2.2.2, .int .i64 t.q.1, .int .i64 t.q.2.1, .bool t.q.2.2.1, .bool t.q.2.2.2, .slice p1 l1 c1]), u13, (.int .i64 o0), u15, (.int .i64 o1), u17, (.agg #[.int .i64 t.k, .int .i64 t.n, .string (bs t.s), .int .i64 t.e, .int .i64 t.r.1, .int .i64 t.r.2.1, .bool t.r.2.2.1, .bool t.r.2.2.2, .int .i64 t.q.1, .int .i64 t.q.2.1, .bool t.q.2.2.1, .bool t.q.2.2.2, .slice pp ln cl]), u19, u20, (.int .i64 o0), u22, (.int .i64 o1), u24, u25, u26, u27, u28, u29, u30, u31, u32, u33, u34, u35, u36, u37, u38, u39, u40, u41, u42, u43, u44, u45, u46, u47, u48, u49, u50, u51, u52, u53, u54, u55], defers := [] } y0 := by
 unfold fdO
 have hE2 := hE
 obtain ⟨HNW, mkS, OA, FOc, BAc, hdone⟩ := hE2
 refine bar_list (rs := [6, 14, 15]) (by kernel_rfl) (by simp) ?_
 refine Bars.cons rfl (fun KK hKK => ?_) ?_
 · go_simp
   go_wp2_with (go_at_call 13; refine Calls.mono (FOc.out _ p1 l1 c1 (H1.out.mono (fun _ _ _ => trivial))) ?_; rintro e y1 ⟨p2, l2, c2, rfl, hL2, E⟩; have H2 : Hid (IsL y1 (fun _ => True) (.slice p2 l2 c2) f.l) := hL2.mono (fun _ _ _ => trivial); clear hL2; unfold aggX)
   replace X : Hid (Ext W1 y1) := X.out.trans E
   refine hKK.out _ _ (fun _ => mkS.out _ X.out) ?_
   clear hKK KK
   replace H1 := hxL H1 E
   rw [show (#[true, true, true, true, true, true, false, true, false, true, true, true, true, false, false, false, false, false] : Array Bool).setIfInBounds 6 true = #[true, true, true, true, true, true, true, true, false, true, true, true, true, false, false, false, false, false] from rfl]
   exact fd_2 hE p1 l1 c1 p2 l2 c2  y1 X H1 H2
 · refine Bars.cons rfl (fun KK hKK => ?_) ?_
   · go_simp
     refine hKK.out _ _ (fun _ => mkS.out _ (X.out.alloc _)) ?_
     clear hKK KK
     obtain ⟨y1, hya⟩ : ∃ ya, World.alloc y0 (.cells #[.int .i64 0, .int .i64 0, .string ⟨#[]⟩, .int .i64 0, .int .i64 0, .int .i64 0, .bool false, .bool false, .int .i64 0, .int .i64 0, .bool false, .bool false, .slice none 0 0] 26) = ya := ⟨_, rfl⟩
     obtain ⟨ga, hga⟩ : ∃ g, y0.heap.size = g := ⟨_, rfl⟩
     have E : Ext y0 y1 := by rw [← hya]; exact (Ext.refl _).alloc _
     have GA : Hid (BlkX y1 ga tz (.slice none 0 0)) := by rw [← hya, ← hga]; exact BlkX.top rfl (Ext.refl _)
     have NGA : Hid (N1 < ga) := by show _ < _; rw [← hga]; have h1 := HNW.out; have h2 := X.out.sz; omega
     rw [hya, hga]
     replace X : Hid (Ext W1 y1) := X.out.trans E
     replace H1 : Hid (IsL y1 (fun k => k ≠ ga) (.slice p1 l1 c1) t.l) := (H1.out.mono (fun k _ hs => by have h2 : k < ga := (by rw [← hga]; exact hs); show k ≠ ga; omega)).ext E
     clear E hya hga
     rw [show (#[true, true, true, true, true, true, false, true, false, true, true, true, true, false, false, false, false, false] : Array Bool).setIfInBounds 14 true = #[true, true, true, true, true, true, false, true, false, true, true, true, true, false, true, false, false, false] from rfl]
     exact fd_1ga hE p1 l1 c1 ga y1 X H1 GA NGA
   · refine Bars.cons rfl (fun KK hKK => ?_) ?_
     · go_simp
       refine hKK.out _ _ (fun _ => mkS.out _ (X.out.alloc _)) ?_
       clear hKK KK
       obtain ⟨y1, hya⟩ : ∃ ya, World.alloc y0 (.cells #[.int .i64 0, .int .i64 0, .string ⟨#[]⟩, .int .i64 0, .int .i64 0, .int .i64 0, .bool false, .bool false, .int .i64 0, .int .i64 0, .bool false, .bool false, .slice none 0 0] 26) = ya := ⟨_, rfl⟩
       obtain ⟨gb, hga⟩ : ∃ g, y0.heap.size = g := ⟨_, rfl⟩
       have E : Ext y0 y1 := by rw [← hya]; exact (Ext.refl _).alloc _
       have GB : Hid (BlkX y1 gb tz (.slice none 0 0)) := by rw [← hya, ← hga]; exact BlkX.top rfl (Ext.refl _)
       have NGB : Hid (N1 < gb) := by show _ < _; rw [← hga]; have h1 := HNW.out; have h2 := X.out.sz; omega
       rw [hya, hga]
       replace X : Hid (Ext W1 y1) := X.out.trans E
       replace H1 : Hid (IsL y1 (fun k => k ≠ gb) (.slice p1 l1 c1) t.l) := (H1.out.mono (fun k _ hs => by have h2 : k < gb := (by rw [← hga]; exact hs); show k ≠ gb; omega)).ext E
       clear E hya hga
       rw [show (#[true, true, true, true, true, true, false, true, false, true, true, true, true, false, false, false, false, false] : Array Bool).setIfInBounds 15 true = #[true, true, true, true, true, true, false, true, false, true, true, true, true, false, false, true, false, false] from rfl]
       exact fd_1gb hE p1 l1 c1 gb y1 X H1 GB NGB
     · exact Bars.nil

set_option maxRecDepth 100000 in
theorem fd_0gagb {u0 u1 u2 u3 u4 u7 u8 u9 u10 u12 u13 u15 u17 u19 u20 u22 u24 u25 u26 u27 u28 u29 u30 u31 u32 u33 u34 u35 u36 u37 u38 u39 u40 u41 u42 u43 u44 u45 u46 u47 u48 u49 u50 u51 u52 u53 u54 u55 : Value} {t f b : T} {pp : Option Addr} {ln cl : Nat} {o0 o1 : Int} {W1 : World} {N1 : Nat} {S : World → Prop} {Q : Exit → Act → World → Prop} (hE : fdE u0 u1 u2 u3 u4 u7 u8 u9 u10 u13 u15 u20 u22 u25 u26 u27 u28 u29 u30 u31 u32 u33 u34 u35 u36 u37 u38 u39 u40 u41 u42 u43 u44 u45 u46 u47 u48 u49 u50 u51 u52 u53 u54 u55 t f b pp ln cl o0 o1 W1 N1 S Q)  (ga : Nat) (gb : Nat) (y0 : World) (X : Hid (Ext W1 y0)) (GA : Hid (BlkX y0 ga tz (.slice none 0 0))) (NGA : Hid (N1 < ga)) (GB : Hid (BlkX y0 gb tz (.slice none 0 0))) (NGB : Hid (N1 < gb)) (HD : Hid (ga ≠ gb)) :
   wpBar Try.prog .any fdO Q (fun _ => false) S 6 #[true, false, true, true, true, true, false, true, false, true, true, true, true, false, true, true, false, false] { tmps := #[u0, u1, u2, u3, u4, (.pointer (some ⟨ga, 0, none⟩)), (.pointer (some ⟨gb, 0, none⟩)), u7, u8, u9, u10, (.agg #[.int .i64 t.k, .int .i64 t.n, .string (bs t.s), .int .i64 t.e, .int .i64 t.r.1, .int .i64 t.r.2.1, .bool t.r.2.2.1, .bool t.r.2.2.2, .int .i64 t.q.1, .int .i64 t.q.2.1, .bool t.q.2.2.1, .bool t.q.2.2.2, .slice pp ln cl]), u12, u13, (.int .i64 o0), u15, (.int .i64 o1), u17, (.agg #[.int .i64 t.k, .int .i64 t.n, .string (bs t.s), .int .i64 t.e, .int .i64 t.r.1, .int .i64 t.r.2.1, .bool t.r.2.2.1, .bool t.r.2.2.2, .int .i64 t.q.1, .int .i64 t.q.2.1, .bool t.q.2.2.1, .bool t.q.2.2.2, .slice pp ln cl]), u19, u20, (.int .i64 o0), u22, (.int .i64 o1), u24, u25, u26, u27, u28, u29, u30, u31, u32, u33, u34, u35, u36, u37, u38, u39, u40, u41, u42, u43, u44, u45, u46, u47, u48, u49, u50, u51, u52, u53, u54, u55], defers := [] } y0 := by
 unfold fdO
 have hE2 := hE
 obtain ⟨HNW, mkS, OA, FOc, BAc, hdone⟩ := hE2
 refine bar_one (i := 1) (by kernel_rfl) rfl (fun KK hKK => ?_)
 go_simp
 go_wp2_with (go_at_call 14; refine Calls.mono (OA.out _ X.out) ?_; rintro e y1 ⟨lv1, rfl, hL1, E⟩; obtain ⟨p1, c1, hlv, hcl⟩ := hL1.form; obtain ⟨l1, hl1⟩ : ∃ l1, t.l.length = l1 := ⟨_, rfl⟩; rw [hl1] at hlv; subst hlv; have H1 : Hid (IsL y1 (fun k => k ≠ ga ∧ k ≠ gb) (.slice p1 l1 c1) t.l) := hL1.mono (fun k hk _ => by have hk2 : y0.heap.size ≤ k := hk; have q0 := GA.out.1; have q1 := GB.out.1; show k ≠ ga ∧ k ≠ gb; omega); clear hL1 hcl hl1; unfold aggX)
 replace X : Hid (Ext W1 y1) := X.out.trans E
 refine hKK.out _ _ (fun _ => mkS.out _ X.out) ?_
 clear hKK KK
 replace GA := hx13 GA E
 replace GB := hx13 GB E
 rw [show (#[true, false, true, true, true, true, false, true, false, true, true, true, true, false, true, true, false, false] : Array Bool).setIfInBounds 1 true = #[true, true, true, true, true, true, false, true, false, true, true, true, true, false, true, true, false, false] from rfl]
 exact fd_1gagb hE p1 l1 c1 ga gb y1 X H1 GA NGA GB NGB HD

set_option maxRecDepth 100000 in
theorem fd_0ga {u0 u1 u2 u3 u4 u6 u7 u8 u9 u10 u12 u13 u15 u17 u19 u20 u22 u24 u25 u26 u27 u28 u29 u30 u31 u32 u33 u34 u35 u36 u37 u38 u39 u40 u41 u42 u43 u44 u45 u46 u47 u48 u49 u50 u51 u52 u53 u54 u55 : Value} {t f b : T} {pp : Option Addr} {ln cl : Nat} {o0 o1 : Int} {W1 : World} {N1 : Nat} {S : World → Prop} {Q : Exit → Act → World → Prop} (hE : fdE u0 u1 u2 u3 u4 u7 u8 u9 u10 u13 u15 u20 u22 u25 u26 u27 u28 u29 u30 u31 u32 u33 u34 u35 u36 u37 u38 u39 u40 u41 u42 u43 u44 u45 u46 u47 u48 u49 u50 u51 u52 u53 u54 u55 t f b pp ln cl o0 o1 W1 N1 S Q)  (ga : Nat) (y0 : World) (X : Hid (Ext W1 y0)) (GA : Hid (BlkX y0 ga tz (.slice none 0 0))) (NGA : Hid (N1 < ga)) :
   wpBar Try.prog .any fdO Q (fun _ => false) S 7 #[true, false, true, true, true, true, false, true, false, true, true, true, true, false, true, false, false, false] { tmps := #[u0, u1, u2, u3, u4, (.pointer (some ⟨ga, 0, none⟩)), u6, u7, u8, u9, u10, (.agg #[.int .i64 t.k, .int .i64 t.n, .string (bs t.s), .int .i64 t.e, .int .i64 t.r.1, .int .i64 t.r.2.1, .bool t.r.2.2.1, .bool t.r.2.2.2, .int .i64 t.q.1, .int .i64 t.q.2.1, .bool t.q.2.2.1, .bool t.q.2.2.2, .slice pp ln cl]), u12, u13, (.int .i64 o0), u15, (.int .i64 o1), u17, (.agg #[.int .i64 t.k, .int .i64 t.n, .string (bs t.s), .int .i64 t.e, .int .i64 t.r.1, .int .i64 t.r.2.1, .bool t.r.2.2.1, .bool t.r.2.2.2, .int .i64 t.q.1, .int .i64 t.q.2.1, .bool t.q.2.2.1, .bool t.q.2.2.2, .slice pp ln cl]), u19, u20, (.int .i64 o0), u22, (.int .i64 o1), u24, u25, u26, u27, u28, u29, u30, u31, u32, u33, u34, u35, u36, u37, u38, u39, u40, u41, u42, u43, u44, u45, u46, u47, u48, u49, u50, u51, u52, u53, u54, u55], defers := [] } y0 := by
 unfold fdO
 have hE2 := hE
 obtain ⟨HNW, mkS, OA, FOc, BAc, hdone⟩ := hE2
 refine bar_list (rs := [1, 15]) (by kernel_rfl) (by simp) ?_
 refine Bars.cons rfl (fun KK hKK => ?_) ?_
 · go_simp
   go_wp2_with (go_at_call 14; refine Calls.mono (OA.out _ X.out) ?_; rintro e y1 ⟨lv1, rfl, hL1, E⟩; obtain ⟨p1, c1, hlv, hcl⟩ := hL1.form; obtain ⟨l1, hl1⟩ : ∃ l1, t.l.length = l1 := ⟨_, rfl⟩; rw [hl1] at hlv; subst hlv; have H1 : Hid (IsL y1 (fun k => k ≠ ga) (.slice p1 l1 c1) t.l) := hL1.mono (fun k hk _ => by have hk2 : y0.heap.size ≤ k := hk; have q0 := GA.out.1; show k ≠ ga; omega); clear hL1 hcl hl1; unfold aggX)
   replace X : Hid (Ext W1 y1) := X.out.trans E
   refine hKK.out _ _ (fun _ => mkS.out _ X.out) ?_
   clear hKK KK
   replace GA := hx13 GA E
   rw [show (#[true, false, true, true, true, true, false, true, false, true, true, true, true, false, true, false, false, false] : Array Bool).setIfInBounds 1 true = #[true, true, true, true, true, true, false, true, false, true, true, true, true, false, true, false, false, false] from rfl]
   exact fd_1ga hE p1 l1 c1 ga y1 X H1 GA NGA
 · refine Bars.cons rfl (fun KK hKK => ?_) ?_
   · go_simp
     refine hKK.out _ _ (fun _ => mkS.out _ (X.out.alloc _)) ?_
     clear hKK KK
     obtain ⟨y1, hya⟩ : ∃ ya, World.alloc y0 (.cells #[.int .i64 0, .int .i64 0, .string ⟨#[]⟩, .int .i64 0, .int .i64 0, .int .i64 0, .bool false, .bool false, .int .i64 0, .int .i64 0, .bool false, .bool false, .slice none 0 0] 26) = ya := ⟨_, rfl⟩
     obtain ⟨gb, hga⟩ : ∃ g, y0.heap.size = g := ⟨_, rfl⟩
     have E : Ext y0 y1 := by rw [← hya]; exact (Ext.refl _).alloc _
     have GB : Hid (BlkX y1 gb tz (.slice none 0 0)) := by rw [← hya, ← hga]; exact BlkX.top rfl (Ext.refl _)
     have NGB : Hid (N1 < gb) := by show _ < _; rw [← hga]; have h1 := HNW.out; have h2 := X.out.sz; omega
     have HD : Hid (ga ≠ gb) := by show _ ≠ _; have := GA.out.1; rw [hga] at this; omega
     rw [hya, hga]
     replace X : Hid (Ext W1 y1) := X.out.trans E
     replace GA := hx13 GA E
     clear E hya hga
     rw [show (#[true, false, true, true, true, true, false, true, false, true, true, true, true, false, true, false, false, false] : Array Bool).setIfInBounds 15 true = #[true, false, true, true, true, true, false, true, false, true, true, true, true, false, true, true, false, false] from rfl]
     exact fd_0gagb hE  ga gb y1 X GA NGA GB NGB HD
   · exact Bars.nil

set_option maxRecDepth 100000 in
theorem fd_0gb {u0 u1 u2 u3 u4 u5 u7 u8 u9 u10 u12 u13 u15 u17 u19 u20 u22 u24 u25 u26 u27 u28 u29 u30 u31 u32 u33 u34 u35 u36 u37 u38 u39 u40 u41 u42 u43 u44 u45 u46 u47 u48 u49 u50 u51 u52 u53 u54 u55 : Value} {t f b : T} {pp : Option Addr} {ln cl : Nat} {o0 o1 : Int} {W1 : World} {N1 : Nat} {S : World → Prop} {Q : Exit → Act → World → Prop} (hE : fdE u0 u1 u2 u3 u4 u7 u8 u9 u10 u13 u15 u20 u22 u25 u26 u27 u28 u29 u30 u31 u32 u33 u34 u35 u36 u37 u38 u39 u40 u41 u42 u43 u44 u45 u46 u47 u48 u49 u50 u51 u52 u53 u54 u55 t f b pp ln cl o0 o1 W1 N1 S Q)  (gb : Nat) (y0 : World) (X : Hid (Ext W1 y0)) (GB : Hid (BlkX y0 gb tz (.slice none 0 0))) (NGB : Hid (N1 < gb)) :
   wpBar Try.prog .any fdO Q (fun _ => false) S 7 #[true, false, true, true, true, true, false, true, false, true, true, true, true, false, false, true, false, false] { tmps := #[u0, u1, u2, u3, u4, u5, (.pointer (some ⟨gb, 0, none⟩)), u7, u8, u9, u10, (.agg #[.int .i64 t.k, .int .i64 t.n, .string (bs t.s), .int .i64 t.e, .int .i64 t.r.1, .int .i64 t.r.2.1, .bool t.r.2.2.1, .bool t.r.2.2.2, .int .i64 t.q.1, .int .i64 t.q.2.1, .bool t.q.2.2.1, .bool t.q.2.2.2, .slice pp ln cl]), u12, u13, (.int .i64 o0), u15, (.int .i64 o1), u17, (.agg #[.int .i64 t.k, .int .i64 t.n, .string (bs t.s), .int .i64 t.e, .int .i64 t.r.1, .int .i64 t.r.2.1, .bool t.r.2.2.1, .bool t.r.2.2.2, .int .i64 t.q.1, .int .i64 t.q.2.1, .bool t.q.2.2.1, .bool t.q.2.2.2, .slice pp ln cl]), u19, u20, (.int .i64 o0), u22, (.int .i64 o1), u24, u25, u26, u27, u28, u29, u30, u31, u32, u33, u34, u35, u36, u37, u38, u39, u40, u41, u42, u43, u44, u45, u46, u47, u48, u49, u50, u51, u52, u53, u54, u55], defers := [] } y0 := by
 unfold fdO
 have hE2 := hE
 obtain ⟨HNW, mkS, OA, FOc, BAc, hdone⟩ := hE2
 refine bar_list (rs := [1, 14]) (by kernel_rfl) (by simp) ?_
 refine Bars.cons rfl (fun KK hKK => ?_) ?_
 · go_simp
   go_wp2_with (go_at_call 14; refine Calls.mono (OA.out _ X.out) ?_; rintro e y1 ⟨lv1, rfl, hL1, E⟩; obtain ⟨p1, c1, hlv, hcl⟩ := hL1.form; obtain ⟨l1, hl1⟩ : ∃ l1, t.l.length = l1 := ⟨_, rfl⟩; rw [hl1] at hlv; subst hlv; have H1 : Hid (IsL y1 (fun k => k ≠ gb) (.slice p1 l1 c1) t.l) := hL1.mono (fun k hk _ => by have hk2 : y0.heap.size ≤ k := hk; have q0 := GB.out.1; show k ≠ gb; omega); clear hL1 hcl hl1; unfold aggX)
   replace X : Hid (Ext W1 y1) := X.out.trans E
   refine hKK.out _ _ (fun _ => mkS.out _ X.out) ?_
   clear hKK KK
   replace GB := hx13 GB E
   rw [show (#[true, false, true, true, true, true, false, true, false, true, true, true, true, false, false, true, false, false] : Array Bool).setIfInBounds 1 true = #[true, true, true, true, true, true, false, true, false, true, true, true, true, false, false, true, false, false] from rfl]
   exact fd_1gb hE p1 l1 c1 gb y1 X H1 GB NGB
 · refine Bars.cons rfl (fun KK hKK => ?_) ?_
   · go_simp
     refine hKK.out _ _ (fun _ => mkS.out _ (X.out.alloc _)) ?_
     clear hKK KK
     obtain ⟨y1, hya⟩ : ∃ ya, World.alloc y0 (.cells #[.int .i64 0, .int .i64 0, .string ⟨#[]⟩, .int .i64 0, .int .i64 0, .int .i64 0, .bool false, .bool false, .int .i64 0, .int .i64 0, .bool false, .bool false, .slice none 0 0] 26) = ya := ⟨_, rfl⟩
     obtain ⟨ga, hga⟩ : ∃ g, y0.heap.size = g := ⟨_, rfl⟩
     have E : Ext y0 y1 := by rw [← hya]; exact (Ext.refl _).alloc _
     have GA : Hid (BlkX y1 ga tz (.slice none 0 0)) := by rw [← hya, ← hga]; exact BlkX.top rfl (Ext.refl _)
     have NGA : Hid (N1 < ga) := by show _ < _; rw [← hga]; have h1 := HNW.out; have h2 := X.out.sz; omega
     have HD : Hid (ga ≠ gb) := by show _ ≠ _; have := GB.out.1; rw [hga] at this; omega
     rw [hya, hga]
     replace X : Hid (Ext W1 y1) := X.out.trans E
     replace GB := hx13 GB E
     clear E hya hga
     rw [show (#[true, false, true, true, true, true, false, true, false, true, true, true, true, false, false, true, false, false] : Array Bool).setIfInBounds 14 true = #[true, false, true, true, true, true, false, true, false, true, true, true, true, false, true, true, false, false] from rfl]
     exact fd_0gagb hE  ga gb y1 X GA NGA GB NGB HD
   · exact Bars.nil

set_option maxRecDepth 100000 in
theorem fd_0 {u0 u1 u2 u3 u4 u5 u6 u7 u8 u9 u10 u12 u13 u15 u17 u19 u20 u22 u24 u25 u26 u27 u28 u29 u30 u31 u32 u33 u34 u35 u36 u37 u38 u39 u40 u41 u42 u43 u44 u45 u46 u47 u48 u49 u50 u51 u52 u53 u54 u55 : Value} {t f b : T} {pp : Option Addr} {ln cl : Nat} {o0 o1 : Int} {W1 : World} {N1 : Nat} {S : World → Prop} {Q : Exit → Act → World → Prop} (hE : fdE u0 u1 u2 u3 u4 u7 u8 u9 u10 u13 u15 u20 u22 u25 u26 u27 u28 u29 u30 u31 u32 u33 u34 u35 u36 u37 u38 u39 u40 u41 u42 u43 u44 u45 u46 u47 u48 u49 u50 u51 u52 u53 u54 u55 t f b pp ln cl o0 o1 W1 N1 S Q)   (y0 : World) (X : Hid (Ext W1 y0)) :
   wpBar Try.prog .any fdO Q (fun _ => false) S 8 #[true, false, true, true, true, true, false, true, false, true, true, true, true, false, false, false, false, false] { tmps := #[u0, u1, u2, u3, u4, u5, u6, u7, u8, u9, u10, (.agg #[.int .i64 t.k, .int .i64 t.n, .string (bs t.s), .int .i64 t.e, .int .i64 t.r.1, .int .i64 t.r.2.1, .bool t.r.2.2.1, .bool t.r.2.2.2, .int .i64 t.q.1, .int .i64 t.q.2.1, .bool t.q.2.2.1, .bool t.q.2.2.2, .slice pp ln cl]), u12, u13, (.int .i64 o0), u15, (.int .i64 o1), u17, (.agg #[.int .i64 t.k, .int .i64 t.n, .string (bs t.s), .int .i64 t.e, .int .i64 t.r.1, .int .i64 t.r.2.1, .bool t.r.2.2.1, .bool t.r.2.2.2, .int .i64 t.q.1, .int .i64 t.q.2.1, .bool t.q.2.2.1, .bool t.q.2.2.2, .slice pp ln cl]), u19, u20, (.int .i64 o0), u22, (.int .i64 o1), u24, u25, u26, u27, u28, u29, u30, u31, u32, u33, u34, u35, u36, u37, u38, u39, u40, u41, u42, u43, u44, u45, u46, u47, u48, u49, u50, u51, u52, u53, u54, u55], defers := [] } y0 := by
 unfold fdO
 have hE2 := hE
 obtain ⟨HNW, mkS, OA, FOc, BAc, hdone⟩ := hE2
 refine bar_list (rs := [1, 14, 15]) (by kernel_rfl) (by simp) ?_
 refine Bars.cons rfl (fun KK hKK => ?_) ?_
 · go_simp
   go_wp2_with (go_at_call 14; refine Calls.mono (OA.out _ X.out) ?_; rintro e y1 ⟨lv1, rfl, hL1, E⟩; obtain ⟨p1, c1, hlv, hcl⟩ := hL1.form; obtain ⟨l1, hl1⟩ : ∃ l1, t.l.length = l1 := ⟨_, rfl⟩; rw [hl1] at hlv; subst hlv; have H1 : Hid (IsL y1 (fun _ => True) (.slice p1 l1 c1) t.l) := hL1.mono (fun _ _ _ => trivial); clear hL1 hcl hl1; unfold aggX)
   replace X : Hid (Ext W1 y1) := X.out.trans E
   refine hKK.out _ _ (fun _ => mkS.out _ X.out) ?_
   clear hKK KK
   rw [show (#[true, false, true, true, true, true, false, true, false, true, true, true, true, false, false, false, false, false] : Array Bool).setIfInBounds 1 true = #[true, true, true, true, true, true, false, true, false, true, true, true, true, false, false, false, false, false] from rfl]
   exact fd_1 hE p1 l1 c1  y1 X H1
 · refine Bars.cons rfl (fun KK hKK => ?_) ?_
   · go_simp
     refine hKK.out _ _ (fun _ => mkS.out _ (X.out.alloc _)) ?_
     clear hKK KK
     obtain ⟨y1, hya⟩ : ∃ ya, World.alloc y0 (.cells #[.int .i64 0, .int .i64 0, .string ⟨#[]⟩, .int .i64 0, .int .i64 0, .int .i64 0, .bool false, .bool false, .int .i64 0, .int .i64 0, .bool false, .bool false, .slice none 0 0] 26) = ya := ⟨_, rfl⟩
     obtain ⟨ga, hga⟩ : ∃ g, y0.heap.size = g := ⟨_, rfl⟩
     have E : Ext y0 y1 := by rw [← hya]; exact (Ext.refl _).alloc _
     have GA : Hid (BlkX y1 ga tz (.slice none 0 0)) := by rw [← hya, ← hga]; exact BlkX.top rfl (Ext.refl _)
     have NGA : Hid (N1 < ga) := by show _ < _; rw [← hga]; have h1 := HNW.out; have h2 := X.out.sz; omega
     rw [hya, hga]
     replace X : Hid (Ext W1 y1) := X.out.trans E
     clear E hya hga
     rw [show (#[true, false, true, true, true, true, false, true, false, true, true, true, true, false, false, false, false, false] : Array Bool).setIfInBounds 14 true = #[true, false, true, true, true, true, false, true, false, true, true, true, true, false, true, false, false, false] from rfl]
     exact fd_0ga hE  ga y1 X GA NGA
   · refine Bars.cons rfl (fun KK hKK => ?_) ?_
     · go_simp
       refine hKK.out _ _ (fun _ => mkS.out _ (X.out.alloc _)) ?_
       clear hKK KK
       obtain ⟨y1, hya⟩ : ∃ ya, World.alloc y0 (.cells #[.int .i64 0, .int .i64 0, .string ⟨#[]⟩, .int .i64 0, .int .i64 0, .int .i64 0, .bool false, .bool false, .int .i64 0, .int .i64 0, .bool false, .bool false, .slice none 0 0] 26) = ya := ⟨_, rfl⟩
       obtain ⟨gb, hga⟩ : ∃ g, y0.heap.size = g := ⟨_, rfl⟩
       have E : Ext y0 y1 := by rw [← hya]; exact (Ext.refl _).alloc _
       have GB : Hid (BlkX y1 gb tz (.slice none 0 0)) := by rw [← hya, ← hga]; exact BlkX.top rfl (Ext.refl _)
       have NGB : Hid (N1 < gb) := by show _ < _; rw [← hga]; have h1 := HNW.out; have h2 := X.out.sz; omega
       rw [hya, hga]
       replace X : Hid (Ext W1 y1) := X.out.trans E
       clear E hya hga
       rw [show (#[true, false, true, true, true, true, false, true, false, true, true, true, true, false, false, false, false, false] : Array Bool).setIfInBounds 15 true = #[true, false, true, true, true, true, false, true, false, true, true, true, true, false, false, true, false, false] from rfl]
       exact fd_0gb hE  gb y1 X GB NGB
     · exact Bars.nil
end Go.Proofs.Ytcggiljlilbdfaa

/-
 A list of trees that is made at once, and filled one by one.
 Reading by powers is reading by levels. Plain mathematics: no program in sight.
 The contract of package lex's number.
 The contract of package lex's next: the word that begins at a place, or a panic that tells why there is none.
-/
import Derived.Test.YtcggiljlilbdfaaV14
import Derived.Test.YtcggiljlilbdfaaV18
import Derived.Laws.IdiomCopy
import Derived.Laws.MakeOwn
import Derived.Test.YtcggiljlilbdfaaV10
import Derived.Test.YtcggiljlilbdfaaV4
namespace Go.Proofs.Ytcggiljlilbdfaa
open Go.RowKit
set_option maxHeartbeats 4000000

/-- Block m has so many cells, which may be written. -/
def Room (w : World) (m n : Nat) : Prop := m < w.heap.size ∧ (∀ o, o < n → (w.cell? ⟨m, o, none⟩).isSome = true) ∧ ∀ o, w.frozen? ⟨m, o, none⟩ = false
theorem Room.ext {w w' : World} {m n : Nat} (h : Room w m n) (e : Ext w w') : Room w' m n :=
 ⟨Nat.lt_of_lt_of_le h.1 e.sz, fun o ho => by rw [e.cell.1 m o h.1]; exact h.2.1 o ho, fun o => by rw [e.cell.2 m o h.1]; exact h.2.2 o⟩
theorem Room.put {w : World} {m n : Nat} (h : Room w m n) (o : Nat) (vs : List Value) : Room (w.setCells m o vs) m n := by
 refine ⟨?_, fun i hi => ?_, fun i => by rw [World.frozen?_setCells]; exact h.2.2 i⟩
 · have : ∀ (vs : List Value) (o : Nat) (w : World), (w.setCells m o vs).heap.size = w.heap.size := by
     intro vs
     induction vs with
     | nil => intro o w; rfl
     | cons v r ih => intro o w; rw [World.setCells, ih]; simp [World.setCell]
   rw [this]; exact h.1
 · have : ∀ (vs : List Value) (o : Nat) (w : World), (w.cell? ⟨m, i, none⟩).isSome = true → ((w.setCells m o vs).cell? ⟨m, i, none⟩).isSome = true := by
     intro vs
     induction vs with
     | nil => intro o w h; exact h
     | cons v r ih =>
       intro o w h
       rw [World.setCells]
       refine ih _ _ ?_
       by_cases ho : o = i
       · subst ho; rw [World.cell?_setCell_same' w _ v h]; rfl
       · rw [World.cell?_setCell_other _ _ _ _ (by simp)]; exact h
   exact this vs o w (h.2.1 i hi)
theorem setCells_size (m : Nat) : ∀ (vs : List Value) (o : Nat) (w : World), (w.setCells m o vs).heap.size = w.heap.size := by
 intro vs
 induction vs with
 | nil => intro o w; rfl
 | cons v r ih => intro o w; rw [World.setCells, ih]; simp [World.setCell]
theorem setCells_heap (m k : Nat) (hk : k ≠ m) : ∀ (vs : List Value) (o : Nat) (w : World), (w.setCells m o vs).heap[k]? = w.heap[k]? := by
 intro vs
 induction vs with
 | nil => intro o w; rfl
 | cons v r ih => intro o w; rw [World.setCells, ih]; exact Below.heap_setCell _ _ _ _ (by simpa using hk)
theorem Ext.setCells {a w : World} (h : Ext a w) {m : Nat} (hm : a.heap.size ≤ m) : ∀ (vs : List Value) (o : Nat), Ext a (w.setCells m o vs) := by
 intro vs
 induction vs generalizing w with
 | nil => intro o; exact h
 | cons v r ih => intro o; rw [World.setCells]; exact ih (h.setCell (p := ⟨m, o, none⟩) hm v) (o + 1)
theorem BlkX.setCells {w : World} {g m : Nat} {t : T} {lv : Value} (h : BlkX w g t lv) (hm : m ≠ g) : ∀ (vs : List Value) (o : Nat), BlkX (w.setCells m o vs) g t lv := by
 intro vs
 induction vs generalizing w with
 | nil => intro o; exact h
 | cons v r ih => intro o; rw [World.setCells]; exact ih (Blk13.far1 h hm o v) (o + 1)
/-- In block m lie the trees ps, one behind the other; what they hang on lies in other blocks, from base on. -/
def Laid (w : World) (m base : Nat) (ps : List (T × Value)) : Prop := (∀ (i j : Nat) (p : T × Value) (u : Value), ps[i]? = some p → (cellsT p.1 p.2)[j]? = some u → w.cell? ⟨m, i * 13 + j, none⟩ = some u) ∧ ∀ p ∈ ps, IsL w (fun k => base ≤ k ∧ k ≠ m) p.2 p.1.l
theorem Laid.nil (w : World) (m base : Nat) : Laid w m base [] := ⟨fun i j p u h => by simp at h, fun p hp => by cases hp⟩
theorem Laid.ext {w w' : World} {m base : Nat} {ps : List (T × Value)} (h : Laid w m base ps) (hm : m < w.heap.size) (e : Ext w w') : Laid w' m base ps :=
 ⟨fun i j p u h1 h2 => by rw [e.cell.1 m _ hm]; exact h.1 i j p u h1 h2, fun p hp => (h.2 p hp).ext e⟩
theorem Laid.snoc {w : World} {m base n : Nat} {ps : List (T × Value)} {x : T} {lv : Value} (h : Laid w m base ps) (hR : Room w m n) (hn : ps.length * 13 + 13 ≤ n) (hL : IsL w (fun k => base ≤ k ∧ k ≠ m) lv x.l) : Laid (w.setCells m (ps.length * 13) (cellsT x lv)) m base (ps ++ [(x, lv)]) := by
 have hk : ∀ (y : Value) (l : List T), IsL w (fun k => base ≤ k ∧ k ≠ m) y l → IsL (w.setCells m (ps.length * 13) (cellsT x lv)) (fun k => base ≤ k ∧ k ≠ m) y l := fun y l hy =>
   hy.keep (by rw [setCells_size]; exact Nat.le_refl _) (fun k hk _ => setCells_heap m k hk.2 _ _ _) (fun _ h _ => h)
 refine ⟨fun i j p u h1 h2 => ?_, fun p hp => ?_⟩
 · have hj : j < 13 := (List.getElem?_eq_some_iff.mp h2).1
   by_cases hi : i < ps.length
   · rw [List.getElem?_append_left hi] at h1
     rw [World.cell?_setCells_out m _ _ _ _ (fun _ _ => .inl (by show i * 13 + j < ps.length * 13; omega))]
     exact h.1 i j p u h1 h2
   · rw [List.getElem?_append_right (by omega)] at h1
     have hi2 : i = ps.length := by
       have := (List.getElem?_eq_some_iff.mp h1).1
       simp at this
       omega
     subst hi2
     simp at h1
     subst h1
     have hin := World.cell?_setCells_in m (cellsT x lv) (ps.length * 13) w (fun j hj => hR.2.1 _ (by have : (cellsT x lv).length = 13 := rfl; omega)) j (by exact hj)
     rw [hin]
     obtain ⟨h3, h4⟩ := List.getElem?_eq_some_iff.mp h2
     rw [← h4]
     rfl
 · rcases List.mem_append.1 hp with hp | hp
   · exact hk _ _ (h.2 p hp)
   · simp at hp; subst hp; exact hk _ _ hL
theorem Laid.isL {w : World} {m base c : Nat} {ps : List (T × Value)} (h : Laid w m base ps) (hm : m < w.heap.size) (hb : base ≤ m) (hc : ps.length ≤ c) : IsL w (base ≤ ·) (.slice (some ⟨m, 0, none⟩) ps.length c) (ps.map Prod.fst) := by
 refine .mk m 0 c ps.length _ (fun i => match ps[i]? with | some p => p.2 | none => .slice none 0 0) (by simp) hc hb hm ?_ ?_
 · intro i t j u hi hj
   rw [List.getElem?_map, Option.map_eq_some_iff] at hi
   obtain ⟨p, hp, rfl⟩ := hi
   simp only [hp] at hj
   rw [Nat.zero_add]
   exact h.1 i j p u hp hj
 · intro i t hi
   rw [List.getElem?_map, Option.map_eq_some_iff] at hi
   obtain ⟨p, hp, rfl⟩ := hi
   simp only [hp]
   exact (h.2 p (List.mem_of_getElem? hp)).mono (fun k hk _ => hk.1)
/-- make of so many trees. -/
theorem run_mk (n : Nat) (hn : n ≤ 100000) (w : World) : ∃ C : Array Value, C.size = n * 13 ∧ (Instr.makeSlice 24 (.int .i64 (n : Int)) (.int .i64 (n : Int))).run Try.prog w = .ok (.slice (some ⟨w.heap.size, 0, none⟩) n n) (w.alloc (.cells C 26)) := by
 obtain ⟨i, hi, hz, h1, h2⟩ := info_x
 have h := run_make (P := Try.prog) w 24 26 i _ Try.underlying24 hi hz .i64 .i64 (n : Int) (n : Int) (by omega) (Int.le_refl _) (by rw [h2]; omega) (by omega)
 rw [h1, Int.toNat_natCast] at h
 exact ⟨_, size_madeCells _ _, h⟩
theorem Room.new {w w' : World} {n m : Nat} {C : Array Value} (hC : C.size = n) (hm : m = w.heap.size) (E : Ext (w.alloc (.cells C 26)) w') : Room w' m n := by
 subst hm
 have hs : w.heap.size < (w.alloc (.cells C 26)).heap.size := by simp
 refine Room.ext ⟨hs, fun o ho => ?_, fun o => ?_⟩ E
 · rw [cell_of_row _ _ _ _ _ (0, 0) (new_top w _)]
   simp [hC, ho]
 · exact frozen_of_row _ _ _ _ _ (new_top w _)

open Go.RowKit

/-- The reading of what signs that bind at least so tightly make. -/
def LvK (o : Rd) (k : Nat) : Rd := if k = 1 then frm o else if k = 2 then lv (lv (lv o 4) 3) 2 else if k = 3 then lv (lv o 4) 3 else if k = 4 then lv o 4 else o
theorem LvK_step (o : Rd) (k : Nat) (h1 : 1 ≤ k) (h4 : k ≤ 4) : LvK o k = lv (LvK o (k + 1)) k := by
 have hh : k = 1 ∨ k = 2 ∨ k = 3 ∨ k = 4 := by omega
 rcases hh with rfl | rfl | rfl | rfl <;> rfl
theorem LvK_top (o : Rd) (k : Nat) (h : 5 ≤ k) : LvK o k = o := by
 unfold LvK
 rw [if_neg (by omega), if_neg (by omega), if_neg (by omega), if_neg (by omega)]
theorem bnd_le4 (s : List UInt8) : bnd s ≤ 4 := by unfold bnd; repeat (first | (split; · omega) | omega)
/-- Reading on by powers. -/
def cl (o : Rd) (d : Nat) : Nat → Nat → T → List Tk → Rs
 | 0, _, x, ts => .ok (x, ts)
 | f + 1, k, x, ts => if (hd ts).1 = 3 ∧ k ≤ bnd (hd ts).2.2.1 then (match LvK o (bnd (hd ts).2.2.1 + 1) d ts.tail with
   | .error e => .error e
   | .ok (y, ts2) => cl o d f k (tBin (hd ts).2.2.1 x y) ts2) else .ok (x, ts)
theorem LvK_sh {n : Nat} {o : Rd} (ho : ShF n o) (k : Nat) : ShF n (LvK o k) := by
 unfold LvK
 split
 · exact frm_sh ho
 · split
   · exact lv_sh (lv_sh (lv_sh ho 4) 3) 2
   · split
     · exact lv_sh (lv_sh ho 4) 3
     · split
       · exact lv_sh ho 4
       · exact ho
theorem tk1_ok {d : Nat} (hd4 : d ≤ 40) (ts : List Tk) : tk1 d ts = .ok ts.tail := by unfold tk1; rw [if_neg (by omega)]
theorem tail_sh {ts : List Tk} (h : Nz ts) (h3 : (hd ts).1 = 3) : Nz ts.tail ∧ ts.tail.length + 1 = ts.length := h.tail (by rw [h3]; decide)
/-- The fuel plays no part. -/
theorem lp_fuel {n : Nat} {F : Rd} (hF : ShF n F) (k d : Nat) : ∀ (f g : Nat) (x : T) (ts : List Tk), Nz ts → ts.length ≤ n → ts.length ≤ f → ts.length ≤ g → lp F k d f x ts = lp F k d g x ts := by
 intro f
 induction f with
 | zero => intro g x ts h _ h1 _; have := h.pos; omega
 | succ f ih =>
   intro g x ts h hn h1 h2
   cases g with
   | zero => have := h.pos; omega
   | succ g =>
     unfold lp
     split
     · rename_i hk
       cases ht : tk1 d ts with
       | error e => rfl
       | ok ts1 =>
         have s1 := tk1_sh h (by rw [hk.1]; decide) ht
         show (match F d ts1 with | .error e => (.error e : Rs) | .ok (y, ts2) => lp F k d f (tBin (hd ts).2.2.1 x y) ts2) = (match F d ts1 with | .error e => (.error e : Rs) | .ok (y, ts2) => lp F k d g (tBin (hd ts).2.2.1 x y) ts2)
         cases hr : F d ts1 with
         | error e => rfl
         | ok p =>
           obtain ⟨y, ts2⟩ := p
           have s2 := hF d ts1 s1.1 (by have := s1.2; omega) y ts2 hr
           have a1 := s1.2
           have a2 := s2.2
           exact ih g _ ts2 s2.1 (by omega) (by omega) (by omega)
     · rfl
theorem cl_fuel {n : Nat} {o : Rd} (ho : ShF n o) (k d : Nat) : ∀ (f g : Nat) (x : T) (ts : List Tk), Nz ts → ts.length ≤ n → ts.length ≤ f → ts.length ≤ g → cl o d f k x ts = cl o d g k x ts := by
 intro f
 induction f with
 | zero => intro g x ts h _ h1 _; have := h.pos; omega
 | succ f ih =>
   intro g x ts h hn h1 h2
   cases g with
   | zero => have := h.pos; omega
   | succ g =>
     unfold cl
     split
     · rename_i hk
       have s1 := tail_sh h hk.1
       cases hr : LvK o (bnd (hd ts).2.2.1 + 1) d ts.tail with
       | error e => rfl
       | ok p =>
         obtain ⟨y, ts2⟩ := p
         have s2 := LvK_sh ho _ d ts.tail s1.1 (by omega) y ts2 hr
         have a2 := s2.2
         exact ih g _ ts2 s2.1 (by omega) (by omega) (by omega)
     · rfl
/-- Behind it stands no sign that binds so tightly. -/
theorem cl_stop {n : Nat} {o : Rd} (ho : ShF n o) (k d : Nat) : ∀ (f : Nat) (x y : T) (ts ts' : List Tk), Nz ts → ts.length ≤ n → ts.length ≤ f → cl o d f k x ts = .ok (y, ts') → ¬ ((hd ts').1 = 3 ∧ k ≤ bnd (hd ts').2.2.1) := by
 intro f
 induction f with
 | zero => intro x y ts ts' h _ h1 _; have := h.pos; omega
 | succ f ih =>
   intro x y ts ts' h hn h1 e
   unfold cl at e
   split at e
   · rename_i hk
     have s1 := tail_sh h hk.1
     split at e
     · cases e
     · rename_i z ts2 hr
       have s2 := LvK_sh ho _ d ts.tail s1.1 (by omega) z ts2 hr
       have a2 := s2.2
       exact ih _ _ ts2 ts' s2.1 (by omega) (by omega) e
   · rename_i hk
     cases e; exact hk
def thenR (r : Rs) (g : T → List Tk → Rs) : Rs := match r with
 | .error e => .error e
 | .ok (x, ts) => g x ts
/-- What a level is by powers. -/
def Clm (o : Rd) (n d k : Nat) : Prop := ∀ ts, Nz ts → ts.length ≤ n → LvK o k d ts = thenR (o d ts) (fun x ts1 => cl o d ts1.length k x ts1)
theorem clm_bind {n d k : Nat} {o : Rd} (ho : ShF n o) (hd4 : d ≤ 40) (hC : Clm o n d (k + 1)) : ∀ (f : Nat) (x : T) (ts : List Tk), Nz ts → ts.length ≤ n → ts.length ≤ f →
   thenR (cl o d f (k + 1) x ts) (fun x' ts' => lp (LvK o (k + 1)) k d ts'.length x' ts') = cl o d f k x ts := by
 intro f
 induction f with
 | zero => intro x ts h _ h1 ; have := h.pos; omega
 | succ f ih =>
   intro x ts h hn hf
   by_cases h3 : (hd ts).1 = 3
   · have s1 := tail_sh h h3
     by_cases hb : k + 1 ≤ bnd (hd ts).2.2.1
     · rw [cl, cl, if_pos ⟨h3, hb⟩, if_pos ⟨h3, by omega⟩]
       cases hr : LvK o (bnd (hd ts).2.2.1 + 1) d ts.tail with
       | error e => rfl
       | ok p =>
         obtain ⟨y, ts2⟩ := p
         have s2 := LvK_sh ho _ d ts.tail s1.1 (by omega) y ts2 hr
         have a2 := s2.2
         exact ih _ ts2 s2.1 (by omega) (by omega)
     · by_cases hk : bnd (hd ts).2.2.1 = k
       · rw [cl, cl, if_neg (by rintro ⟨_, h⟩; omega), if_pos ⟨h3, by omega⟩]
         show lp (LvK o (k + 1)) k d ts.length x ts = _
         obtain ⟨g, hg⟩ : ∃ g, ts.length = g + 1 := ⟨ts.length - 1, by omega⟩
         rw [hg, lp, if_pos ⟨h3, hk⟩, tk1_ok hd4, hk]
         show (match LvK o (k + 1) d ts.tail with | .error e => (.error e : Rs) | .ok (y, ts2) => lp (LvK o (k + 1)) k d g (tBin (hd ts).2.2.1 x y) ts2) = _
         cases hr : LvK o (k + 1) d ts.tail with
         | error e => rfl
         | ok p =>
           obtain ⟨y, ts2⟩ := p
           have s2 := LvK_sh ho _ d ts.tail s1.1 (by omega) y ts2 hr
           have a2 := s2.2
           show lp (LvK o (k + 1)) k d g (tBin (hd ts).2.2.1 x y) ts2 = cl o d f k (tBin (hd ts).2.2.1 x y) ts2
           rw [← ih _ ts2 s2.1 (by omega) (by omega)]
           have hstop : ¬ ((hd ts2).1 = 3 ∧ k + 1 ≤ bnd (hd ts2).2.2.1) := by
             rw [hC ts.tail s1.1 (by omega)] at hr
             cases ho1 : o d ts.tail with
             | error e => rw [ho1] at hr; cases hr
             | ok q =>
               obtain ⟨z, ts3⟩ := q
               rw [ho1] at hr
               have s3 := ho d ts.tail s1.1 (by omega) z ts3 ho1
               have a3 := s3.2
               exact cl_stop ho (k + 1) d _ _ _ ts3 ts2 s3.1 (by omega) (Nat.le_refl _) hr
           have hcl : cl o d f (k + 1) (tBin (hd ts).2.2.1 x y) ts2 = .ok (tBin (hd ts).2.2.1 x y, ts2) := by
             cases f with
             | zero => rfl
             | succ f => rw [cl, if_neg hstop]
           rw [hcl]
           exact lp_fuel (LvK_sh ho _) k d g ts2.length _ ts2 s2.1 (by omega) (by omega) (Nat.le_refl _)
       · rw [cl, cl, if_neg (by rintro ⟨_, h⟩; omega), if_neg (by rintro ⟨_, h⟩; omega)]
         show lp (LvK o (k + 1)) k d ts.length x ts = _
         obtain ⟨g, hg⟩ : ∃ g, ts.length = g + 1 := ⟨ts.length - 1, by omega⟩
         rw [hg, lp, if_neg (by rintro ⟨_, h⟩; exact hk h)]
   · rw [cl, cl, if_neg (by rintro ⟨h, _⟩; exact h3 h), if_neg (by rintro ⟨h, _⟩; exact h3 h)]
     show lp (LvK o (k + 1)) k d ts.length x ts = _
     obtain ⟨g, hg⟩ : ∃ g, ts.length = g + 1 := ⟨ts.length - 1, by have := h.pos; omega⟩
     rw [hg, lp, if_neg (by rintro ⟨h, _⟩; exact h3 h)]
theorem clm5 (o : Rd) (n d : Nat) (ho : ShF n o) : Clm o n d 5 := by
 intro ts h hn
 rw [LvK_top o 5 (by omega)]
 cases ho1 : o d ts with
 | error e => rfl
 | ok q =>
   obtain ⟨z, ts3⟩ := q
   have s3 := ho d ts h hn z ts3 ho1
   show _ = cl o d ts3.length 5 z ts3
   obtain ⟨g, hg⟩ : ∃ g, ts3.length = g + 1 := ⟨ts3.length - 1, by have := s3.1.pos; omega⟩
   rw [hg, cl, if_neg (by rintro ⟨_, h⟩; have := bnd_le4 (hd ts3).2.2.1; omega)]
theorem clm_down {n d k : Nat} {o : Rd} (ho : ShF n o) (hd4 : d ≤ 40) (h1 : 1 ≤ k) (h4 : k ≤ 4) (hC : Clm o n d (k + 1)) : Clm o n d k := by
 intro ts h hn
 rw [LvK_step o k h1 h4]
 unfold lv
 rw [hC ts h hn]
 cases ho1 : o d ts with
 | error e => rfl
 | ok q =>
   obtain ⟨z, ts3⟩ := q
   have s3 := ho d ts h hn z ts3 ho1
   have a3 := s3.2
   show (match cl o d ts3.length (k + 1) z ts3 with | .error e => (.error e : Rs) | .ok (x, ts1) => lp (LvK o (k + 1)) k d ts1.length x ts1) = cl o d ts3.length k z ts3
   exact clm_bind ho hd4 hC ts3.length z ts3 s3.1 (by omega) (Nat.le_refl _)
/-- A level is read by powers. -/
theorem clm_all {n d : Nat} {o : Rd} (ho : ShF n o) (hd4 : d ≤ 40) (k : Nat) (h1 : 1 ≤ k) (h5 : k ≤ 5) : Clm o n d k := by
 have c5 := clm5 o n d ho
 have c4 := clm_down ho hd4 (by decide) (by decide) c5
 have c3 := clm_down ho hd4 (by decide) (by decide) c4
 have c2 := clm_down ho hd4 (by decide) (by decide) c3
 have c1 := clm_down ho hd4 (by decide) (by decide) c2
 have hh : k = 1 ∨ k = 2 ∨ k = 3 ∨ k = 4 ∨ k = 5 := by omega
 rcases hh with rfl | rfl | rfl | rfl | rfl <;> assumption
/-- Too deep, nothing is read. -/
theorem O_deep (n d : Nat) (h : 40 < d) (ts : List Tk) : ∃ e, O n d ts = .error e := by
 have ht : ∀ ts, tk1 d ts = .error (ft ts true) := fun ts => if_pos h
 cases n with
 | zero => exact ⟨_, rfl⟩
 | succ n =>
   show ∃ e, opn (frm (O n)) (O n) d ts = .error e
   unfold opn
   split
   · rw [ht]; exact ⟨_, rfl⟩
   · unfold smp one
     rw [ht]
     split
     · exact ⟨_, rfl⟩
     · split
       · exact ⟨_, rfl⟩
       · split
         · exact ⟨_, rfl⟩
         · split
           · unfold wrd one
             rw [ht]
             split
             · exact ⟨_, rfl⟩
             · split
               · exact ⟨_, rfl⟩
               · split
                 · exact ⟨_, rfl⟩
                 · have hr : ∃ e, refr d ts = .error e := by
                     unfold refr
                     rw [ht]
                     split <;> exact ⟨_, rfl⟩
                   obtain ⟨e, he⟩ := hr
                   rw [he]; exact ⟨_, rfl⟩
           · have hr : ∃ e, pass1 [40] d ts = .error e := by
               unfold pass1
               rw [ht]
               split <;> exact ⟨_, rfl⟩
             obtain ⟨e, he⟩ := hr
             unfold brk
             rw [he]; exact ⟨_, rfl⟩
theorem LvK_deep (n d k : Nat) (h : 40 < d) (ts : List Tk) : ∃ e, LvK (O n) k d ts = .error e := by
 have one : ∀ (F : Rd) (j : Nat), (∀ ts, ∃ e, F d ts = .error e) → ∀ ts, ∃ e, lv F j d ts = .error e := by
   intro F j hF ts
   obtain ⟨e, he⟩ := hF ts
   exact ⟨e, by unfold lv; rw [he]⟩
 have o0 := O_deep n d h
 unfold LvK
 split
 · exact one _ _ (one _ _ (one _ _ (one _ _ o0))) ts
 · split
   · exact one _ _ (one _ _ (one _ _ o0)) ts
   · split
     · exact one _ _ (one _ _ o0) ts
     · split
       · exact one _ _ o0 ts
       · exact o0 ts

open Go.RowKit
set_option maxHeartbeats 1000000

theorem rdK_three (l : List UInt8) : rdK l = 0 ∨ rdK l = 1 ∨ rdK l = 2 := by
 unfold rdK; split
 · split <;> simp
 · simp
theorem numR_0 {l : List UInt8} (h : rdK (l.take (numE l)) = 0) : numR l = .error 4 := by unfold numR; rw [if_pos h]
theorem numR_2 {l : List UInt8} (h : rdK (l.take (numE l)) = 2) : numR l = .error 2 := by unfold numR; rw [if_neg (by omega), if_pos h]
theorem numR_1 {l : List UInt8} (h : rdK (l.take (numE l)) = 1) : numR l = .ok (0, [], rdV (l.take (numE l)), 0, numE l) := by unfold numR; rw [if_neg (by omega), if_neg (by omega)]

open Go.RowKit
set_option maxHeartbeats 1000000

end Go.Proofs.Ytcggiljlilbdfaa

import Derived.Test.YtcfgbiaahangmaaGreatDoorT20
import Derived.Laws.EntriesVeiled
import Derived.Recover
set_option maxHeartbeats 6000000
namespace Go.Proofs.YtcfgbiaahangmaaGreatDoor
open Go.RowKit
theorem rdK_three (l : List UInt8) : rdK l = 0 ∨ rdK l = 1 ∨ rdK l = 2:=by
 unfold rdK;split
 · split <;> simp
 · simp
theorem numR_0 {l : List UInt8} (h : rdK (l.take (numE l)) = 0) : nuRL l = .error 4:=by unfold nuRL;rw [if_pos h]
theorem numR_2 {l : List UInt8} (h : rdK (l.take (numE l)) = 2) : nuRL l = .error 2:=by unfold nuRL;rw [if_neg J2,if_pos h]
theorem numR_1 {l : List UInt8} (h : rdK (l.take (numE l)) = 1) : nuRL l = .ok (0,[],rdV (l.take (numE l)),0,numE l):=by unfold nuRL;rw [if_neg J2,if_neg J2]
def St (w : World) (W : World) (v : Value) (acc : List Tk) : Prop:=OwT W (w.heap.size + 2) v acc ∧ Ext w W ∧ w.heap.size + 2 ≤ W.heap.size ∧
 (W.cell? ⟨w.heap.size,0,none⟩ = some v ∧ W.frozen? ⟨w.heap.size,0,none⟩ = false) ∧
 (W.cell? ⟨w.heap.size + 1,0,none⟩ = some (.int .i64 0) ∧ W.frozen? ⟨w.heap.size + 1,0,none⟩ = false) ∧ W.cell? ⟨w.heap.size + 1,1,none⟩ = some (.int .i64 0) ∧ W.frozen? ⟨w.heap.size + 1,1,none⟩ = false
theorem St.ext {w W W' : World} {v : Value} {acc : List Tk} (h : St w W v acc) (e : Ext W W') : St w W' v acc:=by
 obtain ⟨h1,h2,h3,⟨a0,z0⟩,⟨a1,z1⟩,a2,z2⟩:=h
 have k:=e.cell
 exact ⟨h1.ext e,h2.trans e,Nat.le_trans h3 e.sz,⟨(k.1 _ 0 J2).trans a0,(k.2 _ 0 J2).trans z0⟩,⟨(k.1 _ 0 J2).trans a1,(k.2 _ 0 J2).trans z1⟩,(k.1 _ 1 J2).trans a2,(k.2 _ 1 J2).trans z2⟩
theorem St.more {w W W' : World} {v v' : Value} {acc : List Tk} {t : Tk} (h : St w W v acc) (k1 : OwT W' (w.heap.size + 2) v' (acc ++ [t])) (k2 : W.grownBy W' v.ownBlock) : St w (W'.setCell ⟨w.heap.size,0,none⟩ v') v' (acc ++ [t]):=by
 obtain ⟨h1,h2,h3,⟨a0,z0⟩,⟨a1,z1⟩,a2,z2⟩:=h
 have c0:=grown_cell k2 (b:=w.heap.size) J2 (h1.far J2) 0
 have c1:=grown_cell k2 (b:=w.heap.size + 1) J2 (h1.far J2) 0
 have c2:=grown_cell k2 (b:=w.heap.size + 1) J2 (h1.far J2) 1
 have hs:=k2.size
 refine ⟨k1.set J60 _,(grown_ext k2 h1 h2 J2).setCell nrf _,by simp;omega,⟨wSa _ _ _ (by rw [c0.1,a0]),?_⟩,⟨?_,?_⟩,?_,?_⟩
 · rw [wFz,c0.2,z0]
 · rw [wFa _ _ _ _ J60,c1.1,a1]
 · rw [wFz,c1.2,z1]
 · rw [wFa _ _ _ _ J60,c2.1,a2]
 · rw [wFz,c2.2,z2]
theorem map_nil {e : Type} (r : Except e (List Tk)) : r = r.map (fun ts=>[] ++ ts):=by cases r <;> rfl
theorem W_at (l : List UInt8) (j : Nat) (h : j < l.length) (hc : ¬ l[j] = 32) : W j (l.drop j) = match nxt (l.drop j) with
   | .error e=>.error (j,e)
   | .ok x=>(W (j + x.2.2.2.2) (l.drop (j + x.2.2.2.2))).map (fun ts=>tkOf x j :: ts):=by
 have e:=W_cons j l[j] (l.drop (j + 1)) hc
 rw [← List.drop_eq_getElem_cons h] at e
 rw [e]
 cases nxt (l.drop j) with
 | error c=>rfl
 | ok x=>simp only [List.drop_drop]
theorem new_tk {W : World} {b : Nat} {t : Tk} {q : ByteArray} {T : TypeId} (hb : b = W.heap.size) (hq : bs t.2.2.1 = q) :
   ∀ j u,(flatT [t])[j]? = some u → (W.alloc (.cells #[.int .i64 t.1,.int .i64 t.2.1,.string q,.int .i64 t.2.2.2.1,.int .i64 t.2.2.2.2] T)).cell? ((⟨b,0,none⟩ : Addr).add j) = some u:=by
 subst hb hq
 intro j u hu
 rw [Addr.add_lit,cell_of_row _ _ _ _ _ (0,0) (new_top W _),Nat.zero_add]
 rw [← hu,← Array.getElem?_toList];rfl
def WordsQ (w : World) (l : List UInt8) (e : Ending) (w' : World) : Prop :=
 ∃ v,e = .returned (.tuple #[v,.int .i64 (lexR l).2.1,.int .i64 (lexR l).2.2]) ∧ RdT w' v (lexR l).1 ∧ Ext w w'
theorem txt_len : ∀ (l : List UInt8) (x : List UInt8 × Nat),txt l = some x → x.1.length ≤ x.2
 | [],x,h=>by simp [txt] at h
 | [c],x,h=>by
   unfold txt at h
   split at h
   · cases h;simp
   · cases h
 | c :: d :: r,x,h=>by
   unfold txt at h
   split at h
   · split at h
     · rw [Option.map_eq_some_iff] at h
       obtain ⟨y,hy,rfl⟩:=h
       have:=txt_len r y hy
       simp;omega
     · cases h;simp
   · rw [Option.map_eq_some_iff] at h
     obtain ⟨y,hy,rfl⟩:=h
     have:=txt_len (d :: r) y hy
     simp;omega
theorem nxt_len {l : List UInt8} {x : Wd} (h : nxt l = .ok x) : x.2.1.length ≤ x.2.2.2.2:=by
 cases l with
 | nil=>cases h
 | cons c l =>
   rw [nxt_cons] at h
   split at h
   · unfold nuRL at h
     split at h
     · cases h
     · split at h
       · cases h
       · cases h;exact Nat.zero_le _
   · split at h
     · unfold txtR at h
       split at h
       · cases h
       · rename_i y hy
         cases h
         have:=txt_len _ _ hy
         show y.1.length ≤ y.2 + 1
         omega
     · split at h
       · unfold wdR at h
         cases h
         show (List.take _ _).length ≤ _
         rw [List.length_take];exact Nat.min_le_left _ _
       · split at h
         · unfold errR at h
           split at h
           · cases h
           · cases h;exact Nat.zero_le _
         · unfold sgR at h
           split at h
           · cases h
           · cases h;exact Nat.le_refl _
theorem W_len (n : Nat) : ∀ (l : List UInt8) (p : Nat) (ts : List Tk),l.length ≤ n → W p l = .ok ts → ∀ t ∈ ts,t.2.2.1.length ≤ l.length:=by
 induction n with
 | zero =>
   intro l p ts hl h
   have : l = []:=List.eq_nil_of_length_eq_zero J2
   subst this
   rw [W_nil] at h
   cases h
   intro t ht;simp at ht;subst ht;simp [endT]
 | succ n ih =>
   intro l p ts hl h
   cases l with
   | nil =>
     rw [W_nil] at h
     cases h
     intro t ht;simp at ht;subst ht;simp [endT]
   | cons c r =>
     by_cases hc : c = 32
     · subst hc
       rw [W_blank] at h
       intro t ht
       have:=ih r (p + 1) ts J39 h t ht
       simp;omega
     · rw [W_cons p c r hc] at h
       cases hx : nxt (c :: r) with
       | error e=>rw [hx] at h;cases h
       | ok x =>
         rw [hx] at h
         simp only [] at h
         obtain ⟨us,hu,rfl⟩:=map_ok h
         have hm:=nxt_pos hx
         simp only [List.length_cons] at hm
         intro t ht
         rcases List.mem_cons.1 ht with rfl | ht
         · have:=nxt_len hx
           show x.2.1.length ≤ _
           simp;omega
         · have:=ih ((c :: r).drop x.2.2.2.2) (p + x.2.2.2.2) us J45 hu t ht
           simp at this ⊢;omega
theorem nxt_kd {l : List UInt8} {x : Wd} (h : nxt l = .ok x) : 0 ≤ x.1 ∧ x.1 ≤ 4:=by
 cases l with
 | nil=>cases h
 | cons c l =>
   rw [nxt_cons] at h
   split at h
   · unfold nuRL at h
     split at h
     · cases h
     · split at h
       · cases h
       · cases h;exact ⟨by show (0 : Int) ≤ 0;decide,by show (0 : Int) ≤ 4;decide⟩
   · split at h
     · unfold txtR at h
       split at h
       · cases h
       · cases h;exact ⟨by show (0 : Int) ≤ 1;decide,by show (1 : Int) ≤ 4;decide⟩
     · split at h
       · unfold wdR at h
         cases h;exact ⟨by show (0 : Int) ≤ 2;decide,by show (2 : Int) ≤ 4;decide⟩
       · split at h
         · unfold errR at h
           split at h
           · cases h
           · cases h;exact ⟨by show (0 : Int) ≤ 4;decide,by show (4 : Int) ≤ 4;decide⟩
         · unfold sgR at h
           split at h
           · cases h
           · cases h;exact ⟨by show (0 : Int) ≤ 3;decide,by show (3 : Int) ≤ 4;decide⟩
theorem W_kd (n : Nat) : ∀ (l : List UInt8) (p : Nat) (ts : List Tk),l.length ≤ n → W p l = .ok ts → ∀ t ∈ ts,0 ≤ t.1 ∧ t.1 ≤ 5 ∧ (t.1 = 5 → t.2.2.1 = []):=by
 have h5 : ∀ q,0 ≤ (endT q).1 ∧ (endT q).1 ≤ 5 ∧ ((endT q).1 = 5 → (endT q).2.2.1 = []):=fun q=>⟨by show (0 : Int) ≤ 5;decide,by show (5 : Int) ≤ 5;decide,fun _=>rfl⟩
 induction n with
 | zero =>
   intro l p ts hl h
   have : l = []:=List.eq_nil_of_length_eq_zero J2
   subst this
   rw [W_nil] at h
   cases h
   intro t ht;simp at ht;subst ht;exact h5 _
 | succ n ih =>
   intro l p ts hl h
   cases l with
   | nil =>
     rw [W_nil] at h
     cases h
     intro t ht;simp at ht;subst ht;exact h5 _
   | cons c r =>
     by_cases hc : c = 32
     · subst hc
       rw [W_blank] at h
       exact ih r (p + 1) ts J39 h
     · rw [W_cons p c r hc] at h
       cases hx : nxt (c :: r) with
       | error e=>rw [hx] at h;cases h
       | ok x =>
         rw [hx] at h
         simp only [] at h
         obtain ⟨us,hu,rfl⟩:=map_ok h
         have hm:=nxt_pos hx
         simp only [List.length_cons] at hm
         intro t ht
         rcases List.mem_cons.1 ht with rfl | ht
         · have:=nxt_kd hx
           show 0 ≤ x.1 ∧ x.1 ≤ 5 ∧ (x.1 = 5 → x.2.1 = [])
           exact ⟨this.1,by omega,fun h=>by omega⟩
         · exact ih ((c :: r).drop x.2.2.2.2) (p + x.2.2.2.2) us J45 hu t ht
end Go.Proofs.YtcfgbiaahangmaaGreatDoor

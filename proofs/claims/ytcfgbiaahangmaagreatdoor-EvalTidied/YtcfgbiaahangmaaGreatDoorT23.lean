import Derived.Test.YtcfgbiaahangmaaGreatDoorT22
set_option maxHeartbeats 6000000
namespace Go.Proofs.YtcfgbiaahangmaaGreatDoor
open Go.RowKit
def foL : List UInt8:=[40,41,44,58,60,61,62,43,45,42,47,38]
def Fo (r : List UInt8) : Prop:=r = [] ∨ ∃ c t,r = c :: t ∧ c ∈ foL
theorem Fo.head {r : List UInt8} (h : Fo r) (c : UInt8) (hc : r[0]? = some c) : c ∈ foL:=by
 exact K167
def tbopB (c : UInt8) : Bool:=dgB c || c == 34 || letB c || c == 35 || c == 45 || c == 40
def Op (r : List UInt8) : Prop:=∃ c t,r = c :: t ∧ tbopB c = true
abbrev Sk:=Int × List UInt8 × Int × Int
def stp (t : Tk) : Sk:=(t.1,t.2.2)
def Ws (l : List UInt8) (us : List Sk) (R : List UInt8 → Prop) : Prop:=∀ p r,R r → ∃ ts : List Tk,ts.map stp = us ∧ W p (l ++ r) = (W (p + l.length) r).map (fun xs=>ts ++ xs)
theorem Ws.mono {l : List UInt8} {us : List Sk} {R S : List UInt8 → Prop} (h : Ws l us R) (hR : ∀ r,S r → R r) : Ws l us S:=fun p r hr=>h p r (hR r hr)
theorem Ws.one {l : List UInt8} {k n e : Int} {s : List UInt8} {R : List UInt8 → Prop} (hl : ∃ c t,l = c :: t ∧ c ≠ 32) (h : ∀ r,R r → nxt (l ++ r) = .ok (k,s,n,e,l.length)) : Ws l [(k,s,n,e)] R:=by
 intro p r hr
 obtain ⟨c,t,rfl,hc⟩:=hl
 have hx:=h r hr
 refine ⟨[(k,(p : Int),s,n,e)],rfl,?_⟩
 rw [List.cons_append] at hx ⊢
 rw [W_at_one p hc hx]
 show (W (p + (c :: t).length) (List.drop (c :: t).length (c :: (t ++ r)))).map _ = _
 rw [← List.cons_append,List.drop_left]
 rfl
def LvK (o : Rd) (k : Nat) : Rd:=if k = 1 then frm o else if k = 2 then lv (lv (lv o 4) 3) 2 else if k = 3 then lv (lv o 4) 3 else if k = 4 then lv o 4 else o
theorem LvK_step (o : Rd) (k : Nat) (h1 : 1 ≤ k) (h4 : k ≤ 4) : LvK o k = lv (LvK o (k + 1)) k:=by
 have hh : k = 1 ∨ k = 2 ∨ k = 3 ∨ k = 4:=J2
 rcases hh with rfl | rfl | rfl | rfl <;> rfl
theorem LvK_top (o : Rd) (k : Nat) (h : 5 ≤ k) : LvK o k = o:=by
 unfold LvK
 rw [if_neg J2,if_neg J2,if_neg J2,if_neg J2]
theorem bnd_le4 (s : List UInt8) : bnd s ≤ 4:=by unfold bnd;repeat (first | (split;· omega) | omega)
def cl (o : Rd) (d : Nat) : Nat → Nat → T → List Tk → Rs
 | 0,_,x,ts=>.ok (x,ts)
 | f + 1,k,x,ts=>if (hd ts).1 = 3 ∧ k ≤ bnd (hd ts).2.2.1 then (match LvK o (bnd (hd ts).2.2.1 + 1) d ts.tail with
   | .error e=>.error e
   | .ok (y,ts2)=>cl o d f k (tBin (hd ts).2.2.1 x y) ts2) else .ok (x,ts)
theorem LvK_sh {n : Nat} {o : Rd} (ho : ShF n o) (k : Nat) : ShF n (LvK o k):=by
 unfold LvK
 split
 · exact frm_sh ho
 · split
   · exact lv_sh (lv_sh (lv_sh ho 4) 3) 2
   · split
     · exact lv_sh (lv_sh ho 4) 3
     · split
       · exact lv_sh ho 4
       · exact ho
theorem tk1_ok {d : Nat} (hd4 : d ≤ 40) (ts : List Tk) : tk1 d ts = .ok ts.tail:=by unfold tk1;rw [if_neg J2]
theorem tail_sh {ts : List Tk} (h : Nz ts) (h3 : (hd ts).1 = 3) : Nz ts.tail ∧ ts.tail.length + 1 = ts.length:=h.tail (by rw [h3];decide)
theorem lp_fuel {n : Nat} {F : Rd} (hF : ShF n F) (k d : Nat) : ∀ (f g : Nat) (x : T) (ts : List Tk),Nz ts → ts.length ≤ n → ts.length ≤ f → ts.length ≤ g → lp F k d f x ts = lp F k d g x ts:=by
 intro f
 induction f with
 | zero=>intro g x ts h _ h1 _;have:=h.pos;omega
 | succ f ih =>
   intro g x ts h hn h1 h2
   cases g with
   | zero=>have:=h.pos;omega
   | succ g =>
     unfold lp
     split
     · rename_i hk
       cases ht : tk1 d ts with
       | error e=>rfl
       | ok ts1 =>
         have s1:=tk1_sh h (by rw [hk.1];decide) ht
         show (match F d ts1 with | .error e=>(.error e : Rs) | .ok (y,ts2)=>lp F k d f (tBin (hd ts).2.2.1 x y) ts2) = (match F d ts1 with | .error e=>(.error e : Rs) | .ok (y,ts2)=>lp F k d g (tBin (hd ts).2.2.1 x y) ts2)
         cases hr : F d ts1 with
         | error e=>rfl
         | ok p =>
           obtain ⟨y,ts2⟩:=p
           have s2:=hF d ts1 s1.1 (by have:=s1.2;omega) y ts2 hr
           have a1:=s1.2
           have a2:=s2.2
           exact ih g _ ts2 s2.1 J2 J2 J2
     · rfl
theorem cl_fuel {n : Nat} {o : Rd} (ho : ShF n o) (k d : Nat) : ∀ (f g : Nat) (x : T) (ts : List Tk),Nz ts → ts.length ≤ n → ts.length ≤ f → ts.length ≤ g → cl o d f k x ts = cl o d g k x ts:=by
 intro f
 induction f with
 | zero=>intro g x ts h _ h1 _;have:=h.pos;omega
 | succ f ih =>
   intro g x ts h hn h1 h2
   cases g with
   | zero=>have:=h.pos;omega
   | succ g =>
     unfold cl
     split
     · rename_i hk
       have s1:=tail_sh h hk.1
       cases hr : LvK o (bnd (hd ts).2.2.1 + 1) d ts.tail with
       | error e=>rfl
       | ok p =>
         obtain ⟨y,ts2⟩:=p
         have s2:=LvK_sh ho _ d ts.tail s1.1 J2 y ts2 hr
         have a2:=s2.2
         exact ih g _ ts2 s2.1 J2 J2 J2
     · rfl
theorem cl_stop {n : Nat} {o : Rd} (ho : ShF n o) (k d : Nat) : ∀ (f : Nat) (x y : T) (ts ts' : List Tk),Nz ts → ts.length ≤ n → ts.length ≤ f → cl o d f k x ts = .ok (y,ts') → ¬ ((hd ts').1 = 3 ∧ k ≤ bnd (hd ts').2.2.1):=by
 intro f
 induction f with
 | zero=>intro x y ts ts' h _ h1 _;have:=h.pos;omega
 | succ f ih =>
   intro x y ts ts' h hn h1 e
   unfold cl at e
   split at e
   · rename_i hk
     have s1:=tail_sh h hk.1
     split at e
     · cases e
     · rename_i z ts2 hr
       have s2:=LvK_sh ho _ d ts.tail s1.1 J2 z ts2 hr
       have a2:=s2.2
       exact ih _ _ ts2 ts' s2.1 J2 J2 e
   · rename_i hk
     cases e;exact hk
def thenR (r : Rs) (g : T → List Tk → Rs) : Rs:=match r with
 | .error e=>.error e
 | .ok (x,ts)=>g x ts
def Clm (o : Rd) (n d k : Nat) : Prop:=∀ ts,Nz ts → ts.length ≤ n → LvK o k d ts = thenR (o d ts) (fun x ts1=>cl o d ts1.length k x ts1)
theorem clm_bind {n d k : Nat} {o : Rd} (ho : ShF n o) (hd4 : d ≤ 40) (hC : Clm o n d (k + 1)) : ∀ (f : Nat) (x : T) (ts : List Tk),Nz ts → ts.length ≤ n → ts.length ≤ f →
   thenR (cl o d f (k + 1) x ts) (fun x' ts'=>lp (LvK o (k + 1)) k d ts'.length x' ts') = cl o d f k x ts:=by
 intro f
 induction f with
 | zero=>intro x ts h _ h1 ;have:=h.pos;omega
 | succ f ih =>
   intro x ts h hn hf
   by_cases h3 : (hd ts).1 = 3
   · have s1:=tail_sh h h3
     by_cases hb : k + 1 ≤ bnd (hd ts).2.2.1
     · rw [cl,cl,if_pos ⟨h3,hb⟩,if_pos ⟨h3,by omega⟩]
       cases hr : LvK o (bnd (hd ts).2.2.1 + 1) d ts.tail with
       | error e=>rfl
       | ok p =>
         obtain ⟨y,ts2⟩:=p
         have s2:=LvK_sh ho _ d ts.tail s1.1 J2 y ts2 hr
         have a2:=s2.2
         exact ih _ ts2 s2.1 J2 J2
     · by_cases hk : bnd (hd ts).2.2.1 = k
       · rw [cl,cl,if_neg (by rintro ⟨_,h⟩;omega),if_pos ⟨h3,by omega⟩]
         show lp (LvK o (k + 1)) k d ts.length x ts = _
         obtain ⟨g,hg⟩ : ∃ g,ts.length = g + 1:=⟨ts.length - 1,by omega⟩
         rw [hg,lp,if_pos ⟨h3,hk⟩,tk1_ok hd4,hk]
         show (match LvK o (k + 1) d ts.tail with | .error e=>(.error e : Rs) | .ok (y,ts2)=>lp (LvK o (k + 1)) k d g (tBin (hd ts).2.2.1 x y) ts2) = _
         cases hr : LvK o (k + 1) d ts.tail with
         | error e=>rfl
         | ok p =>
           obtain ⟨y,ts2⟩:=p
           have s2:=LvK_sh ho _ d ts.tail s1.1 J2 y ts2 hr
           have a2:=s2.2
           show lp (LvK o (k + 1)) k d g (tBin (hd ts).2.2.1 x y) ts2 = cl o d f k (tBin (hd ts).2.2.1 x y) ts2
           rw [← ih _ ts2 s2.1 J2 J2]
           have hstop : ¬ ((hd ts2).1 = 3 ∧ k + 1 ≤ bnd (hd ts2).2.2.1):=by
             rw [hC ts.tail s1.1 J2] at hr
             cases ho1 : o d ts.tail with
             | error e=>rw [ho1] at hr;cases hr
             | ok q =>
               obtain ⟨z,ts3⟩:=q
               rw [ho1] at hr
               have s3:=ho d ts.tail s1.1 J2 z ts3 ho1
               have a3:=s3.2
               exact cl_stop ho (k + 1) d _ _ _ ts3 ts2 s3.1 J2 nrf hr
           have hcl : cl o d f (k + 1) (tBin (hd ts).2.2.1 x y) ts2 = .ok (tBin (hd ts).2.2.1 x y,ts2):=by
             cases f with
             | zero=>rfl
             | succ f=>rw [cl,if_neg hstop]
           rw [hcl]
           exact lp_fuel (LvK_sh ho _) k d g ts2.length _ ts2 s2.1 J2 J2 nrf
       · rw [cl,cl,if_neg (by rintro ⟨_,h⟩;omega),if_neg (by rintro ⟨_,h⟩;omega)]
         show lp (LvK o (k + 1)) k d ts.length x ts = _
         obtain ⟨g,hg⟩ : ∃ g,ts.length = g + 1:=⟨ts.length - 1,by omega⟩
         rw [hg,lp,if_neg (by rintro ⟨_,h⟩;exact hk h)]
   · rw [cl,cl,if_neg (by rintro ⟨h,_⟩;exact h3 h),if_neg (by rintro ⟨h,_⟩;exact h3 h)]
     show lp (LvK o (k + 1)) k d ts.length x ts = _
     obtain ⟨g,hg⟩ : ∃ g,ts.length = g + 1:=⟨ts.length - 1,by have:=h.pos;omega⟩
     rw [hg,lp,if_neg (by rintro ⟨h,_⟩;exact h3 h)]
theorem clm5 (o : Rd) (n d : Nat) (ho : ShF n o) : Clm o n d 5:=by
 intro ts h hn
 rw [LvK_top o 5 J2]
 cases ho1 : o d ts with
 | error e=>rfl
 | ok q =>
   obtain ⟨z,ts3⟩:=q
   have s3:=ho d ts h hn z ts3 ho1
   show _ = cl o d ts3.length 5 z ts3
   obtain ⟨g,hg⟩ : ∃ g,ts3.length = g + 1:=⟨ts3.length - 1,by have:=s3.1.pos;omega⟩
   rw [hg,cl,if_neg (by rintro ⟨_,h⟩;have:=bnd_le4 (hd ts3).2.2.1;omega)]
theorem clm_down {n d k : Nat} {o : Rd} (ho : ShF n o) (hd4 : d ≤ 40) (h1 : 1 ≤ k) (h4 : k ≤ 4) (hC : Clm o n d (k + 1)) : Clm o n d k:=by
 intro ts h hn
 rw [LvK_step o k h1 h4]
 unfold lv
 rw [hC ts h hn]
 cases ho1 : o d ts with
 | error e=>rfl
 | ok q =>
   obtain ⟨z,ts3⟩:=q
   have s3:=ho d ts h hn z ts3 ho1
   have a3:=s3.2
   show (match cl o d ts3.length (k + 1) z ts3 with | .error e=>(.error e : Rs) | .ok (x,ts1)=>lp (LvK o (k + 1)) k d ts1.length x ts1) = cl o d ts3.length k z ts3
   exact clm_bind ho hd4 hC ts3.length z ts3 s3.1 J2 nrf
theorem clm_all {n d : Nat} {o : Rd} (ho : ShF n o) (hd4 : d ≤ 40) (k : Nat) (h1 : 1 ≤ k) (h5 : k ≤ 5) : Clm o n d k:=by
 have c5:=clm5 o n d ho
 have c4:=clm_down ho hd4 J6 J6 c5
 have c3:=clm_down ho hd4 J6 J6 c4
 have c2:=clm_down ho hd4 J6 J6 c3
 have c1:=clm_down ho hd4 J6 J6 c2
 have hh : k = 1 ∨ k = 2 ∨ k = 3 ∨ k = 4 ∨ k = 5:=J2
 rcases hh with rfl | rfl | rfl | rfl | rfl <;> assumption
theorem O_deep (n d : Nat) (h : 40 < d) (ts : List Tk) : ∃ e,O n d ts = .error e:=by
 have ht : ∀ ts,tk1 d ts = .error (ft ts true):=fun ts=>if_pos h
 cases n with
 | zero=>exact ⟨_,rfl⟩
 | succ n =>
   show ∃ e,opn (frm (O n)) (O n) d ts = .error e
   unfold opn
   split
   · rw [ht];exact ⟨_,rfl⟩
   · unfold smp one
     rw [ht]
     split
     · exact ⟨_,rfl⟩
     · split
       · exact ⟨_,rfl⟩
       · split
         · exact ⟨_,rfl⟩
         · split
           · unfold wrd one
             rw [ht]
             split
             · exact ⟨_,rfl⟩
             · split
               · exact ⟨_,rfl⟩
               · split
                 · exact ⟨_,rfl⟩
                 · have hr : ∃ e,refr d ts = .error e:=by
                     unfold refr
                     rw [ht]
                     split <;> exact ⟨_,rfl⟩
                   obtain ⟨e,he⟩:=hr
                   rw [he];exact ⟨_,rfl⟩
           · have hr : ∃ e,pass1 [40] d ts = .error e:=by
               unfold pass1
               rw [ht]
               split <;> exact ⟨_,rfl⟩
             obtain ⟨e,he⟩:=hr
             unfold brk
             rw [he];exact ⟨_,rfl⟩
theorem LvK_deep (n d k : Nat) (h : 40 < d) (ts : List Tk) : ∃ e,LvK (O n) k d ts = .error e:=by
 have one : ∀ (F : Rd) (j : Nat),(∀ ts,∃ e,F d ts = .error e) → ∀ ts,∃ e,lv F j d ts = .error e:=by
   intro F j hF ts
   obtain ⟨e,he⟩:=hF ts
   exact ⟨e,by unfold lv;rw [he]⟩
 have o0:=O_deep n d h
 unfold LvK
 split
 · exact one _ _ (one _ _ (one _ _ (one _ _ o0))) ts
 · split
   · exact one _ _ (one _ _ (one _ _ o0)) ts
   · split
     · exact one _ _ (one _ _ o0) ts
     · split
       · exact one _ _ o0 ts
       · exact o0 ts
theorem not_kn {s : List UInt8} (h : okP s = true) (L : List (List UInt8)) (hL : L.all (fun t=>!okP t) = true) : s ∉ L:=by
 intro hm
 have:=List.all_eq_true.mp hL s hm
 rw [h] at this
 cases this
theorem kno_ok {s : List UInt8} (h : okP s = true) : kno s = none ∧ s ≠ wTrue ∧ s ≠ wFalse:=by
 refine ⟨?_,fun hh=>?_,fun hh=>?_⟩
 · unfold kno
   rw [if_neg (not_kn h kn1 J3),if_neg (not_kn h kn2 J3),if_neg (not_kn h kn3 J3),if_neg (not_kn h kn4 J3),if_neg (not_kn h kn5 J3)]
 · have e : okP wTrue = false:=J3
   rw [hh,e] at h;cases h
 · have e : okP wFalse = false:=J3
   rw [hh,e] at h;cases h
theorem brk_len {n d : Nat} {F : Rd} (hF : ShF n F) {ts ts1 : List Tk} {x : T} (h : Nz ts) (hn : ts.length ≤ n + 1) (e : brk F d ts = .ok (x,ts1)) : ts1.length + 3 ≤ ts.length:=by
 unfold brk at e
 split at e
 · cases e
 · rename_i us1 h1
   have s1:=pass1_sh h h1
   have a1:=s1.2
   split at e
   · cases e
   · rename_i y us2 h2
     have s2:=hF _ _ s1.1 J2 y us2 h2
     have a2:=s2.2
     split at e
     · cases e
     · rename_i us3 h3
       have s3:=pass1_sh s2.1 h3
       have a3:=s3.2
       cases e
       omega
theorem call_k {F : Rd} {s : List UInt8} {a b d : Nat} {ts ts1 : List Tk} {x : T} (e : call F s a b d ts = .ok (x,ts1)) : x.k = 8:=by
 unfold call at e
 split at e
 · cases e
 · cases e;rfl
theorem brk_k {F : Rd} {d : Nat} {ts ts1 : List Tk} {x : T} (e : brk F d ts = .ok (x,ts1)) : ∃ us us1,F (d + 1) us = .ok (x,us1):=by
 unfold brk at e
 split at e
 · cases e
 · rename_i us1 h1
   split at e
   · cases e
   · rename_i y us2 h2
     split at e
     · cases e
     · cases e;exact ⟨_,_,h2⟩
theorem O_one {n d : Nat} (hd4 : d ≤ 40) {ts ts1 : List Tk} {x : T} (h : Nz ts) (hn : ts.length ≤ n) (e : O n d ts = .ok (x,ts1)) (h4 : x.k = 4) (hl : ts.length = ts1.length + 1) :
   (hd ts).1 = 2 ∧ okP (hd ts).2.2.1 = true ∧ ts1 = ts.tail:=by
 cases n with
 | zero=>cases e
 | succ n =>
   change opn (frm (O n)) (O n) d ts = _ at e
   unfold opn at e
   split at e
   · rw [tk1_ok hd4] at e
     dsimp only at e
     split at e
     · cases e
     · cases e;cases h4
   · unfold smp one at e
     rw [tk1_ok hd4] at e
     split at e
     · cases e;cases h4
     · split at e
       · cases e;cases h4
       · split at e
         · cases e;cases h4
         · split at e
           · rename_i hk
             unfold wrd one at e
             rw [tk1_ok hd4] at e
             split at e
             · cases e;cases h4
             · split at e
               · cases e;cases h4
               · split at e
                 · obtain ⟨us,us1,hc⟩:=brk_k e
                   rw [call_k hc] at h4
                   cases h4
                 · unfold refr at e
                   by_cases ho : (hd ts).1 = 2 ∧ okP (hd ts).2.2.1 = true
                   · rw [if_pos ho,tk1_ok hd4] at e
                     cases e
                     exact ⟨ho.1,ho.2,rfl⟩
                   · rw [if_neg ho] at e
                     cases e
           · have:=brk_len (frm_sh (O_sh n)) h hn e
             omega
theorem cl_k {o : Rd} (k d : Nat) : ∀ (f : Nat) (x y : T) (ts ts' : List Tk),cl o d f k x ts = .ok (y,ts') → (y = x ∧ ts' = ts) ∨ y.k = 7:=by
 intro f
 induction f with
 | zero=>intro x y ts ts' e;cases e;exact .inl ⟨rfl,rfl⟩
 | succ f ih =>
   intro x y ts ts' e
   unfold cl at e
   split at e
   · split at e
     · cases e
     · rcases ih _ _ _ _ e with ⟨h,_⟩ | h
       · exact .inr (by rw [h];rfl)
       · exact .inr h
   · cases e;exact .inl ⟨rfl,rfl⟩
theorem O_ref {n d : Nat} (hd4 : d ≤ 40) {ts : List Tk} (h2 : (hd ts).1 = 2) (ho : okP (hd ts).2.2.1 = true) : O (n + 1) d ts = .ok (tRef (rfP (hd ts).2.2.1),ts.tail):=by
 obtain ⟨a1,a2,a3⟩:=kno_ok ho
 show opn (frm (O n)) (O n) d ts = _
 have hs : isSg [45] ts = false:=by unfold isSg;rw [h2];rfl
 unfold opn smp wrd refr
 rw [hs,if_neg J6,if_neg J2,if_neg J2,if_neg J2,if_pos h2,if_neg a2,if_neg a3,a1,if_pos ⟨h2,ho⟩,tk1_ok hd4]
theorem argm_doc {n d : Nat} (hd4 : d ≤ 40) {ts : List Tk} (h : Nz ts) (hn : ts.length ≤ n) : argm (frm (O n)) d ts =
   if (hd ts).1 = 2 ∧ okP (hd ts).2.2.1 = true ∧ isSg [58] ts.tail = true then (match refr d ts.tail.tail with | .error e=>.error e | .ok (q,ts3)=>.ok (tRange (rfP (hd ts).2.2.1) q,ts3)) else frm (O n) d ts:=by
 have hC : frm (O n) d ts = thenR (O n d ts) (fun x ts1=>cl (O n) d ts1.length 1 x ts1):=clm_all (O_sh n) hd4 1 J6 J6 ts h hn
 by_cases hc : (hd ts).1 = 2 ∧ okP (hd ts).2.2.1 = true ∧ isSg [58] ts.tail = true
 · rw [if_pos hc]
   obtain ⟨c1,c2,c3⟩:=hc
   obtain ⟨m,rfl⟩ : ∃ m,n = m + 1:=⟨n - 1,by have:=h.pos;omega⟩
   rw [O_ref hd4 c1 c2] at hC
   have ht:=h.tail (by rw [c1];decide)
   have hcl : cl (O (m + 1)) d ts.tail.length 1 (tRef (rfP (hd ts).2.2.1)) ts.tail = .ok (tRef (rfP (hd ts).2.2.1),ts.tail):=by
     obtain ⟨g,hg⟩ : ∃ g,ts.tail.length = g + 1:=⟨ts.tail.length - 1,by have:=ht.1.pos;omega⟩
     rw [hg,cl,if_neg]
     rintro ⟨_,h1⟩
     rw [(isSg_k c3).2] at h1
     exact absurd h1 J6
   have hF : frm (O (m + 1)) d ts = .ok (tRef (rfP (hd ts).2.2.1),ts.tail):=hC.trans hcl
   unfold argm
   rw [hF]
   dsimp only
   rw [if_pos ⟨rfl,ht.2.symm,c3⟩,tk1_ok hd4]
   rfl
 · rw [if_neg hc]
   unfold argm
   cases hF : frm (O n) d ts with
   | error e=>rfl
   | ok q =>
     obtain ⟨x,ts1⟩:=q
     dsimp only
     rw [if_neg]
     rintro ⟨h4,hl,h58⟩
     rw [hF] at hC
     cases hO : O n d ts with
     | error e=>rw [hO] at hC;cases hC
     | ok q =>
       obtain ⟨y,us⟩:=q
       rw [hO] at hC
       rcases cl_k 1 d _ _ _ _ _ hC.symm with ⟨rfl,rfl⟩ | h7
       · obtain ⟨a1,a2,a3⟩:=O_one hd4 h hn hO h4 hl
         exact hc ⟨a1,a2,a3 ▸ h58⟩
       · rw [h7] at h4;cases h4
theorem OwX.zero {W W' : World} {base g : Nat} (hW : W' = W.alloc (.cells #[] 43)) (hg : g = W.heap.size) (hb : base ≤ g) : OwX W' base (.slice (some ⟨g,0,none⟩) 0 0) []:=by
 subst hW hg
 refine ⟨⟨rfl,.inr ⟨W.heap.size,0,#[],rfl,hb,?_,Nat.le_refl _,Nat.zero_le _,rfl,rfl⟩⟩,fun p hp=>by cases hp⟩
 show (W.heap.push _)[W.heap.size]? = _;simp
theorem OwX.ext {w w' : World} {base : Nat} {v : Value} {ps : List (T × Value)} (h : OwX w base v ps) (e : Ext w w') : OwX w' base v ps:=by
 refine ⟨⟨h.1.1,?_⟩,fun p hp=>(h.2 p hp).ext e⟩
 rcases h.1.2 with h2 | ⟨g,cap,cur,h1,h2,h3,h4⟩
 · exact .inl h2
 · exact .inr ⟨g,cap,cur,h1,h2,(e.block g (heap_lt h3)).trans h3,h4⟩
theorem BlkX.grown {W W' : World} {base g : Nat} {v lv : Value} {t : T} {ps : List (T × Value)} (B : BlkX W g t lv) (h : W.grownBy W' v.ownBlock) (hB : OwX W base v ps) (hg : g < base) : BlkX W' g t lv:=by
 exact K32
end Go.Proofs.YtcfgbiaahangmaaGreatDoor

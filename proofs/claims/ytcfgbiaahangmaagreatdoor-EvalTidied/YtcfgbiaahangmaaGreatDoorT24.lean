import Derived.Test.YtcfgbiaahangmaaGreatDoorT23
set_option maxHeartbeats 6000000
namespace Go.Proofs.YtcfgbiaahangmaaGreatDoor
open Go.RowKit
def maxD (f : T → Nat) : List T → Nat
 | []=>0
 | x :: r=>max (f x) (maxD f r)
def b1 (b : Bool) : Nat:=if b then 1 else 0
def dpT : Nat → T → Nat
 | 0,_=>0
 | n + 1,t=>if t.k = 6 then 1 + (b1 (loose 5 (hdT t.l)) + dpT n (hdT t.l)) else if t.k = 7 then max (b1 (loose (bnd t.s) (hdT t.l)) + dpT n (hdT t.l)) (b1 (loose (bnd t.s + 1) (sdT t.l)) + dpT n (sdT t.l)) else if t.k = 8 then 1 + maxD (dpT n) t.l else 0
theorem Nz.pre {ts : List Tk} (h : Nz ts) (us : List Tk) : Nz (us ++ ts):=by
 obtain ⟨p,t,rfl,h1⟩:=h
 exact ⟨us ++ p,t,by rw [List.append_assoc],h1⟩
theorem kno_le' {s : List UInt8} {a b : Nat} (h : kno s = some (a,b)) : 1 ≤ a ∧ a ≤ b ∧ b ≤ 20:=by
 unfold kno at h
 split at h
 · cases h;decide
 · split at h
   · cases h;decide
   · split at h
     · cases h;decide
     · split at h
       · cases h;decide
       · split at h
         · cases h;decide
         · cases h
theorem hr_mono (n : Nat) : ∀ (m : Nat) (t : T),Hr n t → n ≤ m → Hr m t:=by
 induction n with
 | zero=>intro m t h;cases h
 | succ n ih =>
   intro m t h hm
   cases m with
   | zero=>omega
   | succ m=>exact ⟨h.1,fun x hx=>ih m x (h.2 x hx) J2⟩
theorem sz_mono (n : Nat) : ∀ (m : Nat) (t : T),Hr n t → n ≤ m → szT m t = szT n t:=by
 induction n with
 | zero=>intro m t h;cases h
 | succ n ih =>
   intro m t h hm
   cases m with
   | zero=>omega
   | succ m =>
     rw [szT,szT,List.map_congr_left (fun x hx=>ih m x (h.2 x hx) J2)]
theorem all_congr' {f g : T → Bool} (l : List T) (h : ∀ x ∈ l,f x = g x) : l.all f = l.all g:=by
 induction l with
 | nil=>rfl
 | cons a l ih=>rw [List.all_cons,List.all_cons,h a List.mem_cons_self,ih (fun x hx=>h x (List.mem_cons_of_mem _ hx))]
theorem wl_mono (n : Nat) : ∀ (m : Nat) (t : T),Hr n t → n ≤ m → wellT m t = wellT n t:=by
 induction n with
 | zero=>intro m t h;cases h
 | succ n ih =>
   intro m t h hm
   cases m with
   | zero=>omega
   | succ m =>
     rw [wellT,wellT,all_congr' t.l (fun x hx=>ih m x (h.2 x hx) J2),all_congr' t.l (f:=fun x=>if x.k = 5 then inB x.r.1 x.r.2.1 && inB x.q.1 x.q.2.1 else wellT m x) (g:=fun x=>if x.k = 5 then inB x.r.1 x.r.2.1 && inB x.q.1 x.q.2.1 else wellT n x) (fun x hx=>by rw [ih m x (h.2 x hx) J2])]
theorem maxD_congr {f g : T → Nat} (l : List T) (h : ∀ x ∈ l,f x = g x) : maxD f l = maxD g l:=by
 induction l with
 | nil=>rfl
 | cons a l ih =>
   show max (f a) (maxD f l) = max (g a) (maxD g l)
   rw [h a List.mem_cons_self,ih (fun x hx=>h x (List.mem_cons_of_mem _ hx))]
theorem hdT_mem (l : List T) : hdT l ∈ l ∨ hdT l = tz:=by
 cases l with
 | nil=>exact .inr rfl
 | cons a l=>exact .inl List.mem_cons_self
theorem sdT_mem (l : List T) : sdT l ∈ l ∨ sdT l = tz:=by
 cases l with
 | nil=>exact .inr rfl
 | cons a l=>cases l with
   | nil=>exact .inr rfl
   | cons b l=>exact .inl (List.mem_cons_of_mem _ List.mem_cons_self)
theorem dp_tz (n : Nat) : dpT n tz = 0:=by cases n <;> rfl
theorem dp_mono (n : Nat) : ∀ (m : Nat) (t : T),Hr n t → n ≤ m → dpT m t = dpT n t:=by
 induction n with
 | zero=>intro m t h;cases h
 | succ n ih =>
   intro m t h hm
   cases m with
   | zero=>omega
   | succ m =>
     have e1 : dpT m (hdT t.l) = dpT n (hdT t.l):=by
       rcases hdT_mem t.l with h1 | h1
       · exact ih m _ (h.2 _ h1) J2
       · rw [h1,dp_tz,dp_tz]
     have e2 : dpT m (sdT t.l) = dpT n (sdT t.l):=by
       rcases sdT_mem t.l with h1 | h1
       · exact ih m _ (h.2 _ h1) J2
       · rw [h1,dp_tz,dp_tz]
     rw [dpT,dpT,e1,e2,maxD_congr t.l (fun x hx=>ih m x (h.2 x hx) J2)]
theorem ar_mono (n m : Nat) (t : T) (h : Hr n t) (hm : n ≤ m) : argT m t = argT n t:=by
 unfold argT;rw [wl_mono n m t h hm]
structure GT (c d k : Nat) (x : T) : Prop where
 wf : Wf x
 hr : Hr c x
 wl : wellT c x = true
 sz : szT c x ≤ c
 dp : d + (b1 (loose k x) + dpT c x) ≤ 40
theorem GT.mono {c c' d k : Nat} {x : T} (h : GT c d k x) (hc : c ≤ c') : GT c' d k x :=
 ⟨h.wf,hr_mono c c' x h.hr hc,by rw [wl_mono c c' x h.hr hc];exact h.wl,by rw [sz_mono c c' x h.hr hc];have:=h.sz;omega,by rw [dp_mono c c' x h.hr hc];exact h.dp⟩
theorem b1_le (b : Bool) : b1 b ≤ 1:=by cases b <;> decide
theorem loose_le {k k' : Nat} (h : k' ≤ k) (x : T) : b1 (loose k' x) ≤ b1 (loose k x):=by
 unfold loose b1
 cases x.k == 7
 · simp
 · simp only [Bool.true_and,decide_eq_true_eq]
   split <;> split <;> omega
theorem GT.up {c d k k' : Nat} {x : T} (h : GT c d k x) (hk : k' ≤ k) : GT c d k' x :=
 ⟨h.wf,h.hr,h.wl,h.sz,by have:=h.dp;have:=loose_le hk x;omega⟩
def TkO (t : Tk) : Prop:=(t.1 = 0 → 0 ≤ t.2.2.2.1 ∧ t.2.2.2.1 ≤ 9223372036854775807) ∧ (t.1 = 4 → 1 ≤ t.2.2.2.2 ∧ t.2.2.2.2 ≤ 5) ∧ t.2.2.1.length ≤ 300
def GF (F : Rd) (k : Nat) : Prop:=∀ (d : Nat) (ts : List Tk) (x : T) (us : List Tk),(∀ t ∈ ts,TkO t) → F d ts = .ok (x,us) → ∃ c,1 ≤ c ∧ ts.length = us.length + c ∧ (∀ t ∈ us,t ∈ ts) ∧ GT c d k x
theorem tk1_is {d : Nat} {ts us : List Tk} (h : tk1 d ts = .ok us) : d ≤ 40 ∧ us = ts.tail:=by
 unfold tk1 at h
 split at h
 · cases h
 · cases h;exact ⟨by omega,rfl⟩
theorem ne_of_kd {ts : List Tk} {k : Int} (h : (hd ts).1 = k) (hk : k ≠ 5) : ∃ t r,ts = t :: r:=by
 cases ts with
 | nil=>exact absurd h.symm hk
 | cons t r=>exact ⟨t,r,rfl⟩
theorem sg_ne {p : List UInt8} {ts : List Tk} (h : isSg p ts = true) : ∃ t r,ts = t :: r ∧ t.1 = 3 ∧ t.2.2.1 = p:=by
 cases ts with
 | nil=>simp [isSg,hd] at h
 | cons t r=>simp [isSg,hd] at h;exact ⟨t,r,rfl,h.1,h.2⟩
theorem pass_is {p : List UInt8} {d : Nat} {ts us : List Tk} (h : pass1 p d ts = .ok us) : d ≤ 40 ∧ ∃ t,ts = t :: us:=by
 unfold pass1 at h
 split at h
 · rename_i h1
   obtain ⟨t,r,rfl,_⟩:=sg_ne h1
   obtain ⟨h2,h3⟩:=tk1_is h
   exact ⟨h2,t,by rw [h3];rfl⟩
 · cases h
theorem i64_0 : I64 0:=⟨by decide,by decide⟩
theorem wf_leaf (t : T) (h : t.l = []) (h1 : I64 t.k) (h2 : I64 t.n) (h3 : t.s.length ≤ maxLen) (h4 : I64 t.e) (h5 : I64 t.r.1) (h6 : I64 t.r.2.1) (h7 : I64 t.q.1) (h8 : I64 t.q.2.1) : Wf t:=.mk t h1 h2 h3 h4 h5 h6 h7 h8 (by rw [h];intro x hx;cases hx)
theorem gt_leaf {c d k : Nat} {x : T} (hc : 1 ≤ c) (hd : d ≤ 40) (hw : Wf x) (hl : x.l = []) (hk : x.k ≠ 6 ∧ x.k ≠ 7 ∧ x.k ≠ 8) (hwl : wellT 1 x = true) : GT c d k x:=by
 have h1 : Hr 1 x:=⟨by rw [hl];exact Nat.zero_le _,by rw [hl];intro y hy;cases hy⟩
 refine (GT.mk hw h1 hwl ?_ ?_ : GT 1 d k x).mono hc
 · rw [szT,hl];exact Nat.le_refl _
 · have e1 : loose k x = false:=by unfold loose;simp [hk.2.1]
   rw [dpT,if_neg hk.1,if_neg hk.2.1,if_neg hk.2.2,e1];exact hd
theorem one_gt {d k : Nat} {ts us : List Tk} {x y : T} (h : one d ts x = .ok (y,us)) (hne : ∃ t r,ts = t :: r) (hw : Wf x) (hl : x.l = []) (hk : x.k ≠ 6 ∧ x.k ≠ 7 ∧ x.k ≠ 8) (hwl : wellT 1 x = true) : ∃ c,1 ≤ c ∧ ts.length = us.length + c ∧ (∀ t ∈ us,t ∈ ts) ∧ GT c d k y:=by
 unfold one at h
 split at h
 · cases h
 · rename_i ts1 h1
   cases h
   obtain ⟨hd,h2⟩:=tk1_is h1
   obtain ⟨t,r,rfl⟩:=hne
   subst h2
   exact ⟨1,Nat.le_refl _,rfl,fun z hz=>List.mem_cons_of_mem _ hz,gt_leaf nrf hd hw hl hk hwl⟩
structure GL (c d : Nat) (l : List T) : Prop where
 each : ∀ x ∈ l,Wf x ∧ Hr c x ∧ argT c x = true ∧ d + dpT c x ≤ 40
 sz : (l.map (szT c)).sum ≤ c
 len : l.length ≤ c
theorem GL.mono {c c' d : Nat} {l : List T} (h : GL c d l) (hc : c ≤ c') : GL c' d l:=by
 refine ⟨fun x hx=>?_,?_,Nat.le_trans h.len hc⟩
 · obtain ⟨h1,h2,h3,h4⟩:=h.each x hx
   exact ⟨h1,hr_mono c c' x h2 hc,by rw [ar_mono c c' x h2 hc];exact h3,by rw [dp_mono c c' x h2 hc];exact h4⟩
 · rw [List.map_congr_left (fun x hx=>sz_mono c c' x (h.each x hx).2.1 hc)]
   exact Nat.le_trans h.sz hc
theorem GL.snoc {c c2 d : Nat} {l : List T} {x : T} (h : GL c d l) (h1 : 1 ≤ c2) (hx : Wf x ∧ Hr c2 x ∧ argT c2 x = true ∧ d + dpT c2 x ≤ 40) (hs : szT c2 x ≤ c2) : GL (c + c2) d (l ++ [x]):=by
 have hl:=h.mono (Nat.le_add_right c c2)
 have e : szT (c + c2) x = szT c2 x:=sz_mono c2 (c + c2) x hx.2.1 J2
 refine ⟨fun y hy=>?_,?_,?_⟩
 · rcases List.mem_append.1 hy with hy | hy
   · exact hl.each y hy
   · simp at hy;subst hy
     exact ⟨hx.1,hr_mono c2 _ y hx.2.1 J2,by rw [ar_mono c2 (c + c2) y hx.2.1 J2];exact hx.2.2.1,by rw [dp_mono c2 (c + c2) y hx.2.1 J2];exact hx.2.2.2⟩
 · rw [List.map_append,List.sum_append]
   have : (l.map (szT (c + c2))).sum ≤ c:=by
     rw [List.map_congr_left (fun y hy=>sz_mono c (c + c2) y (h.each y hy).2.1 J2)];exact h.sz
   simp only [List.map_cons,List.map_nil,List.sum_cons,List.sum_nil]
   omega
 · rw [List.length_append];have:=h.len;simp;omega
theorem wa_k5' {n : Nat} {t : T} (h : wellT n t = true) : ¬ t.k = 5:=by
 intro k5
 cases n with
 | zero=>cases h
 | succ n=>rw [wellT,k5] at h;simp at h
theorem wa_arg' {n : Nat} {t : T} (h : wellT n t = true) : argT n t = true:=by
 unfold argT;rw [if_neg (wa_k5' h)];exact h
theorem inB_bd {r c : Int} (h : inB r c = true) : I64 r ∧ I64 c:=by
 unfold inB at h
 simp at h
 exact ⟨⟨by omega,by omega⟩,⟨by omega,by omega⟩⟩
theorem refr_gt {d : Nat} {ts us : List Tk} {r : Rf} (h : refr d ts = .ok (r,us)) : d ≤ 40 ∧ (∃ t,ts = t :: us) ∧ inB r.1 r.2.1 = true:=by
 unfold refr at h
 split at h
 · rename_i h1
   split at h
   · cases h
   · rename_i ts1 h2
     cases h
     obtain ⟨t,q,rfl⟩:=ne_of_kd h1.1 J6
     obtain ⟨h3,h4⟩:=tk1_is h2
     exact ⟨h3,⟨t,by rw [h4];rfl⟩,h1.2⟩
 · cases h
theorem argm_gt {F : Rd} (hF : GF F 1) (d : Nat) (ts : List Tk) (x : T) (us : List Tk) (hT : ∀ t ∈ ts,TkO t) (h : argm F d ts = .ok (x,us)) : ∃ c,1 ≤ c ∧ ts.length = us.length + c ∧ (∀ t ∈ us,t ∈ ts) ∧ (Wf x ∧ Hr c x ∧ argT c x = true ∧ d + dpT c x ≤ 40) ∧ szT c x ≤ c:=by
 unfold argm at h
 split at h
 · cases h
 · rename_i y ts1 h1
   obtain ⟨c,c1,c2,c3,g⟩:=hF d ts y ts1 hT h1
   split at h
   · rename_i hc
     split at h
     · cases h
     · rename_i ts2 h2
       split at h
       · cases h
       · rename_i q ts3 h3
         cases h
         obtain ⟨hd,h4⟩:=tk1_is h2
         obtain ⟨t1,r1,rfl,_⟩:=sg_ne hc.2.2
         have h4' : ts2 = r1:=h4
         rw [h4'] at h3
         obtain ⟨_,⟨t2,h5⟩,hq⟩:=refr_gt h3
         have hr : inB y.r.1 y.r.2.1 = true:=by
           have hw:=g.wl
           cases c with
           | zero=>cases hw
           | succ c=>rw [wellT,hc.1] at hw;simpa using hw
         have h6 : r1 = t2 :: us:=h5
         refine ⟨c + 2,by omega,?_,?_,⟨?_,?_,?_,?_⟩,?_⟩
         · rw [c2,h6];simp;omega
         · intro t ht;exact c3 t (by rw [h6];simp [ht])
         · exact wf_leaf _ rfl (show I64 (5 : Int) from ⟨by decide,by decide⟩) i64_0 (Nat.zero_le _) i64_0 (inB_bd hr).1 (inB_bd hr).2 (inB_bd hq).1 (inB_bd hq).2
         · exact ⟨Nat.zero_le _,fun z hz=>by cases hz⟩
         · unfold argT;rw [if_pos (show (tRange y.r q).k = 5 from rfl)]
           show (inB y.r.1 y.r.2.1 && inB q.1 q.2.1) = true
           rw [hr,hq];rfl
         · show d + 0 ≤ 40;omega
         · show 1 + 0 ≤ _;omega
   · cases h
     exact ⟨c,c1,c2,c3,⟨g.wf,g.hr,wa_arg' g.wl,by have:=g.dp;omega⟩,g.sz⟩
theorem argl_gt {F : Rd} (hF : GF F 1) (a b d : Nat) (hab : a ≤ b) (f : Nat) : ∀ (l l' : List T) (ts us : List Tk) (c : Nat),(∀ t ∈ ts,TkO t) → ts.length ≤ f → l.length ≤ b → GL c d l → argl F a b d f l ts = .ok (l',us) →
   ∃ c',ts.length = us.length + c' ∧ (∀ t ∈ us,t ∈ ts) ∧ GL (c + c') d l' ∧ l'.length ≤ b ∧ (a ≤ l'.length ∨ us = []):=by
 induction f with
 | zero =>
   intro l l' ts us c hT hf hl hg e
   unfold argl at e
   cases e
   exact ⟨0,rfl,fun _ h=>h,hg,hl,.inr (List.eq_nil_of_length_eq_zero J2)⟩
 | succ f ih =>
   intro l l' ts us c hT hf hl hg e
   unfold argl at e
   split at e
   · rename_i hc
     split at e
     · cases e
     · rename_i ts1 h1
       split at e
       · cases e
       · rename_i x ts2 h2
         obtain ⟨_,t1,rfl⟩:=pass_is h1
         obtain ⟨c1,g1,g2,g3,g4,g5⟩:=argm_gt hF d ts1 x ts2 (fun t ht=>hT t (List.mem_cons_of_mem _ ht)) h2
         have hlen : (t1 :: ts1).length = ts1.length + 1:=rfl
         obtain ⟨c2,k1,k2,k3,k4,k5⟩:=ih (l ++ [x]) l' ts2 us (c + c1) (fun t ht=>hT t (List.mem_cons_of_mem _ (g3 t ht))) J2 (by rw [List.length_append];simp;omega) (hg.snoc g1 g4 g5) e
         refine ⟨1 + c1 + c2,by omega,fun t ht=>List.mem_cons_of_mem _ (g3 t (k2 t ht)),k3.mono J2,k4,k5⟩
   · rename_i hc
     cases e
     exact ⟨0,rfl,fun _ h=>h,hg,hl,.inl J2⟩
theorem brk_gt {F : Rd} (hF : GF F 1) : GF (brk F) 5:=by
 intro d ts x us hT h
 unfold brk at h
 split at h
 · cases h
 · rename_i ts1 h1
   obtain ⟨_,t1,rfl⟩:=pass_is h1
   split at h
   · cases h
   · rename_i y ts2 h2
     obtain ⟨c,g1,g2,g3,g⟩:=hF (d + 1) ts1 y ts2 (fun t ht=>hT t (List.mem_cons_of_mem _ ht)) h2
     split at h
     · cases h
     · rename_i ts3 h3
       cases h
       obtain ⟨_,t2,rfl⟩:=pass_is h3
       have hlen : (t1 :: ts1).length = ts1.length + 1:=rfl
       have hlen2 : (t2 :: us).length = us.length + 1:=rfl
       refine ⟨c + 2,by omega,by omega,fun t ht=>List.mem_cons_of_mem _ (g3 t (List.mem_cons_of_mem _ ht)),?_⟩
       have g':=g.mono (show c ≤ c + 2 by omega)
       refine ⟨g'.wf,g'.hr,g'.wl,g'.sz,?_⟩
       have:=g'.dp;have:=b1_le (loose 5 x);omega
theorem maxD_lub (f : T → Nat) (l : List T) (m : Nat) (h : ∀ x ∈ l,f x ≤ m) : maxD f l ≤ m:=by
 induction l with
 | nil=>exact Nat.zero_le _
 | cons a l ih =>
   show max (f a) (maxD f l) ≤ m
   have:=h a List.mem_cons_self
   have:=ih (fun x hx=>h x (List.mem_cons_of_mem _ hx))
   omega
theorem wrd_gt {F : Rd} (hF : GF F 1) (d : Nat) (ts : List Tk) (x : T) (us : List Tk) (hT : ∀ t ∈ ts,TkO t) (hk : (hd ts).1 = 2) (h : wrd F d ts = .ok (x,us)) : ∃ c,1 ≤ c ∧ ts.length = us.length + c ∧ (∀ t ∈ us,t ∈ ts) ∧ GT c d 5 x:=by
 have hne:=ne_of_kd hk J6
 unfold wrd at h
 split at h
 · exact one_gt h hne (wf_leaf _ rfl (show I64 (2 : Int) from ⟨by decide,by decide⟩) (show I64 (1 : Int) from ⟨by decide,by decide⟩) (Nat.zero_le _) i64_0 i64_0 i64_0 i64_0 i64_0) rfl J6 rfl
 · split at h
   · exact one_gt h hne (wf_leaf _ rfl (show I64 (2 : Int) from ⟨by decide,by decide⟩) i64_0 (Nat.zero_le _) i64_0 i64_0 i64_0 i64_0 i64_0) rfl J6 rfl
   · split at h
     · rename_i a b hkn
       obtain ⟨t0,r0,rfl⟩:=hne
       have hs : t0.2.2.1.length ≤ 300:=(hT t0 List.mem_cons_self).2.2
       split at h
       · cases h
       · rename_i ts1 h1
         obtain ⟨hd40,h2⟩:=tk1_is h1
         have h2' : ts1 = r0:=h2
         rw [h2'] at h
         have hT1 : ∀ t ∈ r0,TkO t:=fun t ht=>hT t (List.mem_cons_of_mem _ ht)
         unfold brk at h
         split at h
         · cases h
         · rename_i ts2 h3
           obtain ⟨_,t1,h3'⟩:=pass_is h3
           have h3' : r0 = t1 :: ts2:=h3'
           subst h3'
           split at h
           · cases h
           · rename_i y ts3 h4
             split at h
             · cases h
             · rename_i ts4 h5
               cases h
               obtain ⟨_,t2,rfl⟩:=pass_is h5
               unfold call args at h4
               split at h4
               · cases h4
               · rename_i l ts5 h6
                 cases h4
                 split at h6
                 · cases h6
                 · rename_i z ts6 h7
                   obtain ⟨ka,kab,kb⟩:=kno_le' hkn
                   obtain ⟨c1,g1,g2,g3,g4,g5⟩:=argm_gt hF (d + 1) ts2 z ts6 (fun t ht=>hT1 t (List.mem_cons_of_mem _ ht)) h7
                   have hg : GL c1 (d + 1) [z]:=by
                     refine ⟨fun w hw=>?_,?_,?_⟩
                     · simp at hw;subst hw;exact g4
                     · simpa using g5
                     · simpa using g1
                   obtain ⟨c2,k1,k2,k3,k4,k5⟩:=argl_gt hF a b (d + 1) kab ts6.length [z] l ts6 (t2 :: us) c1 (fun t ht=>hT1 t (List.mem_cons_of_mem _ (g3 t ht))) nrf J8 hg h6
                   have ha : a ≤ l.length:=by
                     rcases k5 with h | h
                     · exact h
                     · cases h
                   have e1 : (t0 :: t1 :: ts2).length = ts2.length + 2:=rfl
                   have e2 : (t2 :: us).length = us.length + 1:=rfl
                   refine ⟨c1 + c2 + 3,by omega,by omega,fun t ht=>List.mem_cons_of_mem _ (List.mem_cons_of_mem _ (g3 t (k2 t (List.mem_cons_of_mem _ ht)))),?_⟩
                   have kk:=k3
                   refine (GT.mk ?_ ?_ ?_ ?_ ?_ : GT (c1 + c2 + 1) d 5 (tCall t0.2.2.1 l)).mono J2
                   · exact .mk _ (show I64 (8 : Int) from ⟨by decide,by decide⟩) i64_0 (by show t0.2.2.1.length ≤ maxLen;unfold maxLen;omega) i64_0 i64_0 i64_0 i64_0 i64_0 (fun w hw=>(kk.each w hw).1)
                   · exact ⟨by show l.length ≤ 100000;omega,fun w hw=>(kk.each w hw).2.1⟩
                   · have hkn' : kno t0.2.2.1 = some (a,b):=hkn
                     rw [wellT]
                     show (if (8 : Int) = 0 then _ else if (8 : Int) = 1 then _ else if (8 : Int) = 2 then _ else if (8 : Int) = 3 then _ else if (8 : Int) = 4 then _ else if (8 : Int) = 6 then _ else if (8 : Int) = 7 then _ else if (8 : Int) = 8 then ((kno t0.2.2.1).isSome && decide (knA t0.2.2.1 ≤ l.length) && decide ((l.length : Int) ≤ knB t0.2.2.1) && l.all (fun x=>if x.k = 5 then inB x.r.1 x.r.2.1 && inB x.q.1 x.q.2.1 else wellT (c1 + c2) x)) else false) = true
                     rw [if_neg J6,if_neg J6,if_neg J6,if_neg J6,if_neg J6,if_neg J6,if_neg J6,if_pos rfl]
                     unfold knA knB
                     rw [hkn']
                     simp only [Option.isSome_some,Bool.true_and,Bool.and_eq_true,decide_eq_true_eq,List.all_eq_true]
                     exact ⟨⟨by omega,by omega⟩,fun w hw=>(kk.each w hw).2.2.1⟩
                   · show 1 + (l.map (szT (c1 + c2))).sum ≤ _
                     have:=kk.sz;omega
                   · show d + (0 + (1 + maxD (dpT (c1 + c2)) l)) ≤ 40
                     have hm:=maxD_lub (dpT (c1 + c2)) l (40 - (d + 1)) (fun w hw=>by have:=(kk.each w hw).2.2.2;omega)
                     have : d + 1 ≤ 40:=by
                       cases l with
                       | nil=>simp at ha;omega
                       | cons w r=>have:=(kk.each w List.mem_cons_self).2.2.2;omega
                     omega
     · split at h
       · cases h
       · rename_i r ts1 h1
         cases h
         obtain ⟨hd40,⟨t,rfl⟩,hr⟩:=refr_gt h1
         exact ⟨1,Nat.le_refl _,rfl,fun z hz=>List.mem_cons_of_mem _ hz,gt_leaf nrf hd40 (wf_leaf _ rfl (show I64 (4 : Int) from ⟨by decide,by decide⟩) i64_0 (Nat.zero_le _) i64_0 (inB_bd hr).1 (inB_bd hr).2 i64_0 i64_0) rfl (by show (4 : Int) ≠ 6 ∧ (4 : Int) ≠ 7 ∧ (4 : Int) ≠ 8;decide) (by rw [wellT];show inB r.1 r.2.1 = true;exact hr)⟩
theorem smp_gt {F : Rd} (hF : GF F 1) : GF (smp F) 5:=by
 intro d ts x us hT h
 have hT0 : ∀ {k : Int},(hd ts).1 = k → k ≠ 5 → TkO (hd ts):=by
   intro k h1 h2
   obtain ⟨t,r,rfl⟩:=ne_of_kd h1 h2
   exact hT t List.mem_cons_self
 unfold smp at h
 split at h
 · rename_i hk
   have h0:=(hT0 hk J6).1 hk
   exact one_gt h (ne_of_kd hk J6) (wf_leaf _ rfl i64_0 (by show I64 (hd ts).2.2.2.1;exact ⟨by omega,by omega⟩) (Nat.zero_le _) i64_0 i64_0 i64_0 i64_0 i64_0) rfl (by show (0 : Int) ≠ 6 ∧ (0 : Int) ≠ 7 ∧ (0 : Int) ≠ 8;decide) (by rw [wellT];show decide (0 ≤ (hd ts).2.2.2.1) = true;simpa using h0.1)
 · split at h
   · rename_i hk
     have h0:=(hT0 hk J6).2.2
     exact one_gt h (ne_of_kd hk J6) (wf_leaf _ rfl (show I64 (1 : Int) from ⟨by decide,by decide⟩) i64_0 (by show (hd ts).2.2.1.length ≤ maxLen;unfold maxLen;omega) i64_0 i64_0 i64_0 i64_0 i64_0) rfl (by show (1 : Int) ≠ 6 ∧ (1 : Int) ≠ 7 ∧ (1 : Int) ≠ 8;decide) (by rw [wellT];show decide ((hd ts).2.2.1.length ≤ 300) = true;simpa using h0)
   · split at h
     · rename_i hk
       have h0:=(hT0 hk J6).2.1 hk
       exact one_gt h (ne_of_kd hk J6) (wf_leaf _ rfl (show I64 (3 : Int) from ⟨by decide,by decide⟩) i64_0 (Nat.zero_le _) (by show I64 (hd ts).2.2.2.2;exact ⟨by omega,by omega⟩) i64_0 i64_0 i64_0 i64_0) rfl (by show (3 : Int) ≠ 6 ∧ (3 : Int) ≠ 7 ∧ (3 : Int) ≠ 8;decide) (by rw [wellT];show (decide (1 ≤ (hd ts).2.2.2.2) && decide ((hd ts).2.2.2.2 ≤ 5)) = true;simp;exact h0)
     · split at h
       · rename_i hk
         exact wrd_gt hF d ts x us hT hk h
       · exact brk_gt hF d ts x us hT h
theorem opn_gt {F G : Rd} (hF : GF F 1) (hG : GF G 5) : GF (opn F G) 5:=by
 intro d ts x us hT h
 unfold opn at h
 split at h
 · rename_i hs
   split at h
   · cases h
   · rename_i ts1 h1
     split at h
     · cases h
     · rename_i y ts2 h2
       cases h
       obtain ⟨t,r,rfl,_⟩:=sg_ne hs
       obtain ⟨_,h3⟩:=tk1_is h1
       have h3' : ts1 = r:=h3
       rw [h3'] at h2
       obtain ⟨c,g1,g2,g3,g⟩:=hG (d + 1) r y us (fun z hz=>hT z (List.mem_cons_of_mem _ hz)) h2
       have e1 : (t :: r).length = r.length + 1:=rfl
       refine ⟨c + 1,by omega,by omega,fun z hz=>List.mem_cons_of_mem _ (g3 z hz),?_⟩
       refine ⟨.mk _ (show I64 (6 : Int) from ⟨by decide,by decide⟩) i64_0 (Nat.zero_le _) i64_0 i64_0 i64_0 i64_0 i64_0 (fun z hz=>?_),⟨by show 1 ≤ 100000;decide,fun z hz=>?_⟩,?_,?_,?_⟩
       · rcases List.mem_cons.1 hz with rfl | hz
         · exact g.wf
         · cases hz
       · rcases List.mem_cons.1 hz with rfl | hz
         · exact g.hr
         · cases hz
       · rw [wellT]
         show ((1 == 1) && [y].all (wellT c)) = true
         simp [g.wl]
       · show 1 + ([y].map (szT c)).sum ≤ _
         have:=g.sz;simp;omega
       · show d + (0 + (1 + (b1 (loose 5 y) + dpT c y))) ≤ 40
         have:=g.dp;omega
 · exact smp_gt hF d ts x us hT h
theorem lp_gt {F : Rd} {k : Nat} (hF : GF F (k + 1)) (hk : 1 ≤ k) (d f : Nat) : ∀ (x y : T) (ts us : List Tk) (c : Nat),(∀ t ∈ ts,TkO t) → 1 ≤ c → GT c d k x → lp F k d f x ts = .ok (y,us) → ∃ c',ts.length = us.length + c' ∧ (∀ t ∈ us,t ∈ ts) ∧ GT (c + c') d k y:=by
 induction f with
 | zero=>intro x y ts us c hT hc g e;unfold lp at e;cases e;exact ⟨0,rfl,fun _ h=>h,g⟩
 | succ f ih =>
   intro x y ts us c hT hc g e
   unfold lp at e
   split at e
   · rename_i hs
     split at e
     · cases e
     · rename_i ts1 h1
       split at e
       · cases e
       · rename_i z ts2 h2
         obtain ⟨t,r,rfl⟩:=ne_of_kd hs.1 J6
         obtain ⟨hd40,h3⟩:=tk1_is h1
         have h3' : ts1 = r:=h3
         rw [h3'] at h2
         have hb : bnd t.2.2.1 = k:=hs.2
         have hsl : t.2.2.1.length ≤ 300:=(hT t List.mem_cons_self).2.2
         obtain ⟨c2,g1,g2,g3,gz⟩:=hF d r z ts2 (fun w hw=>hT w (List.mem_cons_of_mem _ hw)) h2
         have e1 : (t :: r).length = r.length + 1:=rfl
         have hx:=g.mono (show c ≤ c + c2 by omega)
         have hz:=gz.mono (show c2 ≤ c + c2 by omega)
         have gn : GT (c + c2 + 1) d k (tBin t.2.2.1 x z):=by
           refine ⟨.mk _ (show I64 (7 : Int) from ⟨by decide,by decide⟩) i64_0 (by show t.2.2.1.length ≤ maxLen;unfold maxLen;omega) i64_0 i64_0 i64_0 i64_0 i64_0 (fun w hw=>?_),⟨by show 2 ≤ 100000;decide,fun w hw=>?_⟩,?_,?_,?_⟩
           · rcases List.mem_cons.1 hw with rfl | hw
             · exact g.wf
             · rcases List.mem_cons.1 hw with rfl | hw
               · exact gz.wf
               · cases hw
           · rcases List.mem_cons.1 hw with rfl | hw
             · exact hx.hr
             · rcases List.mem_cons.1 hw with rfl | hw
               · exact hz.hr
               · cases hw
           · rw [wellT]
             show (bnd t.2.2.1 != 0 && (2 == 2) && [x,z].all (wellT (c + c2))) = true
             rw [hb]
             simp [hx.wl,hz.wl];omega
           · show 1 + ([x,z].map (szT (c + c2))).sum ≤ _
             have e2:=sz_mono c (c + c2) x g.hr J2
             have e3:=sz_mono c2 (c + c2) z gz.hr J2
             have:=g.sz;have:=gz.sz
             simp [e2,e3];omega
           · have e2 : loose k (tBin t.2.2.1 x z) = false:=by
               show ((7 : Int) == 7 && decide (bnd t.2.2.1 < k)) = false
               rw [hb];simp
             rw [e2]
             show d + (0 + max (b1 (loose (bnd t.2.2.1) x) + dpT (c + c2) x) (b1 (loose (bnd t.2.2.1 + 1) z) + dpT (c + c2) z)) ≤ 40
             rw [hb]
             have:=hx.dp;have:=hz.dp
             omega
         obtain ⟨c3,k1,k2,k3⟩:=ih _ y ts2 us (c + c2 + 1) (fun w hw=>hT w (List.mem_cons_of_mem _ (g3 w hw))) J2 gn e
         exact ⟨1 + c2 + c3,by omega,fun w hw=>List.mem_cons_of_mem _ (g3 w (k2 w hw)),k3.mono J2⟩
   · cases e;exact ⟨0,rfl,fun _ h=>h,g⟩
theorem lv_gt {F : Rd} {k : Nat} (hF : GF F (k + 1)) (hk : 1 ≤ k) : GF (lv F k) k:=by
 intro d ts x us hT h
 unfold lv at h
 split at h
 · cases h
 · rename_i y ts1 h1
   obtain ⟨c,g1,g2,g3,g⟩:=hF d ts y ts1 hT h1
   obtain ⟨c2,k1,k2,k3⟩:=lp_gt hF hk d _ y x ts1 us c (fun t ht=>hT t (g3 t ht)) g1 (g.up J2) h
   exact ⟨c + c2,by omega,by omega,fun t ht=>g3 t (k2 t ht),k3⟩
theorem frm_gt {F : Rd} (hF : GF F 5) : GF (frm F) 1:=lv_gt (lv_gt (lv_gt (lv_gt hF J6) J6) J6) J6
theorem O_gt (n : Nat) : GF (O n) 5:=by
 induction n with
 | zero=>intro d ts x us _ e;cases e
 | succ n ih=>exact opn_gt (frm_gt ih) ih
theorem nxt_ok {l : List UInt8} {x : Wd} (h : nxt l = .ok x) : (x.1 = 0 → 0 ≤ x.2.2.1 ∧ x.2.2.1 ≤ 9223372036854775807) ∧ (x.1 = 4 → 1 ≤ x.2.2.2.1 ∧ x.2.2.2.1 ≤ 5):=by
 cases l with
 | nil=>cases h
 | cons c l =>
   rw [nxt_cons] at h
   split at h
   · rename_i hc
     unfold nuRL at h
     split at h
     · cases h
     · rename_i k0
       split at h
       · cases h
       · rename_i k2
         cases h
         refine ⟨fun _=>?_,fun h=>absurd h (by show ¬ (0 : Int) = 4;decide)⟩
         show 0 ≤ rdV _ ∧ rdV _ ≤ _
         have hm : minusB ((c :: l).take (numE (c :: l))) = false:=by
           unfold minusB
           cases numE (c :: l) with
           | zero=>rfl
           | succ n =>
             rw [List.take_succ_cons]
             show (some c == some 45) = false
             have : c ≠ 45:=by rintro rfl;exact absurd hc J6
             simpa using this
         unfold rdV
         rw [hm]
         split
         · rename_i h1
           simp only [Bool.and_eq_true,decide_eq_true_eq] at h1
           simp only [Bool.false_eq_true,if_false]
           omega
         · omega
   · split at h
     · unfold txtR at h
       split at h
       · cases h
       · cases h;exact ⟨fun h=>absurd h (by show ¬ (1 : Int) = 0;decide),fun h=>absurd h (by show ¬ (1 : Int) = 4;decide)⟩
     · split at h
       · unfold wdR at h
         cases h;exact ⟨fun h=>absurd h (by show ¬ (2 : Int) = 0;decide),fun h=>absurd h (by show ¬ (2 : Int) = 4;decide)⟩
       · split at h
         · unfold errR at h
           split at h
           · cases h
           · rename_i y hy
             cases h
             refine ⟨fun h=>absurd h (by show ¬ (4 : Int) = 0;decide),fun _=>?_⟩
             have hm : y ∈ errsL:=List.mem_of_find?_eq_some hy
             have : ∀ y ∈ errsL,1 ≤ y.1 ∧ y.1 ≤ 5:=by decide
             exact this y hm
         · unfold sgR at h
           split at h
           · cases h
           · cases h;exact ⟨fun h=>absurd h (by show ¬ (3 : Int) = 0;decide),fun h=>absurd h (by show ¬ (3 : Int) = 4;decide)⟩
theorem W_ok (n : Nat) : ∀ (l : List UInt8) (p : Nat) (ts : List Tk),l.length ≤ n → W p l = .ok ts → ∀ t ∈ ts,(t.1 = 0 → 0 ≤ t.2.2.2.1 ∧ t.2.2.2.1 ≤ 9223372036854775807) ∧ (t.1 = 4 → 1 ≤ t.2.2.2.2 ∧ t.2.2.2.2 ≤ 5):=by
 have he : ∀ p,((endT p).1 = 0 → 0 ≤ (endT p).2.2.2.1 ∧ (endT p).2.2.2.1 ≤ 9223372036854775807) ∧ ((endT p).1 = 4 → 1 ≤ (endT p).2.2.2.2 ∧ (endT p).2.2.2.2 ≤ 5):=fun p=>⟨fun h=>absurd h (by show ¬ (5 : Int) = 0;decide),fun h=>absurd h (by show ¬ (5 : Int) = 4;decide)⟩
 induction n with
 | zero =>
   intro l p ts hl h
   have : l = []:=List.eq_nil_of_length_eq_zero J2
   subst this
   rw [W_nil] at h
   cases h
   intro t ht;simp at ht;subst ht;exact he p
 | succ n ih =>
   intro l p ts hl h
   cases l with
   | nil =>
     rw [W_nil] at h
     cases h
     intro t ht;simp at ht;subst ht;exact he p
   | cons c r =>
     by_cases hc : c = 32
     · subst hc
       rw [W_blank] at h
       intro t ht
       exact ih r (p + 1) ts J39 h t ht
     · rw [W_cons p c r hc] at h
       cases hx : nxt (c :: r) with
       | error e=>rw [hx] at h;cases h
       | ok x =>
         rw [hx] at h
         simp only [] at h
         obtain ⟨us,hu,rfl⟩:=map_ok h
         have hm:=nxt_pos hx
         simp only [List.length_cons] at hm
         intro t ht
         rcases List.mem_cons.1 ht with rfl | ht
         · exact nxt_ok hx
         · exact ih ((c :: r).drop x.2.2.2.2) (p + x.2.2.2.2) us J45 hu t ht
theorem par_gt {l : List UInt8} (h : (parR l).2.2 = 0) : GT 401 0 1 (parR l).1:=by
 unfold parR at h ⊢
 split at h
 · rename_i h0
   rw [if_pos h0]
   rcases lexR_cases l with ⟨ts,hl,hW,hx⟩ | ⟨p,c,hx,hc,_⟩
   · rw [hx] at h ⊢
     have hT : ∀ t ∈ ts,TkO t:=fun t ht=>⟨(W_ok l.length l 0 ts nrf hW t ht).1,(W_ok l.length l 0 ts nrf hW t ht).2,Nat.le_trans (W_len l.length l 0 ts nrf hW t ht) hl⟩
     have hlen : ts.length ≤ 400:=by have:=(W_count l.length l 0 ts nrf hW).1;omega
     unfold prs at h ⊢
     split at h
     · exact absurd h (cd_ne _)
     · rename_i x ts1 hf
       split at h
       · rename_i h5
         rw [if_pos h5]
         obtain ⟨c,g1,g2,g3,g⟩:=frm_gt (O_gt _) 0 ts x ts1 hT hf
         exact g.mono J2
       · exact absurd h (by show ¬ (4 : Int) = 0;decide)
   · rw [hx] at h0
     have h0 : c = 0:=h0
     omega
 · rename_i h0
   exact absurd h h0
theorem W_brk2 {l : List UInt8} {ts : List Tk} (h : W 0 l = .ok ts) : W 0 (40 :: 32 :: (l ++ [32,41])) = .ok (tOpen 0 :: (ts.dropLast.map (mvT 2) ++ [tClose (2 + l.length + 1),endT (2 + l.length + 1 + 1)])):=by
 rw [W_at_one 0 J6 (nxt_open _)]
 have e1 : W (0 + 1) (32 :: (l ++ [32,41])) = W 2 (l ++ [32,41]):=W_ahead 1 1 (l ++ [32,41])
 have e2 : W (2 + l.length) [32,41] = W (2 + l.length + 1) [41]:=W_ahead 1 (2 + l.length) [41]
 show ((W (0 + 1) (32 :: (l ++ [32,41]))).map _) = _
 rw [e1,W_follow 2 [32,41] (.inr ⟨32,[41],rfl,.inl rfl⟩) h,e2,W_close]
 rfl
theorem parR_brk2 {l : List UInt8} (h : (parR l).2.2 = 0) : (parR (40 :: 32 :: (l ++ [32,41]))).2.2 = 2 ∨ parR (40 :: 32 :: (l ++ [32,41])) = ((parR l).1,0,0):=by
 obtain ⟨ts,x,ts1,hl,hW,hf,h5,hp⟩:=parR_ok h
 by_cases hn : 300 < (40 :: 32 :: (l ++ [32,41])).length
 · left;rw [parR_long hn]
 · rw [parR_of J2 (W_brk2 hW),hp]
   simp only []
   generalize htl : [tClose (2 + l.length + 1),endT (2 + l.length + 1 + 1)] = tl
   have hS : Stp false tl:=⟨_,_,htl.symm,rfl,.inl rfl⟩
   unfold prs
   obtain ⟨m,hm⟩ : ∃ m,(ts.dropLast.map (mvT 2) ++ tl).length = m:=⟨_,rfl⟩
   have e1 : (tOpen 0 :: (ts.dropLast.map (mvT 2) ++ tl)).length = m + 1:=by rw [List.length_cons,hm]
   rw [e1]
   have e2 : O (m + 1) 0 (tOpen 0 :: (ts.dropLast.map (mvT 2) ++ tl)) = brk (frm (O m)) 0 (tOpen 0 :: (ts.dropLast.map (mvT 2) ++ tl)):=opn_open _ _ _ _ _
   unfold brk at e2
   rw [pass_open _ _ _ J6] at e2
   simp only [] at e2
   rcases frm_stop 2 m tl hS hW hf h5 J2 with k | ⟨p,k⟩
   · rw [k] at e2
     subst htl
     simp only [pass_close _ _ _ (Nat.zero_le 40)] at e2
     right
     rw [frm_ok e2 rfl]
     rfl
   · rw [k] at e2
     left
     rw [frm_err e2];rfl
end Go.Proofs.YtcfgbiaahangmaaGreatDoor

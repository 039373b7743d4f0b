import Derived.Test.YtcfgbiaahangmaaGreatDoorC26
set_option maxHeartbeats 6000000
set_option maxRecDepth 100000
namespace Go.Proofs.YtcfgbiaahangmaaGreatDoor
open Go.Proofs.Tryz
open Go.RowKit
theorem txt_len:∀ (l:List UInt8) (x:List UInt8 × Nat),txt l = some x→x.1.length≤x.2
 | [],x,h=>by simp [txt] at h
 | [c],x,h=>by
   unfold txt at h
   split at h
   · cases h;simp
   · cases h
 | c :: d :: r,x,h=>by
   unfold txt at h
   split at h
   · split at h
     · rw [Option.map_eq_some_iff] at h
       obtain ⟨y,hy,rfl⟩:=h
       have:=txt_len r y hy
       simp;omega
     · cases h;simp
   · rw [Option.map_eq_some_iff] at h
     obtain ⟨y,hy,rfl⟩:=h
     have:=txt_len (d :: r) y hy
     simp;omega
theorem nxt_len {l:List UInt8} {x:Wd} (h:nxt l = .ok x):x.2.1.length≤x.2.2.2.2:=by
 cases l with
 | nil=>cases h
 | cons c l =>
   rw [nxt_cons] at h
   split at h
   · unfold nuRL at h
     split at h
     · cases h
     · split at h
       · cases h
       · cases h;exact Nat.zero_le _
   · split at h
     · unfold txtR at h
       split at h
       · cases h
       · rename_i y hy
         cases h
         have:=txt_len _ _ hy
         show y.1.length≤y.2+1
         omega
     · split at h
       · unfold wdR at h
         cases h
         show (List.take _ _).length≤_
         rw [List.length_take];exact Nat.min_le_left _ _
       · split at h
         · unfold errR at h
           split at h
           · cases h
           · cases h;exact Nat.zero_le _
         · unfold sgR at h
           split at h
           · cases h
           · cases h;exact Nat.le_refl _
theorem W_len (n:Nat):∀ (l:List UInt8) (p:Nat) (ts:List Tk),l.length≤n→W p l = .ok ts→∀ t ∈ ts,t.2.2.1.length≤l.length:=by
 induction n with
 | zero =>
   intro l p ts hl h
   have:l = []:=List.eq_nil_of_length_eq_zero J2
   subst this
   rw [W_nil] at h
   cases h
   intro t ht;simp at ht;subst ht;simp [endT]
 | succ n ih =>
   intro l p ts hl h
   cases l with
   | nil =>
     rw [W_nil] at h
     cases h
     intro t ht;simp at ht;subst ht;simp [endT]
   | cons c r =>
     by_cases hc:c = 32
     · subst hc
       rw [W_blank] at h
       intro t ht
       have:=ih r (p+1) ts J50 h t ht
       simp;omega
     · rw [W_cons p c r hc] at h
       cases hx:nxt (c :: r) with
       | error e=>rw [hx] at h;cases h
       | ok x =>
         rw [hx] at h
         simp only [] at h
         obtain ⟨us,hu,rfl⟩:=map_ok h
         have hm:=nxt_pos hx
         simp only [List.length_cons] at hm
         intro t ht
         rcases List.mem_cons.1 ht with rfl | ht
         · have:=nxt_len hx
           show x.2.1.length≤_
           simp;omega
         · have:=ih ((c :: r).drop x.2.2.2.2) (p+x.2.2.2.2) us J54 hu t ht
           simp at this ⊢;omega
theorem nxt_kd {l:List UInt8} {x:Wd} (h:nxt l = .ok x):0≤x.1∧x.1≤4:=by
 cases l with
 | nil=>cases h
 | cons c l =>
   rw [nxt_cons] at h
   split at h
   · unfold nuRL at h
     split at h
     · cases h
     · split at h
       · cases h
       · cases h;exact ⟨by show (0:Int)≤0;decide,by show (0:Int)≤4;decide⟩
   · split at h
     · unfold txtR at h
       split at h
       · cases h
       · cases h;exact ⟨by show (0:Int)≤1;decide,by show (1:Int)≤4;decide⟩
     · split at h
       · unfold wdR at h
         cases h;exact ⟨by show (0:Int)≤2;decide,by show (2:Int)≤4;decide⟩
       · split at h
         · unfold errR at h
           split at h
           · cases h
           · cases h;exact ⟨by show (0:Int)≤4;decide,by show (4:Int)≤4;decide⟩
         · unfold sgR at h
           split at h
           · cases h
           · cases h;exact ⟨by show (0:Int)≤3;decide,by show (3:Int)≤4;decide⟩
theorem W_kd (n:Nat):∀ (l:List UInt8) (p:Nat) (ts:List Tk),l.length≤n→W p l = .ok ts→∀ t ∈ ts,0≤t.1∧t.1≤5∧(t.1 = 5→t.2.2.1 = []):=by
 have h5:∀ q,0≤(endT q).1∧(endT q).1≤5∧((endT q).1 = 5→(endT q).2.2.1 = []):=fun q=>⟨by show (0:Int)≤5;decide,by show (5:Int)≤5;decide,fun _=>rfl⟩
 induction n with
 | zero =>
   intro l p ts hl h
   have:l = []:=List.eq_nil_of_length_eq_zero J2
   subst this
   rw [W_nil] at h
   cases h
   intro t ht;simp at ht;subst ht;exact h5 _
 | succ n ih =>
   intro l p ts hl h
   cases l with
   | nil =>
     rw [W_nil] at h
     cases h
     intro t ht;simp at ht;subst ht;exact h5 _
   | cons c r =>
     by_cases hc:c = 32
     · subst hc
       rw [W_blank] at h
       exact ih r (p+1) ts J50 h
     · rw [W_cons p c r hc] at h
       cases hx:nxt (c :: r) with
       | error e=>rw [hx] at h;cases h
       | ok x =>
         rw [hx] at h
         simp only [] at h
         obtain ⟨us,hu,rfl⟩:=map_ok h
         have hm:=nxt_pos hx
         simp only [List.length_cons] at hm
         intro t ht
         rcases List.mem_cons.1 ht with rfl | ht
         · have:=nxt_kd hx
           show 0≤x.1∧x.1≤5∧(x.1 = 5→x.2.1 = [])
           exact ⟨this.1,by omega,fun h=>by omega⟩
         · exact ih ((c :: r).drop x.2.2.2.2) (p+x.2.2.2.2) us J54 hu t ht
theorem isIn_any (r0 r1:Int) (r2 r3:Bool) (w:World):Calls Tryz.prog 60 #[.agg #[.int .i64 r0,.int .i64 r1,.bool r2,.bool r3]] w fun e w'=>e = .returned (.bool (inB r0 r1))∧Ext w w':=by
 have c1:=fun W=>in_any r0 r1 W
 go_enter func60,ntmps60
 exact K144
theorem allx_take {l:List T} {g:T→Bool} {j:Nat} {x:T} (h:l[j]? = some x):(l.take (j+1)).all g = ((l.take j).all g && g x):=by
 rw [List.take_add_one,h,List.all_append];simp
theorem xall_any (K:FuncId) (P:Nat→Prop) (g:T→Bool) (l:List T) (pp:Option Addr) (ln cl:Nat) (w:World) (hl:l.length≤100000) (hent:∀ args W,(callFunc K args).run Tryz.prog W = .ok (.enter K args) W) (hx:∀ x ∈ l,ATr K P g x) (h:IsL w P (.slice pp ln cl) l) :
   Calls Tryz.prog 61 #[.slice pp ln cl,.func (.func K) #[] #[]] w fun e w'=>e = .returned (.bool (l.all g))∧Ext w w':=by
 have hln:ln = l.length:=by
   exact K93
 have HX:Hid (∀ x ∈ l,ATr K P g x):=hx
 have HI:Hid (IsL w P (.slice pp ln cl) l):=h
 have HLN:Hid (ln = l.length):=hln
 have hl2:ln≤100000:=J2
 clear hx h hln hl
 go_enter func61,ntmps61
 go_wp2_with fail
 go_loopw [6,9] (fun _ i wr=>∃ j:Nat,j≤ln∧i = .int .i64 (j:Int)∧(l.take j).all g = true∧Ext w wr) (fun _ i _=>ln - (intOf i).toNat)
 case atStart=>exact ⟨0,Nat.zero_le _,rfl,rfl,Ext.refl _⟩
 case round =>
   obtain ⟨j,hj,rfl,hg,hE⟩:=hrel
   have HE:Hid (Ext w wr∧(l.take j).all g = true):=⟨hE,hg⟩
   clear hE hg
   by_cases hlt:j < ln
   · have hltI:(j:Int) < (ln:Int):=J2
     have hI:=HI.out.ext HE.out.1
     obtain ⟨gb,off,x,lv,hpp,hx1,hA1,hgb,hA2,hLx,hce⟩:=hI.at (i:=j) J55
     clear hA1 hA2
     subst hpp
     obtain ⟨pp,cl',hlv,hcl⟩:=hLx.form
     obtain ⟨ln',hln'⟩:∃ ln',x.l.length = ln':=⟨_,rfl⟩
     rw [hln'] at hlv
     subst hlv
     have HX1:Hid (l[j]? = some x):=hx1
     have HC:Hid (Calls Tryz.prog K #[.agg #[.int .i64 x.k,.int .i64 x.n,.string (bs x.s),.int .i64 x.e,.int .i64 x.r.1,.int .i64 x.r.2.1,.bool x.r.2.2.1,.bool x.r.2.2.2,.int .i64 x.q.1,.int .i64 x.q.2.1,.bool x.q.2.2.1,.bool x.q.2.2.2,.slice pp ln' cl']] (wr.alloc (.cells #[.int .i64 x.k,.int .i64 x.n,.string (bs x.s),.int .i64 x.e,.int .i64 x.r.1,.int .i64 x.r.2.1,.bool x.r.2.2.1,.bool x.r.2.2.2,.int .i64 x.q.1,.int .i64 x.q.2.1,.bool x.q.2.2.1,.bool x.q.2.2.2,.slice pp ln' cl'] 43)) fun e w'=>e = .returned (.bool (g x))∧Ext (wr.alloc (.cells #[.int .i64 x.k,.int .i64 x.n,.string (bs x.s),.int .i64 x.e,.int .i64 x.r.1,.int .i64 x.r.2.1,.bool x.r.2.2.1,.bool x.r.2.2.2,.int .i64 x.q.1,.int .i64 x.q.2.1,.bool x.q.2.2.1,.bool x.q.2.2.2,.slice pp ln' cl'] 43)) w'):=HX.out x (List.mem_of_getElem? hx1) _ pp ln' cl' (hLx.ext (xr.alloc _))
     have e0:wr.cell? ⟨gb,off+j * 13,none⟩ = some (.int .i64 x.k):=hce 0 _ rfl
     have e1:wr.cell? ⟨gb,off+j * 13+1,none⟩ = some (.int .i64 x.n):=hce 1 _ rfl
     have e2:wr.cell? ⟨gb,off+j * 13+2,none⟩ = some (.string (bs x.s)):=hce 2 _ rfl
     have e3:wr.cell? ⟨gb,off+j * 13+3,none⟩ = some (.int .i64 x.e):=hce 3 _ rfl
     have e4:wr.cell? ⟨gb,off+j * 13+4,none⟩ = some (.int .i64 x.r.1):=hce 4 _ rfl
     have e5:wr.cell? ⟨gb,off+j * 13+5,none⟩ = some (.int .i64 x.r.2.1):=hce 5 _ rfl
     have e6:wr.cell? ⟨gb,off+j * 13+6,none⟩ = some (.bool x.r.2.2.1):=hce 6 _ rfl
     have e7:wr.cell? ⟨gb,off+j * 13+7,none⟩ = some (.bool x.r.2.2.2):=hce 7 _ rfl
     have e8:wr.cell? ⟨gb,off+j * 13+8,none⟩ = some (.int .i64 x.q.1):=hce 8 _ rfl
     have e9:wr.cell? ⟨gb,off+j * 13+9,none⟩ = some (.int .i64 x.q.2.1):=hce 9 _ rfl
     have e10:wr.cell? ⟨gb,off+j * 13+10,none⟩ = some (.bool x.q.2.2.1):=hce 10 _ rfl
     have e11:wr.cell? ⟨gb,off+j * 13+11,none⟩ = some (.bool x.q.2.2.2):=hce 11 _ rfl
     have e12:wr.cell? ⟨gb,off+j * 13+12,none⟩ = some (.slice pp ln' cl'):=hce 12 _ rfl
     clear hI hx1 hLx hce hcl hln'
     go_wp2_with fail
     refine HC.out.mono ?_
     rintro e w1 ⟨rfl,E1⟩
     have HE1:Hid (Ext w w1):=(HE.out.1.alloc _).trans E1
     clear E1 e0 e1 e2 e3 e4 e5 e6 e7 e8 e9 e10 e11 e12
     cases hgx:g x
     · have HR:Hid (l.all g = false):=by
         show _ = _
         rw [List.all_eq_false]
         exact ⟨x,List.mem_of_getElem? HX1.out,by rw [hgx];simp⟩
       clear hgx
       go_wp2_with fail
       go_ret
       exact ⟨ret_bool HR.out.symm,HE1.out⟩
     · have HR:Hid ((l.take (j+1)).all g = true):=by show _ = _;rw [allx_take HX1.out,HE.out.2,hgx];rfl
       clear hgx
       go_wp2_with fail
       go_roundw
       case rel=>exact ⟨j+1,by omega,by go_num,HR.out,HE1.out⟩
       case measure=>show ln - ((j:Int)+1).toNat < ln - ((j:Int)).toNat;omega
   · have hltI:¬ (j:Int) < (ln:Int):=J2
     have HR:Hid (l.all g = true):=by
       exact K78
     go_wp2_with fail
     go_ret
     exact ⟨ret_bool HR.out.symm,HE.out.1⟩
theorem isArg_any (P:Nat→Prop) (n:Nat) (t:T) (hw:ATr 35 P (wellT n) t):ATr 64 P (argT n) t:=by
 intro W pp ln cl h
 by_cases k5:t.k = 5
 · have e5:(t.k == 5) = true:=by rw [k5];rfl
   have HX:Hid (argT n t = (inB t.r.1 t.r.2.1 && inB t.q.1 t.q.2.1)):=by show _ = _;unfold argT;rw [if_pos k5]
   have c1:=fun W=>isIn_any t.r.1 t.r.2.1 t.r.2.2.1 t.r.2.2.2 W
   have c2:=fun W=>isIn_any t.q.1 t.q.2.1 t.q.2.2.1 t.q.2.2.2 W
   clear k5 hw h
   cases h1:inB t.r.1 t.r.2.1
   · rw [h1] at c1 HX
     clear h1
     go_enter func64,ntmps64
     go_wp2_with fail
     refine (c1 _).mono ?_
     exact K125
   · rw [h1] at c1 HX
     clear h1
     go_enter func64,ntmps64
     go_wp2_with fail
     refine (c1 _).mono ?_
     rintro e w1 ⟨rfl,E1⟩
     have HE:Hid (Ext W w1):=(xr.alloc _).trans E1
     have hB:=blk13_top rfl E1
     obtain ⟨q0,⟨l0,l1,l2,l3,l4,l5,l6,l7,l8,l9,l10,l11,l12⟩,gg⟩:=hB
     clear E1 gg
     go_wp2_with fail
     refine (c2 _).mono ?_
     rintro e w2 ⟨rfl,E2⟩
     have HE2:Hid (Ext W w2):=HE.out.trans E2
     clear E2
     go_wp2_with fail
     go_ret
     exact ⟨ret_bool J46,HE2.out⟩
 · have e5:(t.k == 5) = false:=by simpa using k5
   have HX:Hid (argT n t = wellT n t):=by show _ = _;unfold argT;rw [if_neg k5]
   have HW:Hid (∀ W',Ext W W'→Calls Tryz.prog 35 #[.agg #[.int .i64 t.k,.int .i64 t.n,.string (bs t.s),.int .i64 t.e,.int .i64 t.r.1,.int .i64 t.r.2.1,.bool t.r.2.2.1,.bool t.r.2.2.2,.int .i64 t.q.1,.int .i64 t.q.2.1,.bool t.q.2.2.1,.bool t.q.2.2.2,.slice pp ln cl]] W' fun e w'=>e = .returned (.bool (wellT n t))∧Ext W' w'):=fun W' e=>hw W' pp ln cl (h.ext e)
   clear k5 hw h
   go_enter func64,ntmps64
   go_wp2_with fail
   refine (HW.out _ (xr.alloc _)).mono ?_
   exact K76
theorem well_leaf (P:Nat→Prop) (n:Nat) (t:T) (hk6:t.k≠6) (hk7:t.k≠7) (hk8:t.k≠8):ATr 35 P (wellT (n+1)) t:=by
 intro W pp ln cl _
 by_cases hk:t.k = 0
 · have e0:(t.k == 0) = true:=J76
   have HX:Hid (wellT (n+1) t = decide (0≤t.n)):=J115
   clear hk hk6 hk7 hk8
   exact K203
 have k0:=hk
 clear hk
 by_cases hk:t.k = 1
 · have e0:(t.k == 0) = false:=J76
   have e1:(t.k == 1) = true:=J76
   have HX:Hid (wellT (n+1) t = decide (t.s.length≤300)):=J115
   have HB:Hid ((bs t.s).size = t.s.length):=bs_size _
   generalize bs t.s = q at *
   clear hk hk6 hk7 hk8 k0
   go_enter func35,ntmps35
   exact K165
 have k1:=hk
 clear hk
 by_cases hk:t.k = 2
 · have e0:(t.k == 0) = false:=J76
   have e1:(t.k == 1) = false:=J76
   have e2:(t.k == 2) = true:=J76
   have HX:Hid (wellT (n+1) t = (t.n == 0 || t.n == 1)):=J115
   clear hk hk6 hk7 hk8 k0 k1
   cases hn:(t.n == 0)
   · rw [hn] at HX
     exact K203
   · rw [hn] at HX
     exact K203
 have k2:=hk
 clear hk
 by_cases hk:t.k = 3
 · have e0:(t.k == 0) = false:=J76
   have e1:(t.k == 1) = false:=J76
   have e2:(t.k == 2) = false:=J76
   have e3:(t.k == 3) = true:=J76
   have HX:Hid (wellT (n+1) t = (decide (1≤t.e) && decide (t.e≤5))):=J115
   clear hk hk6 hk7 hk8 k0 k1 k2
   by_cases h1:1≤t.e
   · have d1:decide (1≤t.e) = true:=J75
     rw [d1] at HX
     exact K203
   · have d1:decide (1≤t.e) = false:=J75
     rw [d1] at HX
     exact K203
 have k3:=hk
 clear hk
 by_cases hk:t.k = 4
 · have e0:(t.k == 0) = false:=J76
   have e1:(t.k == 1) = false:=J76
   have e2:(t.k == 2) = false:=J76
   have e3:(t.k == 3) = false:=J76
   have e4:(t.k == 4) = true:=J76
   have HX:Hid (wellT (n+1) t = inB t.r.1 t.r.2.1):=J115
   have c1:=fun W=>isIn_any t.r.1 t.r.2.1 t.r.2.2.1 t.r.2.2.2 W
   clear hk hk6 hk7 hk8 k0 k1 k2 k3
   go_enter func35,ntmps35
   go_wp2_with fail
   refine (c1 _).mono ?_
   exact K76
 have k4:=hk
 clear hk
 have HX:Hid (wellT (n+1) t = false):=J116
 have e0:(t.k == 0) = false:=by simpa using k0
 have e1:(t.k == 1) = false:=by simpa using k1
 have e2:(t.k == 2) = false:=by simpa using k2
 have e3:(t.k == 3) = false:=by simpa using k3
 have e4:(t.k == 4) = false:=by simpa using k4
 have e6:(t.k == 6) = false:=by simpa using hk6
 have e7:(t.k == 7) = false:=by simpa using hk7
 have e8:(t.k == 8) = false:=by simpa using hk8
 clear hk6 hk7 hk8 k0 k1 k2 k3 k4
 exact K203
theorem well_neg (P:Nat→Prop) (n:Nat) (t:T) (hk:t.k = 6) (hl:t.l.length≤100000) (hx:∀ x ∈ t.l,ATr 35 P (wellT n) x):ATr 35 P (wellT (n+1)) t:=by
 intro W pp ln cl h
 have hln:t.l.length = ln:=by
   exact K93
 have e0:(t.k == 0) = false:=J76
 have e1:(t.k == 1) = false:=J76
 have e2:(t.k == 2) = false:=J76
 have e3:(t.k == 3) = false:=J76
 have e4:(t.k == 4) = false:=J76
 have e6:(t.k == 6) = true:=J76
 have HX:Hid (wellT (n+1) t = (ln == 1 && t.l.all (wellT n))):=by show _ = _;unfold wellT;simp [hk,hln]
 have HC:Hid (∀ W',Ext W W'→Calls Tryz.prog 61 #[.slice pp ln cl,.func (.func 35) #[] #[]] W' fun e w'=>e = .returned (.bool (t.l.all (wellT n)))∧Ext W' w'):=fun W' e=>xall_any 35 P (wellT n) t.l pp ln cl W' hl (enters_of func35 J3 rfl) hx (h.ext e)
 clear hk hl hx h hln
 by_cases h1:ln = 1
 · have d1:((ln:Int) == 1) = true:=by rw [h1];rfl
   have HY:Hid ((ln == 1) = true):=by show _ = _;rw [h1];rfl
   clear h1
   go_enter func35,ntmps35
   go_wp2_with fail
   refine (HC.out _ (xr.alloc _)).mono ?_
   rintro e w1 ⟨rfl,E1⟩
   have HE:Hid (Ext W w1):=(xr.alloc _).trans E1
   clear E1
   go_wp2_with fail
   go_ret
   exact ⟨ret_bool (by rw [HX.out,HY.out];rfl),HE.out⟩
 · have d1:((ln:Int) == 1) = false:=J6
   have HY:Hid ((ln == 1) = false):=by show _ = _;simpa using h1
   clear h1
   go_enter func35,ntmps35
   exact K174
theorem well_bin (P:Nat→Prop) (n:Nat) (t:T) (hk:t.k = 7) (hl:t.l.length≤100000) (hx:∀ x ∈ t.l,ATr 35 P (wellT n) x):ATr 35 P (wellT (n+1)) t:=by
 intro W pp ln cl h
 have hln:t.l.length = ln:=by
   exact K93
 have e0:(t.k == 0) = false:=J76
 have e1:(t.k == 1) = false:=J76
 have e2:(t.k == 2) = false:=J76
 have e3:(t.k == 3) = false:=J76
 have e4:(t.k == 4) = false:=J76
 have e6:(t.k == 6) = false:=J76
 have e7:(t.k == 7) = true:=J76
 have HX:Hid (wellT (n+1) t = (bnd t.s != 0 && ln == 2 && t.l.all (wellT n))):=by show _ = _;unfold wellT;simp [hk,hln]
 have HC:Hid (∀ W',Ext W W'→Calls Tryz.prog 61 #[.slice pp ln cl,.func (.func 35) #[] #[]] W' fun e w'=>e = .returned (.bool (t.l.all (wellT n)))∧Ext W' w'):=fun W' e=>xall_any 35 P (wellT n) t.l pp ln cl W' hl (enters_of func35 J3 rfl) hx (h.ext e)
 have cB:=fun W=>binds_any (bs t.s) W
 have es:(bs t.s).data.toList = t.s:=rfl
 rw [es] at cB
 obtain ⟨bb,hbb⟩:∃ bb,bnd t.s = bb:=⟨_,rfl⟩
 rw [hbb] at cB HX
 generalize bs t.s = q at *
 clear hk hl hx h hln es hbb
 by_cases h0:bb = 0
 · have b1:((bb:Int) != 0) = false:=by rw [h0];rfl
   have HY:Hid ((bb != 0) = false):=by show _ = _;rw [h0];rfl
   clear h0
   go_enter func35,ntmps35
   go_wp2_with fail
   refine (cB _).mono ?_
   rintro e w1 ⟨rfl,rfl⟩
   exact K174
 have b1:((bb:Int) != 0) = true:=J6
 have HY0:Hid ((bb != 0) = true):=by show _ = _;simpa using h0
 clear h0
 by_cases h1:ln = 2
 · have d1:((ln:Int) == 2) = true:=by rw [h1];rfl
   have HY:Hid ((ln == 2) = true):=by show _ = _;rw [h1];rfl
   clear h1
   go_enter func35,ntmps35
   go_wp2_with fail
   refine (cB _).mono ?_
   rintro e w1 ⟨rfl,rfl⟩
   go_wp2_with fail
   refine (HC.out _ (xr.alloc _)).mono ?_
   rintro e w1 ⟨rfl,E1⟩
   have HE:Hid (Ext W w1):=(xr.alloc _).trans E1
   clear E1
   go_wp2_with fail
   go_ret
   exact ⟨ret_bool (by rw [HX.out,HY.out,HY0.out];rfl),HE.out⟩
 · have d1:((ln:Int) == 2) = false:=J6
   have HY:Hid ((ln == 2) = false):=by show _ = _;simpa using h1
   clear h1
   go_enter func35,ntmps35
   go_wp2_with fail
   refine (cB _).mono ?_
   rintro e w1 ⟨rfl,rfl⟩
   go_wp2_with fail
   go_ret
   exact ⟨ret_bool (by rw [HX.out,HY.out,HY0.out];rfl),xr.alloc _⟩
theorem well_call (P:Nat→Prop) (n:Nat) (t:T) (hk:t.k = 8) (hl:t.l.length≤100000) (hx:∀ x ∈ t.l,ATr 64 P (argT n) x):ATr 35 P (wellT (n+1)) t:=by
 intro W pp ln cl h
 have hln:t.l.length = ln:=by
   exact K93
 have e0:(t.k == 0) = false:=J76
 have e1:(t.k == 1) = false:=J76
 have e2:(t.k == 2) = false:=J76
 have e3:(t.k == 3) = false:=J76
 have e4:(t.k == 4) = false:=J76
 have e6:(t.k == 6) = false:=J76
 have e7:(t.k == 7) = false:=J76
 have e8:(t.k == 8) = true:=J76
 have HX:Hid (wellT (n+1) t = ((kno t.s).isSome && decide (knA t.s≤ln) && decide ((ln:Int)≤knB t.s) && t.l.all (argT n))):=by show _ = _;unfold wellT;simp only [hk,hln];rfl
 have HC:Hid (∀ W',Ext W W'→Calls Tryz.prog 61 #[.slice pp ln cl,.func (.func 64) #[] #[]] W' fun e w'=>e = .returned (.bool (t.l.all (argT n)))∧Ext W' w'):=fun W' e=>xall_any 64 P (argT n) t.l pp ln cl W' hl (enters_of func64 J3 rfl) hx (h.ext e)
 have cK:=fun W=>known_any (bs t.s) W
 have es:(bs t.s).data.toList = t.s:=rfl
 rw [es] at cK
 obtain ⟨ka,hka⟩:∃ ka,knA t.s = ka:=⟨_,rfl⟩
 obtain ⟨kb,hkb⟩:∃ kb,knB t.s = kb:=⟨_,rfl⟩
 rw [hka,hkb] at cK HX
 generalize bs t.s = q at *
 clear hk hl hx h hln es hka hkb
 cases hs:(kno t.s).isSome
 · rw [hs] at cK HX
   clear hs
   exact K73
 rw [hs] at cK HX
 clear hs
 by_cases h1:ka≤(ln:Int)
 · have d1:decide (ka≤(ln:Int)) = true:=J75
   rw [d1] at HX
   by_cases h2:(ln:Int)≤kb
   · have d2:decide ((ln:Int)≤kb) = true:=by simpa using h2
     rw [d2] at HX
     go_enter func35,ntmps35
     go_wp2_with fail
     refine (cK _).mono ?_
     rintro e w1 ⟨rfl,rfl⟩
     go_wp2_with fail
     refine (HC.out _ (xr.alloc _)).mono ?_
     exact K125
   · have d2:decide ((ln:Int)≤kb) = false:=by simpa using h2
     rw [d2] at HX
     exact K73
 · have d1:decide (ka≤(ln:Int)) = false:=J75
   rw [d1] at HX
   exact K73
theorem well_any (P:Nat→Prop) (n:Nat):∀ t,Hr n t→ATr 35 P (wellT n) t:=by
 induction n with
 | zero=>intro t h;exact h.elim
 | succ n ih =>
   intro t h
   by_cases h6:t.k = 6
   · exact well_neg P n t h6 h.1 (fun x hx=>ih x (h.2 x hx))
   by_cases h7:t.k = 7
   · exact well_bin P n t h7 h.1 (fun x hx=>ih x (h.2 x hx))
   by_cases h8:t.k = 8
   · exact well_call P n t h8 h.1 (fun x hx=>isArg_any P n x (ih x (h.2 x hx)))
   exact well_leaf P n t h6 h7 h8
theorem eexp_bad (pv:Value) (m:Nat) (t:T) (hH:Hr m t) (hw:wellT m t = false) (W:World) (pp:Option Addr) (ln cl:Nat) (hN:Nm W) (hI:IsL W (fun _=>True) (.slice pp ln cl) t.l) :
   Calls Tryz.prog 14 #[.agg #[.int .i64 t.k,.int .i64 t.n,.string (bs t.s),.int .i64 t.e,.int .i64 t.r.1,.int .i64 t.r.2.1,.bool t.r.2.2.1,.bool t.r.2.2.2,.int .i64 t.q.1,.int .i64 t.q.2.1,.bool t.q.2.2.1,.bool t.q.2.2.2,.slice pp ln cl],pv] W fun e w'=>e = .returned (.agg #[.int .i64 (V.err 2).k,.int .i64 (V.err 2).n,.string (V.err 2).s,.int .i64 (V.err 2).e])∧Ext W w':=by
 have cW:=fun W' (e:Ext W W')=>well_any (fun _=>True) m t hH W' pp ln cl (hI.ext e)
 rw [hw] at cW
 have cA:=fun W' (e:Ext W W')=>err_any 2 W' (hN.ext e)
 rw [mkErr_is ⟨by decide,by decide⟩] at cA
 simp only [dat_eq] at cA
 generalize V.err 2 = v at *
 obtain ⟨vk,vn,vs,ve,q1,q2,q3,q4⟩:∃ vk vn vs ve,v.k = vk∧v.n = vn∧v.s = vs∧v.e = ve:=⟨_,_,_,_,rfl,rfl,rfl,rfl⟩
 rw [q1,q2,q3,q4] at cA ⊢
 clear q1 q2 q3 q4 v hI hH hw hN
 exact K27
theorem eexp_ok (b:Nat) (g:Option Nat) (n:Nat) (M:Bov) (hM:BdOk M) (m:Nat) (t:T) (hW:Wf t) (hH:Hr m t) (hw:wellT m t = true) (W:World) (pp:Option Addr) (ln cl:Nat) (hE:Ent W b g n M) (hI:IsL W (fun _=>True) (.slice pp ln cl) t.l) :
   Calls Tryz.prog 14 #[.agg #[.int .i64 t.k,.int .i64 t.n,.string (bs t.s),.int .i64 t.e,.int .i64 t.r.1,.int .i64 t.r.2.1,.bool t.r.2.2.1,.bool t.r.2.2.2,.int .i64 t.q.1,.int .i64 t.q.2.1,.bool t.q.2.2.1,.bool t.q.2.2.2,.slice pp ln cl],.pointer (some ⟨b,0,none⟩)] W fun e w'=>e = .returned (.agg #[.int .i64 (evT m M t).k,.int .i64 (evT m M t).n,.string (evT m M t).s,.int .i64 (evT m M t).e])∧Ext W w':=by
 have cW:=fun W' (e:Ext W W')=>well_any (fun _=>True) m t hH W' pp ln cl (hI.ext e)
 rw [hw] at cW
 have cA:=fun W' (e:Ext W W')=>reckon_any b g n M hM m t hW hw W' pp ln cl (hE.ext e) (hI.ext e)
 generalize evT m M t = v at *
 obtain ⟨vk,vn,vs,ve,q1,q2,q3,q4⟩:∃ vk vn vs ve,v.k = vk∧v.n = vn∧v.s = vs∧v.e = ve:=⟨_,_,_,_,rfl,rfl,rfl,rfl⟩
 rw [q1,q2,q3,q4] at cA ⊢
 clear q1 q2 q3 q4 v hI hH hw hE hM hW
 exact K27
theorem eexp_nil (m:Nat) (t:T) (hW:Wf t) (hH:Hr m t) (hw:wellT m t = true) (W:World) (pp:Option Addr) (ln cl:Nat) (hN:Nm W) (hT:Tab W) (hI:IsL W (fun _=>True) (.slice pp ln cl) t.l) :
   Calls Tryz.prog 14 #[.agg #[.int .i64 t.k,.int .i64 t.n,.string (bs t.s),.int .i64 t.e,.int .i64 t.r.1,.int .i64 t.r.2.1,.bool t.r.2.2.1,.bool t.r.2.2.2,.int .i64 t.q.1,.int .i64 t.q.2.1,.bool t.q.2.2.1,.bool t.q.2.2.2,.slice pp ln cl],.pointer none] W fun e w'=>e = .returned (.agg #[.int .i64 (evT m bz t).k,.int .i64 (evT m bz t).n,.string (evT m bz t).s,.int .i64 (evT m bz t).e])∧Ext W w':=by
 have cW:=fun W' (e:Ext W W')=>well_any (fun _=>True) m t hH W' pp ln cl (hI.ext e)
 rw [hw] at cW
 have cN:=fun W'=>new_any W'
 have cA:=fun W' b (hb:Brd W' b none 0 bz) (e:Ext W W')=>reckon_any b none 0 bz bz_ok m t hW hw W' pp ln cl ⟨hb,hN.ext e,hT.ext e⟩ (hI.ext e)
 generalize evT m bz t = v at *
 obtain ⟨vk,vn,vs,ve,q1,q2,q3,q4⟩:∃ vk vn vs ve,v.k = vk∧v.n = vn∧v.s = vs∧v.e = ve:=⟨_,_,_,_,rfl,rfl,rfl,rfl⟩
 rw [q1,q2,q3,q4] at cA ⊢
 clear q1 q2 q3 q4 v hI hH hw hN hT hW
 go_enter func14,ntmps14
 go_wp2_with fail
 refine (cW _ ((xr.alloc _).alloc _)).mono ?_
 rintro e w1 ⟨rfl,E1⟩
 have X1:Hid (Ext W w1):=((xr.alloc _).alloc _).trans E1
 have D1:=blk_top (b:=W.heap.size+1) J65 E1
 have F1:Hid (Blk13 w1 W.heap.size (.int .i64 t.k) (.int .i64 t.n) (.string (bs t.s)) (.int .i64 t.e) (.int .i64 t.r.1) (.int .i64 t.r.2.1) (.bool t.r.2.2.1) (.bool t.r.2.2.2) (.int .i64 t.q.1) (.int .i64 t.q.2.1) (.bool t.q.2.2.1) (.bool t.q.2.2.2) (.slice pp ln cl)):=(Blk13.al _ (blk13_top rfl xr)).ext E1
 obtain ⟨_,⟨a0,a1,a2,a3,a4,a5,a6,a7,a8,a9,a10,a11,a12⟩,_⟩:=F1.out
 clear E1 cW
 go_wp2_with fail
 refine (cN _).mono ?_
 rintro e w4 ⟨rfl,hb4,E4⟩
 have X4:Hid (Ext W w4):=X1.out.trans E4
 have D4:=D1.ext E4
 obtain ⟨_,⟨c0,c1,c2,c3,c4,c5,c6,c7,c8,c9,c10,c11,c12⟩,_⟩:=F1.out.ext E4
 have HB:Hid (Brd w4 w1.heap.size none 0 bz):=hb4
 clear E4 a0 a1 a2 a3 a4 a5 a6 a7 a8 a9 a10 a11 a12 D1 cN hb4
 go_wp2_with fail
 refine (cA _ _ HB.out X4.out).mono ?_
 rintro e w2 ⟨rfl,E2⟩
 have X2:Hid (Ext W w2):=X4.out.trans E2
 have D:=D4.ext E2
 have D':=D
 obtain ⟨b0z,⟨b0_0,b0_1,b0_2,b0_3⟩,b0f0,b0f1,b0f2,b0f3⟩:=D'
 clear E2 cA
 go_wp2_with fail
 exact finB ((D.set _ _ _ _)) rfl ((((X2.out.setCell J65 _).setCell J65 _).setCell J65 _).setCell J65 _) J43 (fun h=>⟨rfl,h⟩)
theorem exp_any (b:Nat) (g:Option Nat) (n:Nat) (M:Bov) (hM:BdOk M) (m:Nat) (t:T) (hW:Wf t) (hH:Hr m t) (W:World) (pp:Option Addr) (ln cl:Nat) (hE:Ent W b g n M) (hI:IsL W (fun _=>True) (.slice pp ln cl) t.l) :
   Calls Tryz.prog 14 #[.agg #[.int .i64 t.k,.int .i64 t.n,.string (bs t.s),.int .i64 t.e,.int .i64 t.r.1,.int .i64 t.r.2.1,.bool t.r.2.2.1,.bool t.r.2.2.2,.int .i64 t.q.1,.int .i64 t.q.2.1,.bool t.q.2.2.1,.bool t.q.2.2.2,.slice pp ln cl],.pointer (some ⟨b,0,none⟩)] W fun e w'=>e = .returned (.agg #[.int .i64 (expV m M t).k,.int .i64 (expV m M t).n,.string (expV m M t).s,.int .i64 (expV m M t).e])∧Ext W w':=by
 unfold expV
 cases hw:wellT m t with
 | true=>exact eexp_ok b g n M hM m t hW hH hw W pp ln cl hE hI
 | false=>exact eexp_bad _ m t hH hw W pp ln cl hE.n hI
theorem expV_ok {M:Bov} (hM:BdOk M) (m:Nat) (t:T) (hW:Wf t):(expV m M t).ok:=by
 unfold expV
 split
 · exact evT_ok hM m t hW (by assumption)
 · exact K79
theorem IsL.three {P:Nat→Prop} {W W1:World} {g:Nat} {x y z:T} {lx ly lz:Value} (hg:W.heap.size = g) (hW:W.alloc (.cells #[.int .i64 x.k,.int .i64 x.n,.string (bs x.s),.int .i64 x.e,.int .i64 x.r.1,.int .i64 x.r.2.1,.bool x.r.2.2.1,.bool x.r.2.2.2,.int .i64 x.q.1,.int .i64 x.q.2.1,.bool x.q.2.2.1,.bool x.q.2.2.2,lx,.int .i64 y.k,.int .i64 y.n,.string (bs y.s),.int .i64 y.e,.int .i64 y.r.1,.int .i64 y.r.2.1,.bool y.r.2.2.1,.bool y.r.2.2.2,.int .i64 y.q.1,.int .i64 y.q.2.1,.bool y.q.2.2.1,.bool y.q.2.2.2,ly,.int .i64 z.k,.int .i64 z.n,.string (bs z.s),.int .i64 z.e,.int .i64 z.r.1,.int .i64 z.r.2.1,.bool z.r.2.2.1,.bool z.r.2.2.2,.int .i64 z.q.1,.int .i64 z.q.2.1,.bool z.q.2.2.1,.bool z.q.2.2.2,lz] 43) = W1) (hx:IsL W P lx x.l) (hy:IsL W P ly y.l) (hz:IsL W P lz z.l) (hP:P g) :
   IsL W1 P (.slice (some ⟨g,0,none⟩) 3 3) [x,y,z]:=by
 subst hg hW
 refine .mk W.heap.size 0 3 3 [x,y,z] (fun i=>if i = 0 then lx else if i = 1 then ly else lz) rfl nrf hP J65 ?_ ?_
 · intro i t j u hi hj
   rw [cell_of_row _ _ _ _ _ (0,0) (new_top W _),Nat.zero_add,← Array.getElem?_toList]
   have e:(#[.int .i64 x.k,.int .i64 x.n,.string (bs x.s),.int .i64 x.e,.int .i64 x.r.1,.int .i64 x.r.2.1,.bool x.r.2.2.1,.bool x.r.2.2.2,.int .i64 x.q.1,.int .i64 x.q.2.1,.bool x.q.2.2.1,.bool x.q.2.2.2,lx,.int .i64 y.k,.int .i64 y.n,.string (bs y.s),.int .i64 y.e,.int .i64 y.r.1,.int .i64 y.r.2.1,.bool y.r.2.2.1,.bool y.r.2.2.2,.int .i64 y.q.1,.int .i64 y.q.2.1,.bool y.q.2.2.1,.bool y.q.2.2.2,ly,.int .i64 z.k,.int .i64 z.n,.string (bs z.s),.int .i64 z.e,.int .i64 z.r.1,.int .i64 z.r.2.1,.bool z.r.2.2.1,.bool z.r.2.2.2,.int .i64 z.q.1,.int .i64 z.q.2.1,.bool z.q.2.2.1,.bool z.q.2.2.2,lz]:Array Value).toList = cellsT x lx ++ (cellsT y ly ++ cellsT z lz):=rfl
   rw [e]
   match i with
   | 0 =>
     exact K110
   | 1 =>
     simp at hi
     subst hi
     have hl:j < (cellsT y ly).length:=(List.getElem?_eq_some_iff.mp hj).1
     rw [List.getElem?_append_right J51,cellsT_length,show 1 * 13+j - 13 = j by omega,List.getElem?_append_left hl]
     exact hj
   | 2 =>
     simp at hi
     subst hi
     rw [List.getElem?_append_right J51,cellsT_length,List.getElem?_append_right J51,cellsT_length,show 2 * 13+j - 13 - 13 = j by omega]
     exact hj
   | i+3=>simp at hi
 · intro i t hi
   match i with
   | 0=>simp at hi;subst hi;exact hx.ext (xr.alloc _)
   | 1=>simp at hi;subst hi;exact hy.ext (xr.alloc _)
   | 2=>simp at hi;subst hi;exact hz.ext (xr.alloc _)
   | i+3=>simp at hi
theorem hxc4 {w w':World} {b:Nat} {x0 x1 x2 x3:Value} (h:Hid (Blk w b x0 x1 x2 x3)) (e:Ext w w'):Hid (Blk w' b x0 x1 x2 x3):=h.out.ext e
theorem hxcL {w w':World} {P:Nat→Prop} {v:Value} {l:List T} (h:Hid (IsL w P v l)) (e:Ext w w'):Hid (IsL w' P v l):=h.out.ext e
theorem hxcX {w w':World} {b:Nat} {t:T} {v:Value} (h:Hid (BlkX w b t v)) (e:Ext w w'):Hid (BlkX w' b t v):=h.out.ext e
def raO:Array Oper:=#[⟨some 12,.indexAddr 61 (.tmp 2) (.const (.int .i64 0)),0, "law.go:114",#[],none⟩,⟨some 13,.load 43 (.tmp 12),43, "law.go:114",#[⟨0,.data⟩],none⟩,⟨some 14,.indexAddr 61 (.tmp 2) (.const (.int .i64 1)),0, "law.go:114",#[{ on:=9,ground:=Ground.gcOnly Departure.lateStores }],none⟩,⟨some 15,.load 43 (.tmp 14),43, "law.go:114",#[⟨2,.data⟩,{ on:=9,ground:=Ground.gcOnly Departure.lateStores }],none⟩,⟨some 16,.indexAddr 61 (.tmp 2) (.const (.int .i64 2)),0, "law.go:114",#[{ on:=10,ground:=Ground.gcOnly Departure.lateStores }],none⟩,⟨some 17,.load 43 (.tmp 16),43, "law.go:114",#[⟨4,.data⟩,{ on:=10,ground:=Ground.gcOnly Departure.lateStores }],none⟩,⟨some 5,.alloc 43,0, "law.go:114",#[],none⟩,⟨some 6,.alloc 43,0, "law.go:114",#[],none⟩,⟨some 7,.alloc 43,0, "law.go:114",#[],none⟩,⟨none,.store 43 (.tmp 5) (.tmp 13),0, "law.go:114",#[⟨6,.data⟩,⟨1,.data⟩,⟨0,.phase⟩,⟨1,.phase⟩,{ on:=2,ground:=Ground.textOnly Departure.lateStores },{ on:=3,ground:=Ground.textOnly Departure.lateStores },{ on:=4,ground:=Ground.textOnly Departure.lateStores },{ on:=5,ground:=Ground.textOnly Departure.lateStores },⟨6,.phase⟩,⟨7,.phase⟩,⟨8,.phase⟩],none⟩,⟨none,.store 43 (.tmp 6) (.tmp 15),0, "law.go:114",#[⟨7,.data⟩,⟨3,.data⟩,⟨9,.chain⟩,⟨0,.phase⟩,⟨1,.phase⟩,⟨2,.phase⟩,⟨3,.phase⟩,{ on:=4,ground:=Ground.textOnly Departure.lateStores },{ on:=5,ground:=Ground.textOnly Departure.lateStores },⟨6,.phase⟩,⟨7,.phase⟩,⟨8,.phase⟩,⟨9,.phase⟩],none⟩,⟨none,.store 43 (.tmp 7) (.tmp 17),0, "law.go:114",#[⟨8,.data⟩,⟨5,.data⟩,⟨10,.chain⟩,⟨0,.phase⟩,⟨1,.phase⟩,⟨2,.phase⟩,⟨3,.phase⟩,⟨4,.phase⟩,⟨5,.phase⟩,⟨6,.phase⟩,⟨7,.phase⟩,⟨8,.phase⟩,⟨9,.phase⟩,⟨10,.phase⟩],none⟩]
def raE (Ta Tb Tc:T) (pa pb pc:Option Addr) (na ca nb cb nc cc:Nat) (va vb vc:Value):Prop:=va = .agg #[.int .i64 Ta.k,.int .i64 Ta.n,.string (bs Ta.s),.int .i64 Ta.e,.int .i64 Ta.r.1,.int .i64 Ta.r.2.1,.bool Ta.r.2.2.1,.bool Ta.r.2.2.2,.int .i64 Ta.q.1,.int .i64 Ta.q.2.1,.bool Ta.q.2.2.1,.bool Ta.q.2.2.2,.slice pa na ca]∧vb = .agg #[.int .i64 Tb.k,.int .i64 Tb.n,.string (bs Tb.s),.int .i64 Tb.e,.int .i64 Tb.r.1,.int .i64 Tb.r.2.1,.bool Tb.r.2.2.1,.bool Tb.r.2.2.2,.int .i64 Tb.q.1,.int .i64 Tb.q.2.1,.bool Tb.q.2.2.1,.bool Tb.q.2.2.2,.slice pb nb cb]∧vc = .agg #[.int .i64 Tc.k,.int .i64 Tc.n,.string (bs Tc.s),.int .i64 Tc.e,.int .i64 Tc.r.1,.int .i64 Tc.r.2.1,.bool Tc.r.2.2.1,.bool Tc.r.2.2.2,.int .i64 Tc.q.1,.int .i64 Tc.q.2.1,.bool Tc.q.2.2.1,.bool Tc.q.2.2.2,.slice pc nc cc]
def raD (Ta Tb Tc:T) (pa pb pc:Option Addr) (na ca nb cb nc cc:Nat) (va vb vc:Value) (W1:World) (Q:Exit→Act→World→Prop) (u u0 u1 u2 u4 u12 u14 u16:Value):Prop:=∀ (ga gb gc:Nat) (y:World),Hid (Ext W1 y)→Hid (BlkX y ga Ta (.slice pa na ca))→Hid (BlkX y gb Tb (.slice pb nb cb))→Hid (BlkX y gc Tc (.slice pc nc cc))→Hid (W1.heap.size≤ga)→Hid (W1.heap.size≤gb)→Hid (W1.heap.size≤gc)→Hid (ga≠gb)→Hid (ga≠gc)→Hid (gb≠gc)→Q .normal { tmps:=#[u0,u1,u2,u,u4,(.pointer (some ⟨ga,0,none⟩)),(.pointer (some ⟨gb,0,none⟩)),(.pointer (some ⟨gc,0,none⟩)),u,u,u,u,u12,(va),u14,(vb),u16,(vc),u,u,u,u,u,u,u,u,u,u,u,u,u,u,u,u,u,u,u,u,u,u,u,u,u,u,u,u,u,u,u,u,u,u,u,u,u,u,u,u,u,u,u,u,u,u,u,u,u,u,u,u,u,u,u,u,u,u,u,u,u,u,u,u,u,u,u,u,u,u,u,u,u,u,u,u,u,u,u,u,u],defers:=[] } y
theorem ra_abc {Ta Tb Tc:T} {pa pb pc:Option Addr} {na ca nb cb nc cc:Nat} {va vb vc:Value} {W1:World} {S:World→Prop} {Q:Exit→Act→World→Prop} {u u0 u1 u2 u4 u12 u14 u16:Value} (mkS:Hid (∀ V,Ext W1 V→S V)) (hE:Hid (raE Ta Tb Tc pa pb pc na ca nb cb nc cc va vb vc)) (hdone:raD Ta Tb Tc pa pb pc na ca nb cb nc cc va vb vc W1 Q u u0 u1 u2 u4 u12 u14 u16) (ga:Nat) (gb:Nat) (gc:Nat) (y0:World) (X:Hid (Ext W1 y0)) (Ga:Hid (BlkX y0 ga tz (.slice none 0 0))) (Na:Hid (W1.heap.size≤ga)) (Gb:Hid (BlkX y0 gb tz (.slice none 0 0))) (Nb:Hid (W1.heap.size≤gb)) (Gc:Hid (BlkX y0 gc tz (.slice none 0 0))) (Nc:Hid (W1.heap.size≤gc)) (Dab:Hid (ga≠gb)) (Dac:Hid (ga≠gc)) (Dbc:Hid (gb≠gc)) :
   wpBar Tryz.prog .any raO Q (fun _=>false) S 3 #[true,true,true,true,true,true,true,true,true,false,false,false] { tmps:=#[u0,u1,u2,u,u4,(.pointer (some ⟨ga,0,none⟩)),(.pointer (some ⟨gb,0,none⟩)),(.pointer (some ⟨gc,0,none⟩)),u,u,u,u,u12,(va),u14,(vb),u16,(vc),u,u,u,u,u,u,u,u,u,u,u,u,u,u,u,u,u,u,u,u,u,u,u,u,u,u,u,u,u,u,u,u,u,u,u,u,u,u,u,u,u,u,u,u,u,u,u,u,u,u,u,u,u,u,u,u,u,u,u,u,u,u,u,u,u,u,u,u,u,u,u,u,u,u,u,u,u,u,u,u,u],defers:=[] } y0:=by
 unfold raO
 obtain ⟨ea,eb,ec⟩:=hE.out
 subst ea eb ec
 obtain ⟨za,⟨a0,a1,a2,a3,a4,a5,a6,a7,a8,a9,a10,a11,a12⟩,f0,f1,f2,f3,f4,f5,f6,f7,f8,f9,f10,f11,f12⟩:=Ga.out
 refine bar_one (i:=9) J3 rfl (fun KK hKK=>?_)
 go_simp
 have EP:Hid (Ext W1 (putX y0 ga Ta (.slice pa na ca))):=putX_E X.out Na.out _ _
 refine hKK.out _ (putX y0 ga Ta (.slice pa na ca)) (fun _=>mkS.out _ EP.out) ?_
 clear hKK KK za a0 a1 a2 a3 a4 a5 a6 a7 a8 a9 a10 a11 a12 f0 f1 f2 f3 f4 f5 f6 f7 f8 f9 f10 f11 f12
 replace Ga:Hid (BlkX (putX y0 ga Ta (.slice pa na ca)) ga Ta (.slice pa na ca)):=Ga.out.put _ _
 replace Gb:Hid (BlkX (putX y0 ga Ta (.slice pa na ca)) gb tz (.slice none 0 0)):=Blk13.far Gb.out Dab.out _ _ _ _ _ _ _ _ _ _ _ _ _
 replace Gc:Hid (BlkX (putX y0 ga Ta (.slice pa na ca)) gc tz (.slice none 0 0)):=Blk13.far Gc.out Dac.out _ _ _ _ _ _ _ _ _ _ _ _ _
 replace X:=EP
 clear EP
 generalize putX y0 ga Ta (.slice pa na ca) = w2 at *
 rw [show (#[true,true,true,true,true,true,true,true,true,false,false,false]:Array Bool).setIfInBounds 9 true = #[true,true,true,true,true,true,true,true,true,true,false,false] from rfl]
 obtain ⟨za,⟨a0,a1,a2,a3,a4,a5,a6,a7,a8,a9,a10,a11,a12⟩,f0,f1,f2,f3,f4,f5,f6,f7,f8,f9,f10,f11,f12⟩:=Gb.out
 refine bar_one (i:=10) J3 rfl (fun KK hKK=>?_)
 go_simp
 have EP:Hid (Ext W1 (putX w2 gb Tb (.slice pb nb cb))):=putX_E X.out Nb.out _ _
 refine hKK.out _ (putX w2 gb Tb (.slice pb nb cb)) (fun _=>mkS.out _ EP.out) ?_
 clear hKK KK za a0 a1 a2 a3 a4 a5 a6 a7 a8 a9 a10 a11 a12 f0 f1 f2 f3 f4 f5 f6 f7 f8 f9 f10 f11 f12
 replace Gb:Hid (BlkX (putX w2 gb Tb (.slice pb nb cb)) gb Tb (.slice pb nb cb)):=Gb.out.put _ _
 replace Ga:Hid (BlkX (putX w2 gb Tb (.slice pb nb cb)) ga Ta (.slice pa na ca)):=Blk13.far Ga.out (Ne.symm Dab.out) _ _ _ _ _ _ _ _ _ _ _ _ _
 replace Gc:Hid (BlkX (putX w2 gb Tb (.slice pb nb cb)) gc tz (.slice none 0 0)):=Blk13.far Gc.out Dbc.out _ _ _ _ _ _ _ _ _ _ _ _ _
 replace X:=EP
 clear EP
 generalize putX w2 gb Tb (.slice pb nb cb) = w3 at *
 rw [show (#[true,true,true,true,true,true,true,true,true,true,false,false]:Array Bool).setIfInBounds 10 true = #[true,true,true,true,true,true,true,true,true,true,true,false] from rfl]
 obtain ⟨za,⟨a0,a1,a2,a3,a4,a5,a6,a7,a8,a9,a10,a11,a12⟩,f0,f1,f2,f3,f4,f5,f6,f7,f8,f9,f10,f11,f12⟩:=Gc.out
 refine bar_one (i:=11) J3 rfl (fun KK hKK=>?_)
 go_simp
 have EP:Hid (Ext W1 (putX w3 gc Tc (.slice pc nc cc))):=putX_E X.out Nc.out _ _
 refine hKK.out _ (putX w3 gc Tc (.slice pc nc cc)) (fun _=>mkS.out _ EP.out) ?_
 clear hKK KK za a0 a1 a2 a3 a4 a5 a6 a7 a8 a9 a10 a11 a12 f0 f1 f2 f3 f4 f5 f6 f7 f8 f9 f10 f11 f12
 replace Gc:Hid (BlkX (putX w3 gc Tc (.slice pc nc cc)) gc Tc (.slice pc nc cc)):=Gc.out.put _ _
 replace Ga:Hid (BlkX (putX w3 gc Tc (.slice pc nc cc)) ga Ta (.slice pa na ca)):=Blk13.far Ga.out (Ne.symm Dac.out) _ _ _ _ _ _ _ _ _ _ _ _ _
 replace Gb:Hid (BlkX (putX w3 gc Tc (.slice pc nc cc)) gb Tb (.slice pb nb cb)):=Blk13.far Gb.out (Ne.symm Dbc.out) _ _ _ _ _ _ _ _ _ _ _ _ _
 replace X:=EP
 clear EP
 generalize putX w3 gc Tc (.slice pc nc cc) = w4 at *
 rw [show (#[true,true,true,true,true,true,true,true,true,true,true,false]:Array Bool).setIfInBounds 11 true = #[true,true,true,true,true,true,true,true,true,true,true,true] from rfl]
 refine bar_done J3 ?_ _
 exact hdone ga gb gc w4 X Ga Gb Gc Na Nb Nc Dab Dac Dbc
theorem ra_ab {Ta Tb Tc:T} {pa pb pc:Option Addr} {na ca nb cb nc cc:Nat} {va vb vc:Value} {W1:World} {S:World→Prop} {Q:Exit→Act→World→Prop} {u u0 u1 u2 u4 u12 u14 u16:Value} (mkS:Hid (∀ V,Ext W1 V→S V)) (hE:Hid (raE Ta Tb Tc pa pb pc na ca nb cb nc cc va vb vc)) (hdone:raD Ta Tb Tc pa pb pc na ca nb cb nc cc va vb vc W1 Q u u0 u1 u2 u4 u12 u14 u16) (ga:Nat) (gb:Nat) (y0:World) (X:Hid (Ext W1 y0)) (Ga:Hid (BlkX y0 ga tz (.slice none 0 0))) (Na:Hid (W1.heap.size≤ga)) (Gb:Hid (BlkX y0 gb tz (.slice none 0 0))) (Nb:Hid (W1.heap.size≤gb)) (Dab:Hid (ga≠gb)) :
   wpBar Tryz.prog .any raO Q (fun _=>false) S 4 #[true,true,true,true,true,true,true,true,false,false,false,false] { tmps:=#[u0,u1,u2,u,u4,(.pointer (some ⟨ga,0,none⟩)),(.pointer (some ⟨gb,0,none⟩)),u,u,u,u,u,u12,(va),u14,(vb),u16,(vc),u,u,u,u,u,u,u,u,u,u,u,u,u,u,u,u,u,u,u,u,u,u,u,u,u,u,u,u,u,u,u,u,u,u,u,u,u,u,u,u,u,u,u,u,u,u,u,u,u,u,u,u,u,u,u,u,u,u,u,u,u,u,u,u,u,u,u,u,u,u,u,u,u,u,u,u,u,u,u,u,u],defers:=[] } y0:=by
 unfold raO
 refine bar_one (i:=8) J3 rfl (fun KK hKK=>?_)
 go_simp
 refine hKK.out _ _ (fun _=>mkS.out _ (X.out.alloc _)) ?_
 clear hKK KK
 obtain ⟨y1,hya⟩:∃ ya,World.alloc y0 (.cells #[.int .i64 0,.int .i64 0,.string ⟨#[]⟩,.int .i64 0,.int .i64 0,.int .i64 0,.bool false,.bool false,.int .i64 0,.int .i64 0,.bool false,.bool false,.slice none 0 0] 43) = ya:=⟨_,rfl⟩
 obtain ⟨gc,hga⟩:∃ g,y0.heap.size = g:=⟨_,rfl⟩
 have E:Ext y0 y1:=J117
 have Gc:Hid (BlkX y1 gc tz (.slice none 0 0)):=J118
 have Nc:Hid (W1.heap.size≤gc):=J119
 have Dac:Hid (ga≠gc):=by show _≠_;have:=Ga.out.1;rw [hga] at this;omega
 have Dbc:Hid (gb≠gc):=by show _≠_;have:=Gb.out.1;rw [hga] at this;omega
 rw [hya,hga]
 replace X:Hid (Ext W1 y1):=X.out.trans E
 replace Ga:=hxcX Ga E
 replace Gb:=hxcX Gb E
 clear E hya hga
 rw [show (#[true,true,true,true,true,true,true,true,false,false,false,false]:Array Bool).setIfInBounds 8 true = #[true,true,true,true,true,true,true,true,true,false,false,false] from rfl]
 exact K138
theorem ra_ac {Ta Tb Tc:T} {pa pb pc:Option Addr} {na ca nb cb nc cc:Nat} {va vb vc:Value} {W1:World} {S:World→Prop} {Q:Exit→Act→World→Prop} {u u0 u1 u2 u4 u12 u14 u16:Value} (mkS:Hid (∀ V,Ext W1 V→S V)) (hE:Hid (raE Ta Tb Tc pa pb pc na ca nb cb nc cc va vb vc)) (hdone:raD Ta Tb Tc pa pb pc na ca nb cb nc cc va vb vc W1 Q u u0 u1 u2 u4 u12 u14 u16) (ga:Nat) (gc:Nat) (y0:World) (X:Hid (Ext W1 y0)) (Ga:Hid (BlkX y0 ga tz (.slice none 0 0))) (Na:Hid (W1.heap.size≤ga)) (Gc:Hid (BlkX y0 gc tz (.slice none 0 0))) (Nc:Hid (W1.heap.size≤gc)) (Dac:Hid (ga≠gc)) :
   wpBar Tryz.prog .any raO Q (fun _=>false) S 4 #[true,true,true,true,true,true,true,false,true,false,false,false] { tmps:=#[u0,u1,u2,u,u4,(.pointer (some ⟨ga,0,none⟩)),u,(.pointer (some ⟨gc,0,none⟩)),u,u,u,u,u12,(va),u14,(vb),u16,(vc),u,u,u,u,u,u,u,u,u,u,u,u,u,u,u,u,u,u,u,u,u,u,u,u,u,u,u,u,u,u,u,u,u,u,u,u,u,u,u,u,u,u,u,u,u,u,u,u,u,u,u,u,u,u,u,u,u,u,u,u,u,u,u,u,u,u,u,u,u,u,u,u,u,u,u,u,u,u,u,u,u],defers:=[] } y0:=by
 unfold raO
 refine bar_one (i:=7) J3 rfl (fun KK hKK=>?_)
 go_simp
 refine hKK.out _ _ (fun _=>mkS.out _ (X.out.alloc _)) ?_
 clear hKK KK
 obtain ⟨y1,hya⟩:∃ ya,World.alloc y0 (.cells #[.int .i64 0,.int .i64 0,.string ⟨#[]⟩,.int .i64 0,.int .i64 0,.int .i64 0,.bool false,.bool false,.int .i64 0,.int .i64 0,.bool false,.bool false,.slice none 0 0] 43) = ya:=⟨_,rfl⟩
 obtain ⟨gb,hga⟩:∃ g,y0.heap.size = g:=⟨_,rfl⟩
 have E:Ext y0 y1:=J117
 have Gb:Hid (BlkX y1 gb tz (.slice none 0 0)):=J118
 have Nb:Hid (W1.heap.size≤gb):=J119
 have Dab:Hid (ga≠gb):=by show _≠_;have:=Ga.out.1;rw [hga] at this;omega
 have Dbc:Hid (gb≠gc):=by show _≠_;have:=Gc.out.1;rw [hga] at this;omega
 rw [hya,hga]
 replace X:Hid (Ext W1 y1):=X.out.trans E
 replace Ga:=hxcX Ga E
 replace Gc:=hxcX Gc E
 clear E hya hga
 rw [show (#[true,true,true,true,true,true,true,false,true,false,false,false]:Array Bool).setIfInBounds 7 true = #[true,true,true,true,true,true,true,true,true,false,false,false] from rfl]
 exact K138
theorem ra_a {Ta Tb Tc:T} {pa pb pc:Option Addr} {na ca nb cb nc cc:Nat} {va vb vc:Value} {W1:World} {S:World→Prop} {Q:Exit→Act→World→Prop} {u u0 u1 u2 u4 u12 u14 u16:Value} (mkS:Hid (∀ V,Ext W1 V→S V)) (hE:Hid (raE Ta Tb Tc pa pb pc na ca nb cb nc cc va vb vc)) (hdone:raD Ta Tb Tc pa pb pc na ca nb cb nc cc va vb vc W1 Q u u0 u1 u2 u4 u12 u14 u16) (ga:Nat) (y0:World) (X:Hid (Ext W1 y0)) (Ga:Hid (BlkX y0 ga tz (.slice none 0 0))) (Na:Hid (W1.heap.size≤ga)) :
   wpBar Tryz.prog .any raO Q (fun _=>false) S 5 #[true,true,true,true,true,true,true,false,false,false,false,false] { tmps:=#[u0,u1,u2,u,u4,(.pointer (some ⟨ga,0,none⟩)),u,u,u,u,u,u,u12,(va),u14,(vb),u16,(vc),u,u,u,u,u,u,u,u,u,u,u,u,u,u,u,u,u,u,u,u,u,u,u,u,u,u,u,u,u,u,u,u,u,u,u,u,u,u,u,u,u,u,u,u,u,u,u,u,u,u,u,u,u,u,u,u,u,u,u,u,u,u,u,u,u,u,u,u,u,u,u,u,u,u,u,u,u,u,u,u,u],defers:=[] } y0:=by
 unfold raO
 refine bar_list (rs:=[7,8]) J3 J65 ?_
 refine Bars.cons rfl (fun KK hKK=>?_) ?_
 · go_simp
   refine hKK.out _ _ (fun _=>mkS.out _ (X.out.alloc _)) ?_
   clear hKK KK
   obtain ⟨y1,hya⟩:∃ ya,World.alloc y0 (.cells #[.int .i64 0,.int .i64 0,.string ⟨#[]⟩,.int .i64 0,.int .i64 0,.int .i64 0,.bool false,.bool false,.int .i64 0,.int .i64 0,.bool false,.bool false,.slice none 0 0] 43) = ya:=⟨_,rfl⟩
   obtain ⟨gb,hga⟩:∃ g,y0.heap.size = g:=⟨_,rfl⟩
   have E:Ext y0 y1:=J117
   have Gb:Hid (BlkX y1 gb tz (.slice none 0 0)):=J118
   have Nb:Hid (W1.heap.size≤gb):=J119
   have Dab:Hid (ga≠gb):=by show _≠_;have:=Ga.out.1;rw [hga] at this;omega
   rw [hya,hga]
   replace X:Hid (Ext W1 y1):=X.out.trans E
   replace Ga:=hxcX Ga E
   clear E hya hga
   rw [show (#[true,true,true,true,true,true,true,false,false,false,false,false]:Array Bool).setIfInBounds 7 true = #[true,true,true,true,true,true,true,true,false,false,false,false] from rfl]
   exact ra_ab mkS hE hdone ga gb y1 X Ga Na Gb Nb Dab
 · refine Bars.cons rfl (fun KK hKK=>?_) ?_
   · go_simp
     refine hKK.out _ _ (fun _=>mkS.out _ (X.out.alloc _)) ?_
     clear hKK KK
     obtain ⟨y1,hya⟩:∃ ya,World.alloc y0 (.cells #[.int .i64 0,.int .i64 0,.string ⟨#[]⟩,.int .i64 0,.int .i64 0,.int .i64 0,.bool false,.bool false,.int .i64 0,.int .i64 0,.bool false,.bool false,.slice none 0 0] 43) = ya:=⟨_,rfl⟩
     obtain ⟨gc,hga⟩:∃ g,y0.heap.size = g:=⟨_,rfl⟩
     have E:Ext y0 y1:=J117
     have Gc:Hid (BlkX y1 gc tz (.slice none 0 0)):=J118
     have Nc:Hid (W1.heap.size≤gc):=J119
     have Dac:Hid (ga≠gc):=by show _≠_;have:=Ga.out.1;rw [hga] at this;omega
     rw [hya,hga]
     replace X:Hid (Ext W1 y1):=X.out.trans E
     replace Ga:=hxcX Ga E
     clear E hya hga
     rw [show (#[true,true,true,true,true,true,true,false,false,false,false,false]:Array Bool).setIfInBounds 8 true = #[true,true,true,true,true,true,true,false,true,false,false,false] from rfl]
     exact ra_ac mkS hE hdone ga gc y1 X Ga Na Gc Nc Dac
   · exact Bars.nil
theorem ra_bc {Ta Tb Tc:T} {pa pb pc:Option Addr} {na ca nb cb nc cc:Nat} {va vb vc:Value} {W1:World} {S:World→Prop} {Q:Exit→Act→World→Prop} {u u0 u1 u2 u4 u12 u14 u16:Value} (mkS:Hid (∀ V,Ext W1 V→S V)) (hE:Hid (raE Ta Tb Tc pa pb pc na ca nb cb nc cc va vb vc)) (hdone:raD Ta Tb Tc pa pb pc na ca nb cb nc cc va vb vc W1 Q u u0 u1 u2 u4 u12 u14 u16) (gb:Nat) (gc:Nat) (y0:World) (X:Hid (Ext W1 y0)) (Gb:Hid (BlkX y0 gb tz (.slice none 0 0))) (Nb:Hid (W1.heap.size≤gb)) (Gc:Hid (BlkX y0 gc tz (.slice none 0 0))) (Nc:Hid (W1.heap.size≤gc)) (Dbc:Hid (gb≠gc)) :
   wpBar Tryz.prog .any raO Q (fun _=>false) S 4 #[true,true,true,true,true,true,false,true,true,false,false,false] { tmps:=#[u0,u1,u2,u,u4,u,(.pointer (some ⟨gb,0,none⟩)),(.pointer (some ⟨gc,0,none⟩)),u,u,u,u,u12,(va),u14,(vb),u16,(vc),u,u,u,u,u,u,u,u,u,u,u,u,u,u,u,u,u,u,u,u,u,u,u,u,u,u,u,u,u,u,u,u,u,u,u,u,u,u,u,u,u,u,u,u,u,u,u,u,u,u,u,u,u,u,u,u,u,u,u,u,u,u,u,u,u,u,u,u,u,u,u,u,u,u,u,u,u,u,u,u,u],defers:=[] } y0:=by
 unfold raO
 refine bar_one (i:=6) J3 rfl (fun KK hKK=>?_)
 go_simp
 refine hKK.out _ _ (fun _=>mkS.out _ (X.out.alloc _)) ?_
 clear hKK KK
 obtain ⟨y1,hya⟩:∃ ya,World.alloc y0 (.cells #[.int .i64 0,.int .i64 0,.string ⟨#[]⟩,.int .i64 0,.int .i64 0,.int .i64 0,.bool false,.bool false,.int .i64 0,.int .i64 0,.bool false,.bool false,.slice none 0 0] 43) = ya:=⟨_,rfl⟩
 obtain ⟨ga,hga⟩:∃ g,y0.heap.size = g:=⟨_,rfl⟩
 have E:Ext y0 y1:=J117
 have Ga:Hid (BlkX y1 ga tz (.slice none 0 0)):=J118
 have Na:Hid (W1.heap.size≤ga):=J119
 have Dab:Hid (ga≠gb):=by show _≠_;have:=Gb.out.1;rw [hga] at this;omega
 have Dac:Hid (ga≠gc):=by show _≠_;have:=Gc.out.1;rw [hga] at this;omega
 rw [hya,hga]
 replace X:Hid (Ext W1 y1):=X.out.trans E
 replace Gb:=hxcX Gb E
 replace Gc:=hxcX Gc E
 clear E hya hga
 rw [show (#[true,true,true,true,true,true,false,true,true,false,false,false]:Array Bool).setIfInBounds 6 true = #[true,true,true,true,true,true,true,true,true,false,false,false] from rfl]
 exact K138
theorem ra_b {Ta Tb Tc:T} {pa pb pc:Option Addr} {na ca nb cb nc cc:Nat} {va vb vc:Value} {W1:World} {S:World→Prop} {Q:Exit→Act→World→Prop} {u u0 u1 u2 u4 u12 u14 u16:Value} (mkS:Hid (∀ V,Ext W1 V→S V)) (hE:Hid (raE Ta Tb Tc pa pb pc na ca nb cb nc cc va vb vc)) (hdone:raD Ta Tb Tc pa pb pc na ca nb cb nc cc va vb vc W1 Q u u0 u1 u2 u4 u12 u14 u16) (gb:Nat) (y0:World) (X:Hid (Ext W1 y0)) (Gb:Hid (BlkX y0 gb tz (.slice none 0 0))) (Nb:Hid (W1.heap.size≤gb)) :
   wpBar Tryz.prog .any raO Q (fun _=>false) S 5 #[true,true,true,true,true,true,false,true,false,false,false,false] { tmps:=#[u0,u1,u2,u,u4,u,(.pointer (some ⟨gb,0,none⟩)),u,u,u,u,u,u12,(va),u14,(vb),u16,(vc),u,u,u,u,u,u,u,u,u,u,u,u,u,u,u,u,u,u,u,u,u,u,u,u,u,u,u,u,u,u,u,u,u,u,u,u,u,u,u,u,u,u,u,u,u,u,u,u,u,u,u,u,u,u,u,u,u,u,u,u,u,u,u,u,u,u,u,u,u,u,u,u,u,u,u,u,u,u,u,u,u],defers:=[] } y0:=by
 unfold raO
 refine bar_list (rs:=[6,8]) J3 J65 ?_
 refine Bars.cons rfl (fun KK hKK=>?_) ?_
 · go_simp
   refine hKK.out _ _ (fun _=>mkS.out _ (X.out.alloc _)) ?_
   clear hKK KK
   obtain ⟨y1,hya⟩:∃ ya,World.alloc y0 (.cells #[.int .i64 0,.int .i64 0,.string ⟨#[]⟩,.int .i64 0,.int .i64 0,.int .i64 0,.bool false,.bool false,.int .i64 0,.int .i64 0,.bool false,.bool false,.slice none 0 0] 43) = ya:=⟨_,rfl⟩
   obtain ⟨ga,hga⟩:∃ g,y0.heap.size = g:=⟨_,rfl⟩
   have E:Ext y0 y1:=J117
   have Ga:Hid (BlkX y1 ga tz (.slice none 0 0)):=J118
   have Na:Hid (W1.heap.size≤ga):=J119
   have Dab:Hid (ga≠gb):=by show _≠_;have:=Gb.out.1;rw [hga] at this;omega
   rw [hya,hga]
   replace X:Hid (Ext W1 y1):=X.out.trans E
   replace Gb:=hxcX Gb E
   clear E hya hga
   rw [show (#[true,true,true,true,true,true,false,true,false,false,false,false]:Array Bool).setIfInBounds 6 true = #[true,true,true,true,true,true,true,true,false,false,false,false] from rfl]
   exact ra_ab mkS hE hdone ga gb y1 X Ga Na Gb Nb Dab
 · refine Bars.cons rfl (fun KK hKK=>?_) ?_
   · go_simp
     refine hKK.out _ _ (fun _=>mkS.out _ (X.out.alloc _)) ?_
     clear hKK KK
     obtain ⟨y1,hya⟩:∃ ya,World.alloc y0 (.cells #[.int .i64 0,.int .i64 0,.string ⟨#[]⟩,.int .i64 0,.int .i64 0,.int .i64 0,.bool false,.bool false,.int .i64 0,.int .i64 0,.bool false,.bool false,.slice none 0 0] 43) = ya:=⟨_,rfl⟩
     obtain ⟨gc,hga⟩:∃ g,y0.heap.size = g:=⟨_,rfl⟩
     have E:Ext y0 y1:=J117
     have Gc:Hid (BlkX y1 gc tz (.slice none 0 0)):=J118
     have Nc:Hid (W1.heap.size≤gc):=J119
     have Dbc:Hid (gb≠gc):=by show _≠_;have:=Gb.out.1;rw [hga] at this;omega
     rw [hya,hga]
     replace X:Hid (Ext W1 y1):=X.out.trans E
     replace Gb:=hxcX Gb E
     clear E hya hga
     rw [show (#[true,true,true,true,true,true,false,true,false,false,false,false]:Array Bool).setIfInBounds 8 true = #[true,true,true,true,true,true,false,true,true,false,false,false] from rfl]
     exact ra_bc mkS hE hdone gb gc y1 X Gb Nb Gc Nc Dbc
   · exact Bars.nil
theorem ra_c {Ta Tb Tc:T} {pa pb pc:Option Addr} {na ca nb cb nc cc:Nat} {va vb vc:Value} {W1:World} {S:World→Prop} {Q:Exit→Act→World→Prop} {u u0 u1 u2 u4 u12 u14 u16:Value} (mkS:Hid (∀ V,Ext W1 V→S V)) (hE:Hid (raE Ta Tb Tc pa pb pc na ca nb cb nc cc va vb vc)) (hdone:raD Ta Tb Tc pa pb pc na ca nb cb nc cc va vb vc W1 Q u u0 u1 u2 u4 u12 u14 u16) (gc:Nat) (y0:World) (X:Hid (Ext W1 y0)) (Gc:Hid (BlkX y0 gc tz (.slice none 0 0))) (Nc:Hid (W1.heap.size≤gc)) :
   wpBar Tryz.prog .any raO Q (fun _=>false) S 5 #[true,true,true,true,true,true,false,false,true,false,false,false] { tmps:=#[u0,u1,u2,u,u4,u,u,(.pointer (some ⟨gc,0,none⟩)),u,u,u,u,u12,(va),u14,(vb),u16,(vc),u,u,u,u,u,u,u,u,u,u,u,u,u,u,u,u,u,u,u,u,u,u,u,u,u,u,u,u,u,u,u,u,u,u,u,u,u,u,u,u,u,u,u,u,u,u,u,u,u,u,u,u,u,u,u,u,u,u,u,u,u,u,u,u,u,u,u,u,u,u,u,u,u,u,u,u,u,u,u,u,u],defers:=[] } y0:=by
 unfold raO
 refine bar_list (rs:=[6,7]) J3 J65 ?_
 refine Bars.cons rfl (fun KK hKK=>?_) ?_
 · go_simp
   refine hKK.out _ _ (fun _=>mkS.out _ (X.out.alloc _)) ?_
   clear hKK KK
   obtain ⟨y1,hya⟩:∃ ya,World.alloc y0 (.cells #[.int .i64 0,.int .i64 0,.string ⟨#[]⟩,.int .i64 0,.int .i64 0,.int .i64 0,.bool false,.bool false,.int .i64 0,.int .i64 0,.bool false,.bool false,.slice none 0 0] 43) = ya:=⟨_,rfl⟩
   obtain ⟨ga,hga⟩:∃ g,y0.heap.size = g:=⟨_,rfl⟩
   have E:Ext y0 y1:=J117
   have Ga:Hid (BlkX y1 ga tz (.slice none 0 0)):=J118
   have Na:Hid (W1.heap.size≤ga):=J119
   have Dac:Hid (ga≠gc):=by show _≠_;have:=Gc.out.1;rw [hga] at this;omega
   rw [hya,hga]
   replace X:Hid (Ext W1 y1):=X.out.trans E
   replace Gc:=hxcX Gc E
   clear E hya hga
   rw [show (#[true,true,true,true,true,true,false,false,true,false,false,false]:Array Bool).setIfInBounds 6 true = #[true,true,true,true,true,true,true,false,true,false,false,false] from rfl]
   exact ra_ac mkS hE hdone ga gc y1 X Ga Na Gc Nc Dac
 · refine Bars.cons rfl (fun KK hKK=>?_) ?_
   · go_simp
     refine hKK.out _ _ (fun _=>mkS.out _ (X.out.alloc _)) ?_
     clear hKK KK
     obtain ⟨y1,hya⟩:∃ ya,World.alloc y0 (.cells #[.int .i64 0,.int .i64 0,.string ⟨#[]⟩,.int .i64 0,.int .i64 0,.int .i64 0,.bool false,.bool false,.int .i64 0,.int .i64 0,.bool false,.bool false,.slice none 0 0] 43) = ya:=⟨_,rfl⟩
     obtain ⟨gb,hga⟩:∃ g,y0.heap.size = g:=⟨_,rfl⟩
     have E:Ext y0 y1:=J117
     have Gb:Hid (BlkX y1 gb tz (.slice none 0 0)):=J118
     have Nb:Hid (W1.heap.size≤gb):=J119
     have Dbc:Hid (gb≠gc):=by show _≠_;have:=Gc.out.1;rw [hga] at this;omega
     rw [hya,hga]
     replace X:Hid (Ext W1 y1):=X.out.trans E
     replace Gc:=hxcX Gc E
     clear E hya hga
     rw [show (#[true,true,true,true,true,true,false,false,true,false,false,false]:Array Bool).setIfInBounds 7 true = #[true,true,true,true,true,true,false,true,true,false,false,false] from rfl]
     exact ra_bc mkS hE hdone gb gc y1 X Gb Nb Gc Nc Dbc
   · exact Bars.nil
theorem ra_ {Ta Tb Tc:T} {pa pb pc:Option Addr} {na ca nb cb nc cc:Nat} {va vb vc:Value} {W1:World} {S:World→Prop} {Q:Exit→Act→World→Prop} {u u0 u1 u2 u4 u12 u14 u16:Value} (mkS:Hid (∀ V,Ext W1 V→S V)) (hE:Hid (raE Ta Tb Tc pa pb pc na ca nb cb nc cc va vb vc)) (hdone:raD Ta Tb Tc pa pb pc na ca nb cb nc cc va vb vc W1 Q u u0 u1 u2 u4 u12 u14 u16)  (y0:World) (X:Hid (Ext W1 y0)) :
   wpBar Tryz.prog .any raO Q (fun _=>false) S 6 #[true,true,true,true,true,true,false,false,false,false,false,false] { tmps:=#[u0,u1,u2,u,u4,u,u,u,u,u,u,u,u12,(va),u14,(vb),u16,(vc),u,u,u,u,u,u,u,u,u,u,u,u,u,u,u,u,u,u,u,u,u,u,u,u,u,u,u,u,u,u,u,u,u,u,u,u,u,u,u,u,u,u,u,u,u,u,u,u,u,u,u,u,u,u,u,u,u,u,u,u,u,u,u,u,u,u,u,u,u,u,u,u,u,u,u,u,u,u,u,u,u],defers:=[] } y0:=by
 unfold raO
 refine bar_list (rs:=[6,7,8]) J3 J65 ?_
 refine Bars.cons rfl (fun KK hKK=>?_) ?_
 · go_simp
   refine hKK.out _ _ (fun _=>mkS.out _ (X.out.alloc _)) ?_
   clear hKK KK
   obtain ⟨y1,hya⟩:∃ ya,World.alloc y0 (.cells #[.int .i64 0,.int .i64 0,.string ⟨#[]⟩,.int .i64 0,.int .i64 0,.int .i64 0,.bool false,.bool false,.int .i64 0,.int .i64 0,.bool false,.bool false,.slice none 0 0] 43) = ya:=⟨_,rfl⟩
   obtain ⟨ga,hga⟩:∃ g,y0.heap.size = g:=⟨_,rfl⟩
   have E:Ext y0 y1:=J117
   have Ga:Hid (BlkX y1 ga tz (.slice none 0 0)):=J118
   have Na:Hid (W1.heap.size≤ga):=J119
   rw [hya,hga]
   replace X:Hid (Ext W1 y1):=X.out.trans E
   clear E hya hga
   rw [show (#[true,true,true,true,true,true,false,false,false,false,false,false]:Array Bool).setIfInBounds 6 true = #[true,true,true,true,true,true,true,false,false,false,false,false] from rfl]
   exact ra_a mkS hE hdone ga y1 X Ga Na
 · refine Bars.cons rfl (fun KK hKK=>?_) ?_
   · go_simp
     refine hKK.out _ _ (fun _=>mkS.out _ (X.out.alloc _)) ?_
     clear hKK KK
     obtain ⟨y1,hya⟩:∃ ya,World.alloc y0 (.cells #[.int .i64 0,.int .i64 0,.string ⟨#[]⟩,.int .i64 0,.int .i64 0,.int .i64 0,.bool false,.bool false,.int .i64 0,.int .i64 0,.bool false,.bool false,.slice none 0 0] 43) = ya:=⟨_,rfl⟩
     obtain ⟨gb,hga⟩:∃ g,y0.heap.size = g:=⟨_,rfl⟩
     have E:Ext y0 y1:=J117
     have Gb:Hid (BlkX y1 gb tz (.slice none 0 0)):=J118
     have Nb:Hid (W1.heap.size≤gb):=J119
     rw [hya,hga]
     replace X:Hid (Ext W1 y1):=X.out.trans E
     clear E hya hga
     rw [show (#[true,true,true,true,true,true,false,false,false,false,false,false]:Array Bool).setIfInBounds 7 true = #[true,true,true,true,true,true,false,true,false,false,false,false] from rfl]
     exact ra_b mkS hE hdone gb y1 X Gb Nb
   · refine Bars.cons rfl (fun KK hKK=>?_) ?_
     · go_simp
       refine hKK.out _ _ (fun _=>mkS.out _ (X.out.alloc _)) ?_
       clear hKK KK
       obtain ⟨y1,hya⟩:∃ ya,World.alloc y0 (.cells #[.int .i64 0,.int .i64 0,.string ⟨#[]⟩,.int .i64 0,.int .i64 0,.int .i64 0,.bool false,.bool false,.int .i64 0,.int .i64 0,.bool false,.bool false,.slice none 0 0] 43) = ya:=⟨_,rfl⟩
       obtain ⟨gc,hga⟩:∃ g,y0.heap.size = g:=⟨_,rfl⟩
       have E:Ext y0 y1:=J117
       have Gc:Hid (BlkX y1 gc tz (.slice none 0 0)):=J118
       have Nc:Hid (W1.heap.size≤gc):=J119
       rw [hya,hga]
       replace X:Hid (Ext W1 y1):=X.out.trans E
       clear E hya hga
       rw [show (#[true,true,true,true,true,true,false,false,false,false,false,false]:Array Bool).setIfInBounds 8 true = #[true,true,true,true,true,true,false,false,true,false,false,false] from rfl]
       exact ra_c mkS hE hdone gc y1 X Gc Nc
     · exact Bars.nil
def rbO:Array Oper:=#[⟨some 59,.load 43 (.tmp 5),43, "law.go:123",#[],none⟩,⟨some 60,.call { callee:=.value (.func 15),args:=#[.tmp 59],argTypes:=#[43] },43, "law.go:123",#[⟨0,.data⟩],none⟩,⟨some 61,.load 43 (.tmp 6),43, "law.go:123",#[],none⟩,⟨some 62,.call { callee:=.value (.func 15),args:=#[.tmp 61],argTypes:=#[43] },43, "law.go:123",#[⟨2,.data⟩,⟨1,.chain⟩],none⟩,⟨some 63,.load 43 (.tmp 7),43, "law.go:123",#[],none⟩,⟨some 64,.call { callee:=.value (.func 15),args:=#[.tmp 63],argTypes:=#[43] },43, "law.go:123",#[⟨4,.data⟩,⟨3,.chain⟩],none⟩,⟨some 65,.buildSlice 41 3 #[(0,.tmp 60),(1,.tmp 62),(2,.tmp 64)],41, "law.go:123",#[⟨1,.data⟩,⟨3,.data⟩,⟨5,.data⟩],none⟩,⟨some 66,.build 43 #[(0,.const (.int .i64 8)),(2,.const (.string ⟨#[73,70]⟩)),(6,.tmp 65)],43, "law.go:123",#[⟨6,.data⟩],none⟩,⟨some 67,.move (.tmp 8),25, "law.go:123",#[],none⟩,⟨some 68,.call { callee:=.value (.func 14),args:=#[.tmp 66,.tmp 67],argTypes:=#[43,25] },33, "law.go:123",#[⟨7,.data⟩,⟨8,.data⟩,⟨5,.chain⟩],none⟩,⟨some 11,.alloc 33,0, "law.go:123",#[],none⟩,⟨none,.store 33 (.tmp 11) (.tmp 68),0, "law.go:123",#[⟨10,.data⟩,⟨9,.data⟩,⟨9,.chain⟩,⟨0,.phase⟩,⟨1,.phase⟩,⟨2,.phase⟩,⟨3,.phase⟩,⟨4,.phase⟩,⟨5,.phase⟩,⟨6,.phase⟩,⟨7,.phase⟩,⟨8,.phase⟩,⟨9,.phase⟩,⟨10,.phase⟩],none⟩]
structure rbH (Ta:T) (Tb:T) (Tc:T) (va:Value) (vb:Value) (vc:Value) (B:Nat) (xk:Int) (xn:Int) (xs:ByteArray) (xe:Int) (W1:World) (S:World→Prop):Prop where
 mkS:Hid (∀ V,Ext W1 V→S V)
 cA:Hid (∀ V,Ext W1 V→Calls Tryz.prog 15 #[va] V fun e w'=>∃ p1 n1 c1,e = .returned (.agg #[.int .i64 Ta.k,.int .i64 Ta.n,.string (bs Ta.s),.int .i64 Ta.e,.int .i64 Ta.r.1,.int .i64 Ta.r.2.1,.bool Ta.r.2.2.1,.bool Ta.r.2.2.2,.int .i64 Ta.q.1,.int .i64 Ta.q.2.1,.bool Ta.q.2.2.1,.bool Ta.q.2.2.2,.slice p1 n1 c1])∧IsL w' (fun _=>True) (.slice p1 n1 c1) Ta.l∧Ext V w')
 cB:Hid (∀ V,Ext W1 V→Calls Tryz.prog 15 #[vb] V fun e w'=>∃ p1 n1 c1,e = .returned (.agg #[.int .i64 Tb.k,.int .i64 Tb.n,.string (bs Tb.s),.int .i64 Tb.e,.int .i64 Tb.r.1,.int .i64 Tb.r.2.1,.bool Tb.r.2.2.1,.bool Tb.r.2.2.2,.int .i64 Tb.q.1,.int .i64 Tb.q.2.1,.bool Tb.q.2.2.1,.bool Tb.q.2.2.2,.slice p1 n1 c1])∧IsL w' (fun _=>True) (.slice p1 n1 c1) Tb.l∧Ext V w')
 cC:Hid (∀ V,Ext W1 V→Calls Tryz.prog 15 #[vc] V fun e w'=>∃ p1 n1 c1,e = .returned (.agg #[.int .i64 Tc.k,.int .i64 Tc.n,.string (bs Tc.s),.int .i64 Tc.e,.int .i64 Tc.r.1,.int .i64 Tc.r.2.1,.bool Tc.r.2.2.1,.bool Tc.r.2.2.2,.int .i64 Tc.q.1,.int .i64 Tc.q.2.1,.bool Tc.q.2.2.1,.bool Tc.q.2.2.2,.slice p1 n1 c1])∧IsL w' (fun _=>True) (.slice p1 n1 c1) Tc.l∧Ext V w')
 cE:Hid (∀ V gs,Ext W1 V→IsL V (fun _=>True) (.slice (some ⟨gs,0,none⟩) 3 3) [Ta,Tb,Tc]→Calls Tryz.prog 14 #[.agg #[.int .i64 8,.int .i64 0,.string ⟨#[73,70]⟩,.int .i64 0,.int .i64 0,.int .i64 0,.bool false,.bool false,.int .i64 0,.int .i64 0,.bool false,.bool false,.slice (some ⟨gs,0,none⟩) 3 3],.pointer (some ⟨B,0,none⟩)] V fun e w'=>e = .returned (.agg #[.int .i64 xk,.int .i64 xn,.string xs,.int .i64 xe])∧Ext V w')
def rbD (Ta:T) (Tb:T) (Tc:T) (va:Value) (vb:Value) (vc:Value) (B:Nat) (xk:Int) (xn:Int) (xs:ByteArray) (xe:Int) (W1:World) (Q:Exit→Act→World→Prop) (u u0 u1 u2 u3 u4 u5 u6 u7 u8 u9 u10 u12 u13 u14 u15 u16 u17 u18 u19 u20 u21 u22 u23 u24 u25 u26 u27 u28 u29 u30 u31 u32 u33 u34 u35 u36 u37 u38 u39 u40 u41 u42 u43 u44 u45 u46 u47 u48 u49 u50 u51 u52 u53 u54 u55 u56 u57 u58:Value):Prop:=∀ (p1:Option Addr) (n1 c1:Nat) (p2:Option Addr) (n2 c2:Nat) (p3:Option Addr) (n3 c3:Nat) (gs:Nat)   (ga:Nat) (y:World),Hid (Ext W1 y)→Hid (Blk y ga (.int .i64 xk) (.int .i64 xn) (.string xs) (.int .i64 xe))→Hid (W1.heap.size≤ga)→Q .normal { tmps:=#[u0,u1,u2,u3,u4,u5,u6,u7,u8,u9,u10,(.pointer (some ⟨ga,0,none⟩)),u12,u13,u14,u15,u16,u17,u18,u19,u20,u21,u22,u23,u24,u25,u26,u27,u28,u29,u30,u31,u32,u33,u34,u35,u36,u37,u38,u39,u40,u41,u42,u43,u44,u45,u46,u47,u48,u49,u50,u51,u52,u53,u54,u55,u56,u57,u58,(va),(.agg #[.int .i64 Ta.k,.int .i64 Ta.n,.string (bs Ta.s),.int .i64 Ta.e,.int .i64 Ta.r.1,.int .i64 Ta.r.2.1,.bool Ta.r.2.2.1,.bool Ta.r.2.2.2,.int .i64 Ta.q.1,.int .i64 Ta.q.2.1,.bool Ta.q.2.2.1,.bool Ta.q.2.2.2,.slice p1 n1 c1]),(vb),(.agg #[.int .i64 Tb.k,.int .i64 Tb.n,.string (bs Tb.s),.int .i64 Tb.e,.int .i64 Tb.r.1,.int .i64 Tb.r.2.1,.bool Tb.r.2.2.1,.bool Tb.r.2.2.2,.int .i64 Tb.q.1,.int .i64 Tb.q.2.1,.bool Tb.q.2.2.1,.bool Tb.q.2.2.2,.slice p2 n2 c2]),(vc),(.agg #[.int .i64 Tc.k,.int .i64 Tc.n,.string (bs Tc.s),.int .i64 Tc.e,.int .i64 Tc.r.1,.int .i64 Tc.r.2.1,.bool Tc.r.2.2.1,.bool Tc.r.2.2.2,.int .i64 Tc.q.1,.int .i64 Tc.q.2.1,.bool Tc.q.2.2.1,.bool Tc.q.2.2.2,.slice p3 n3 c3]),(.slice (some ⟨gs,0,none⟩) 3 3),(.agg #[.int .i64 8,.int .i64 0,.string ⟨#[73,70]⟩,.int .i64 0,.int .i64 0,.int .i64 0,.bool false,.bool false,.int .i64 0,.int .i64 0,.bool false,.bool false,.slice (some ⟨gs,0,none⟩) 3 3]),(.pointer (some ⟨B,0,none⟩)),(.agg #[.int .i64 xk,.int .i64 xn,.string xs,.int .i64 xe]),u,u,u,u,u,u,u,u,u,u,u,u,u,u,u,u,u,u,u,u,u,u,u,u,u,u,u,u,u,u],defers:=[] } y
theorem rb_6ga {Ta Tb Tc:T} {va vb vc:Value} {B:Nat} {xk xn:Int} {xs:ByteArray} {xe:Int} {W1:World} {S:World→Prop} {Q:Exit→Act→World→Prop} {u u0 u1 u2 u3 u4 u5 u6 u7 u8 u9 u10 u12 u13 u14 u15 u16 u17 u18 u19 u20 u21 u22 u23 u24 u25 u26 u27 u28 u29 u30 u31 u32 u33 u34 u35 u36 u37 u38 u39 u40 u41 u42 u43 u44 u45 u46 u47 u48 u49 u50 u51 u52 u53 u54 u55 u56 u57 u58:Value} (HH:rbH Ta Tb Tc va vb vc B xk xn xs xe W1 S) (hdone:rbD Ta Tb Tc va vb vc B xk xn xs xe W1 Q u u0 u1 u2 u3 u4 u5 u6 u7 u8 u9 u10 u12 u13 u14 u15 u16 u17 u18 u19 u20 u21 u22 u23 u24 u25 u26 u27 u28 u29 u30 u31 u32 u33 u34 u35 u36 u37 u38 u39 u40 u41 u42 u43 u44 u45 u46 u47 u48 u49 u50 u51 u52 u53 u54 u55 u56 u57 u58) (p1:Option Addr) (n1 c1:Nat) (p2:Option Addr) (n2 c2:Nat) (p3:Option Addr) (n3 c3:Nat) (gs:Nat)   (ga:Nat) (y0:World) (X:Hid (Ext W1 y0)) (_FS:Hid (IsL y0 (fun _=>True) (.slice (some ⟨gs,0,none⟩) 3 3) [Ta,Tb,Tc])) (Gga:Hid (Blk y0 ga (.int .i64 0) (.int .i64 0) (.string ⟨#[]⟩) (.int .i64 0))) (Nga:Hid (W1.heap.size≤ga)) :
   wpBar Tryz.prog .any rbO Q (fun _=>false) S 1 #[true,true,true,true,true,true,true,true,true,true,true,false] { tmps:=#[u0,u1,u2,u3,u4,u5,u6,u7,u8,u9,u10,(.pointer (some ⟨ga,0,none⟩)),u12,u13,u14,u15,u16,u17,u18,u19,u20,u21,u22,u23,u24,u25,u26,u27,u28,u29,u30,u31,u32,u33,u34,u35,u36,u37,u38,u39,u40,u41,u42,u43,u44,u45,u46,u47,u48,u49,u50,u51,u52,u53,u54,u55,u56,u57,u58,(va),(.agg #[.int .i64 Ta.k,.int .i64 Ta.n,.string (bs Ta.s),.int .i64 Ta.e,.int .i64 Ta.r.1,.int .i64 Ta.r.2.1,.bool Ta.r.2.2.1,.bool Ta.r.2.2.2,.int .i64 Ta.q.1,.int .i64 Ta.q.2.1,.bool Ta.q.2.2.1,.bool Ta.q.2.2.2,.slice p1 n1 c1]),(vb),(.agg #[.int .i64 Tb.k,.int .i64 Tb.n,.string (bs Tb.s),.int .i64 Tb.e,.int .i64 Tb.r.1,.int .i64 Tb.r.2.1,.bool Tb.r.2.2.1,.bool Tb.r.2.2.2,.int .i64 Tb.q.1,.int .i64 Tb.q.2.1,.bool Tb.q.2.2.1,.bool Tb.q.2.2.2,.slice p2 n2 c2]),(vc),(.agg #[.int .i64 Tc.k,.int .i64 Tc.n,.string (bs Tc.s),.int .i64 Tc.e,.int .i64 Tc.r.1,.int .i64 Tc.r.2.1,.bool Tc.r.2.2.1,.bool Tc.r.2.2.2,.int .i64 Tc.q.1,.int .i64 Tc.q.2.1,.bool Tc.q.2.2.1,.bool Tc.q.2.2.2,.slice p3 n3 c3]),(.slice (some ⟨gs,0,none⟩) 3 3),(.agg #[.int .i64 8,.int .i64 0,.string ⟨#[73,70]⟩,.int .i64 0,.int .i64 0,.int .i64 0,.bool false,.bool false,.int .i64 0,.int .i64 0,.bool false,.bool false,.slice (some ⟨gs,0,none⟩) 3 3]),(.pointer (some ⟨B,0,none⟩)),(.agg #[.int .i64 xk,.int .i64 xn,.string xs,.int .i64 xe]),u,u,u,u,u,u,u,u,u,u,u,u,u,u,u,u,u,u,u,u,u,u,u,u,u,u,u,u,u,u],defers:=[] } y0:=by
 unfold rbO
 obtain ⟨za,⟨a0,a1,a2,a3⟩,af0,af1,af2,af3⟩:=Gga.out
 refine bar_one (i:=11) J3 rfl (fun KK hKK=>?_)
 go_simp
 have EP:Hid (Ext W1 ((((y0.setCell ⟨ga,0,none⟩ (.int .i64 xk)).setCell ⟨ga,1,none⟩ (.int .i64 xn)).setCell ⟨ga,2,none⟩ (.string xs)).setCell ⟨ga,3,none⟩ (.int .i64 xe))):=(((X.out.setCell (p:=⟨ga,0,none⟩) Nga.out _).setCell (p:=⟨ga,1,none⟩) Nga.out _).setCell (p:=⟨ga,2,none⟩) Nga.out _).setCell (p:=⟨ga,3,none⟩) Nga.out _
 refine hKK.out _ ((((y0.setCell ⟨ga,0,none⟩ (.int .i64 xk)).setCell ⟨ga,1,none⟩ (.int .i64 xn)).setCell ⟨ga,2,none⟩ (.string xs)).setCell ⟨ga,3,none⟩ (.int .i64 xe)) (fun _=>HH.mkS.out _ EP.out) ?_
 clear hKK KK za a0 a1 a2 a3 af0 af1 af2 af3
 replace Gga:Hid (Blk ((((y0.setCell ⟨ga,0,none⟩ (.int .i64 xk)).setCell ⟨ga,1,none⟩ (.int .i64 xn)).setCell ⟨ga,2,none⟩ (.string xs)).setCell ⟨ga,3,none⟩ (.int .i64 xe)) ga (.int .i64 xk) (.int .i64 xn) (.string xs) (.int .i64 xe)):=Gga.out.set _ _ _ _
 replace X:=EP
 clear EP
 generalize (((y0.setCell ⟨ga,0,none⟩ (.int .i64 xk)).setCell ⟨ga,1,none⟩ (.int .i64 xn)).setCell ⟨ga,2,none⟩ (.string xs)).setCell ⟨ga,3,none⟩ (.int .i64 xe) = w2 at *
 rw [show (#[true,true,true,true,true,true,true,true,true,true,true,false]:Array Bool).setIfInBounds 11 true = #[true,true,true,true,true,true,true,true,true,true,true,true] from rfl]
 refine bar_done J3 ?_ _
 exact hdone p1 n1 c1 p2 n2 c2 p3 n3 c3 gs   ga w2 X Gga Nga
theorem rb_6 {Ta Tb Tc:T} {va vb vc:Value} {B:Nat} {xk xn:Int} {xs:ByteArray} {xe:Int} {W1:World} {S:World→Prop} {Q:Exit→Act→World→Prop} {u u0 u1 u2 u3 u4 u5 u6 u7 u8 u9 u10 u12 u13 u14 u15 u16 u17 u18 u19 u20 u21 u22 u23 u24 u25 u26 u27 u28 u29 u30 u31 u32 u33 u34 u35 u36 u37 u38 u39 u40 u41 u42 u43 u44 u45 u46 u47 u48 u49 u50 u51 u52 u53 u54 u55 u56 u57 u58:Value} (HH:rbH Ta Tb Tc va vb vc B xk xn xs xe W1 S) (hdone:rbD Ta Tb Tc va vb vc B xk xn xs xe W1 Q u u0 u1 u2 u3 u4 u5 u6 u7 u8 u9 u10 u12 u13 u14 u15 u16 u17 u18 u19 u20 u21 u22 u23 u24 u25 u26 u27 u28 u29 u30 u31 u32 u33 u34 u35 u36 u37 u38 u39 u40 u41 u42 u43 u44 u45 u46 u47 u48 u49 u50 u51 u52 u53 u54 u55 u56 u57 u58) (p1:Option Addr) (n1 c1:Nat) (p2:Option Addr) (n2 c2:Nat) (p3:Option Addr) (n3 c3:Nat) (gs:Nat)    (y0:World) (X:Hid (Ext W1 y0)) (FS:Hid (IsL y0 (fun _=>True) (.slice (some ⟨gs,0,none⟩) 3 3) [Ta,Tb,Tc])) :
   wpBar Tryz.prog .any rbO Q (fun _=>false) S 2 #[true,true,true,true,true,true,true,true,true,true,false,false] { tmps:=#[u0,u1,u2,u3,u4,u5,u6,u7,u8,u9,u10,u,u12,u13,u14,u15,u16,u17,u18,u19,u20,u21,u22,u23,u24,u25,u26,u27,u28,u29,u30,u31,u32,u33,u34,u35,u36,u37,u38,u39,u40,u41,u42,u43,u44,u45,u46,u47,u48,u49,u50,u51,u52,u53,u54,u55,u56,u57,u58,(va),(.agg #[.int .i64 Ta.k,.int .i64 Ta.n,.string (bs Ta.s),.int .i64 Ta.e,.int .i64 Ta.r.1,.int .i64 Ta.r.2.1,.bool Ta.r.2.2.1,.bool Ta.r.2.2.2,.int .i64 Ta.q.1,.int .i64 Ta.q.2.1,.bool Ta.q.2.2.1,.bool Ta.q.2.2.2,.slice p1 n1 c1]),(vb),(.agg #[.int .i64 Tb.k,.int .i64 Tb.n,.string (bs Tb.s),.int .i64 Tb.e,.int .i64 Tb.r.1,.int .i64 Tb.r.2.1,.bool Tb.r.2.2.1,.bool Tb.r.2.2.2,.int .i64 Tb.q.1,.int .i64 Tb.q.2.1,.bool Tb.q.2.2.1,.bool Tb.q.2.2.2,.slice p2 n2 c2]),(vc),(.agg #[.int .i64 Tc.k,.int .i64 Tc.n,.string (bs Tc.s),.int .i64 Tc.e,.int .i64 Tc.r.1,.int .i64 Tc.r.2.1,.bool Tc.r.2.2.1,.bool Tc.r.2.2.2,.int .i64 Tc.q.1,.int .i64 Tc.q.2.1,.bool Tc.q.2.2.1,.bool Tc.q.2.2.2,.slice p3 n3 c3]),(.slice (some ⟨gs,0,none⟩) 3 3),(.agg #[.int .i64 8,.int .i64 0,.string ⟨#[73,70]⟩,.int .i64 0,.int .i64 0,.int .i64 0,.bool false,.bool false,.int .i64 0,.int .i64 0,.bool false,.bool false,.slice (some ⟨gs,0,none⟩) 3 3]),(.pointer (some ⟨B,0,none⟩)),(.agg #[.int .i64 xk,.int .i64 xn,.string xs,.int .i64 xe]),u,u,u,u,u,u,u,u,u,u,u,u,u,u,u,u,u,u,u,u,u,u,u,u,u,u,u,u,u,u],defers:=[] } y0:=by
 unfold rbO
 refine bar_one (i:=10) J3 rfl (fun KK hKK=>?_)
 go_simp
 refine hKK.out _ _ (fun _=>HH.mkS.out _ (X.out.alloc _)) ?_
 clear hKK KK
 obtain ⟨y1,hya⟩:∃ ya,World.alloc y0 (.cells #[.int .i64 0,.int .i64 0,.string ⟨#[]⟩,.int .i64 0] 33) = ya:=⟨_,rfl⟩
 obtain ⟨ga,hga⟩:∃ g,y0.heap.size = g:=⟨_,rfl⟩
 have E:Ext y0 y1:=J117
 have Gga:Hid (Blk y1 ga (.int .i64 0) (.int .i64 0) (.string ⟨#[]⟩) (.int .i64 0)):=J120
 have Nga:Hid (W1.heap.size≤ga):=J119
 rw [hya,hga]
 replace X:Hid (Ext W1 y1):=X.out.trans E
 replace FS:=hxcL FS E
 clear E hya hga
 rw [show (#[true,true,true,true,true,true,true,true,true,true,false,false]:Array Bool).setIfInBounds 10 true = #[true,true,true,true,true,true,true,true,true,true,true,false] from rfl]
 exact rb_6ga HH hdone p1 n1 c1 p2 n2 c2 p3 n3 c3 gs   ga y1 X FS Gga Nga
theorem rb_5ga {Ta Tb Tc:T} {va vb vc:Value} {B:Nat} {xk xn:Int} {xs:ByteArray} {xe:Int} {W1:World} {S:World→Prop} {Q:Exit→Act→World→Prop} {u u0 u1 u2 u3 u4 u5 u6 u7 u8 u9 u10 u12 u13 u14 u15 u16 u17 u18 u19 u20 u21 u22 u23 u24 u25 u26 u27 u28 u29 u30 u31 u32 u33 u34 u35 u36 u37 u38 u39 u40 u41 u42 u43 u44 u45 u46 u47 u48 u49 u50 u51 u52 u53 u54 u55 u56 u57 u58:Value} (HH:rbH Ta Tb Tc va vb vc B xk xn xs xe W1 S) (hdone:rbD Ta Tb Tc va vb vc B xk xn xs xe W1 Q u u0 u1 u2 u3 u4 u5 u6 u7 u8 u9 u10 u12 u13 u14 u15 u16 u17 u18 u19 u20 u21 u22 u23 u24 u25 u26 u27 u28 u29 u30 u31 u32 u33 u34 u35 u36 u37 u38 u39 u40 u41 u42 u43 u44 u45 u46 u47 u48 u49 u50 u51 u52 u53 u54 u55 u56 u57 u58) (p1:Option Addr) (n1 c1:Nat) (p2:Option Addr) (n2 c2:Nat) (p3:Option Addr) (n3 c3:Nat) (gs:Nat)  (ga:Nat) (y0:World) (X:Hid (Ext W1 y0)) (FS:Hid (IsL y0 (fun _=>True) (.slice (some ⟨gs,0,none⟩) 3 3) [Ta,Tb,Tc])) (Gga:Hid (Blk y0 ga (.int .i64 0) (.int .i64 0) (.string ⟨#[]⟩) (.int .i64 0))) (Nga:Hid (W1.heap.size≤ga)) :
   wpBar Tryz.prog .any rbO Q (fun _=>false) S 2 #[true,true,true,true,true,true,true,true,true,false,true,false] { tmps:=#[u0,u1,u2,u3,u4,u5,u6,u7,u8,u9,u10,(.pointer (some ⟨ga,0,none⟩)),u12,u13,u14,u15,u16,u17,u18,u19,u20,u21,u22,u23,u24,u25,u26,u27,u28,u29,u30,u31,u32,u33,u34,u35,u36,u37,u38,u39,u40,u41,u42,u43,u44,u45,u46,u47,u48,u49,u50,u51,u52,u53,u54,u55,u56,u57,u58,(va),(.agg #[.int .i64 Ta.k,.int .i64 Ta.n,.string (bs Ta.s),.int .i64 Ta.e,.int .i64 Ta.r.1,.int .i64 Ta.r.2.1,.bool Ta.r.2.2.1,.bool Ta.r.2.2.2,.int .i64 Ta.q.1,.int .i64 Ta.q.2.1,.bool Ta.q.2.2.1,.bool Ta.q.2.2.2,.slice p1 n1 c1]),(vb),(.agg #[.int .i64 Tb.k,.int .i64 Tb.n,.string (bs Tb.s),.int .i64 Tb.e,.int .i64 Tb.r.1,.int .i64 Tb.r.2.1,.bool Tb.r.2.2.1,.bool Tb.r.2.2.2,.int .i64 Tb.q.1,.int .i64 Tb.q.2.1,.bool Tb.q.2.2.1,.bool Tb.q.2.2.2,.slice p2 n2 c2]),(vc),(.agg #[.int .i64 Tc.k,.int .i64 Tc.n,.string (bs Tc.s),.int .i64 Tc.e,.int .i64 Tc.r.1,.int .i64 Tc.r.2.1,.bool Tc.r.2.2.1,.bool Tc.r.2.2.2,.int .i64 Tc.q.1,.int .i64 Tc.q.2.1,.bool Tc.q.2.2.1,.bool Tc.q.2.2.2,.slice p3 n3 c3]),(.slice (some ⟨gs,0,none⟩) 3 3),(.agg #[.int .i64 8,.int .i64 0,.string ⟨#[73,70]⟩,.int .i64 0,.int .i64 0,.int .i64 0,.bool false,.bool false,.int .i64 0,.int .i64 0,.bool false,.bool false,.slice (some ⟨gs,0,none⟩) 3 3]),(.pointer (some ⟨B,0,none⟩)),u,u,u,u,u,u,u,u,u,u,u,u,u,u,u,u,u,u,u,u,u,u,u,u,u,u,u,u,u,u,u],defers:=[] } y0:=by
 unfold rbO
 refine bar_one (i:=9) J3 rfl (fun KK hKK=>?_)
 go_simp
 go_wp2_with (go_at_call 14;refine Calls.mono (HH.cE.out _ _ X.out FS.out) ?_;rintro e y1 ⟨rfl,E⟩)
 replace X:Hid (Ext W1 y1):=X.out.trans E
 refine hKK.out _ _ (fun _=>HH.mkS.out _ X.out) ?_
 clear hKK KK
 replace FS:=hxcL FS E
 replace Gga:=hxc4 Gga E
 clear E
 rw [show (#[true,true,true,true,true,true,true,true,true,false,true,false]:Array Bool).setIfInBounds 9 true = #[true,true,true,true,true,true,true,true,true,true,true,false] from rfl]
 exact rb_6ga HH hdone p1 n1 c1 p2 n2 c2 p3 n3 c3 gs   ga y1 X FS Gga Nga
theorem rb_5 {Ta Tb Tc:T} {va vb vc:Value} {B:Nat} {xk xn:Int} {xs:ByteArray} {xe:Int} {W1:World} {S:World→Prop} {Q:Exit→Act→World→Prop} {u u0 u1 u2 u3 u4 u5 u6 u7 u8 u9 u10 u12 u13 u14 u15 u16 u17 u18 u19 u20 u21 u22 u23 u24 u25 u26 u27 u28 u29 u30 u31 u32 u33 u34 u35 u36 u37 u38 u39 u40 u41 u42 u43 u44 u45 u46 u47 u48 u49 u50 u51 u52 u53 u54 u55 u56 u57 u58:Value} (HH:rbH Ta Tb Tc va vb vc B xk xn xs xe W1 S) (hdone:rbD Ta Tb Tc va vb vc B xk xn xs xe W1 Q u u0 u1 u2 u3 u4 u5 u6 u7 u8 u9 u10 u12 u13 u14 u15 u16 u17 u18 u19 u20 u21 u22 u23 u24 u25 u26 u27 u28 u29 u30 u31 u32 u33 u34 u35 u36 u37 u38 u39 u40 u41 u42 u43 u44 u45 u46 u47 u48 u49 u50 u51 u52 u53 u54 u55 u56 u57 u58) (p1:Option Addr) (n1 c1:Nat) (p2:Option Addr) (n2 c2:Nat) (p3:Option Addr) (n3 c3:Nat) (gs:Nat)   (y0:World) (X:Hid (Ext W1 y0)) (FS:Hid (IsL y0 (fun _=>True) (.slice (some ⟨gs,0,none⟩) 3 3) [Ta,Tb,Tc])) :
   wpBar Tryz.prog .any rbO Q (fun _=>false) S 3 #[true,true,true,true,true,true,true,true,true,false,false,false] { tmps:=#[u0,u1,u2,u3,u4,u5,u6,u7,u8,u9,u10,u,u12,u13,u14,u15,u16,u17,u18,u19,u20,u21,u22,u23,u24,u25,u26,u27,u28,u29,u30,u31,u32,u33,u34,u35,u36,u37,u38,u39,u40,u41,u42,u43,u44,u45,u46,u47,u48,u49,u50,u51,u52,u53,u54,u55,u56,u57,u58,(va),(.agg #[.int .i64 Ta.k,.int .i64 Ta.n,.string (bs Ta.s),.int .i64 Ta.e,.int .i64 Ta.r.1,.int .i64 Ta.r.2.1,.bool Ta.r.2.2.1,.bool Ta.r.2.2.2,.int .i64 Ta.q.1,.int .i64 Ta.q.2.1,.bool Ta.q.2.2.1,.bool Ta.q.2.2.2,.slice p1 n1 c1]),(vb),(.agg #[.int .i64 Tb.k,.int .i64 Tb.n,.string (bs Tb.s),.int .i64 Tb.e,.int .i64 Tb.r.1,.int .i64 Tb.r.2.1,.bool Tb.r.2.2.1,.bool Tb.r.2.2.2,.int .i64 Tb.q.1,.int .i64 Tb.q.2.1,.bool Tb.q.2.2.1,.bool Tb.q.2.2.2,.slice p2 n2 c2]),(vc),(.agg #[.int .i64 Tc.k,.int .i64 Tc.n,.string (bs Tc.s),.int .i64 Tc.e,.int .i64 Tc.r.1,.int .i64 Tc.r.2.1,.bool Tc.r.2.2.1,.bool Tc.r.2.2.2,.int .i64 Tc.q.1,.int .i64 Tc.q.2.1,.bool Tc.q.2.2.1,.bool Tc.q.2.2.2,.slice p3 n3 c3]),(.slice (some ⟨gs,0,none⟩) 3 3),(.agg #[.int .i64 8,.int .i64 0,.string ⟨#[73,70]⟩,.int .i64 0,.int .i64 0,.int .i64 0,.bool false,.bool false,.int .i64 0,.int .i64 0,.bool false,.bool false,.slice (some ⟨gs,0,none⟩) 3 3]),(.pointer (some ⟨B,0,none⟩)),u,u,u,u,u,u,u,u,u,u,u,u,u,u,u,u,u,u,u,u,u,u,u,u,u,u,u,u,u,u,u],defers:=[] } y0:=by
 unfold rbO
 refine bar_list (rs:=[9,10]) J3 J65 ?_
 refine Bars.cons rfl (fun KK hKK=>?_) ?_
 · go_simp
   go_wp2_with (go_at_call 14;refine Calls.mono (HH.cE.out _ _ X.out FS.out) ?_;rintro e y1 ⟨rfl,E⟩)
   replace X:Hid (Ext W1 y1):=X.out.trans E
   refine hKK.out _ _ (fun _=>HH.mkS.out _ X.out) ?_
   clear hKK KK
   replace FS:=hxcL FS E
   clear E
   rw [show (#[true,true,true,true,true,true,true,true,true,false,false,false]:Array Bool).setIfInBounds 9 true = #[true,true,true,true,true,true,true,true,true,true,false,false] from rfl]
   exact rb_6 HH hdone p1 n1 c1 p2 n2 c2 p3 n3 c3 gs    y1 X FS
 · refine Bars.cons rfl (fun KK hKK=>?_) ?_
   · go_simp
     refine hKK.out _ _ (fun _=>HH.mkS.out _ (X.out.alloc _)) ?_
     clear hKK KK
     obtain ⟨y1,hya⟩:∃ ya,World.alloc y0 (.cells #[.int .i64 0,.int .i64 0,.string ⟨#[]⟩,.int .i64 0] 33) = ya:=⟨_,rfl⟩
     obtain ⟨ga,hga⟩:∃ g,y0.heap.size = g:=⟨_,rfl⟩
     have E:Ext y0 y1:=J117
     have Gga:Hid (Blk y1 ga (.int .i64 0) (.int .i64 0) (.string ⟨#[]⟩) (.int .i64 0)):=J120
     have Nga:Hid (W1.heap.size≤ga):=J119
     rw [hya,hga]
     replace X:Hid (Ext W1 y1):=X.out.trans E
     replace FS:=hxcL FS E
     clear E hya hga
     rw [show (#[true,true,true,true,true,true,true,true,true,false,false,false]:Array Bool).setIfInBounds 10 true = #[true,true,true,true,true,true,true,true,true,false,true,false] from rfl]
     exact rb_5ga HH hdone p1 n1 c1 p2 n2 c2 p3 n3 c3 gs  ga y1 X FS Gga Nga
   · exact Bars.nil
theorem rb_4ga {Ta Tb Tc:T} {va vb vc:Value} {B:Nat} {xk xn:Int} {xs:ByteArray} {xe:Int} {W1:World} {S:World→Prop} {Q:Exit→Act→World→Prop} {u u0 u1 u2 u3 u4 u5 u6 u7 u8 u9 u10 u12 u13 u14 u15 u16 u17 u18 u19 u20 u21 u22 u23 u24 u25 u26 u27 u28 u29 u30 u31 u32 u33 u34 u35 u36 u37 u38 u39 u40 u41 u42 u43 u44 u45 u46 u47 u48 u49 u50 u51 u52 u53 u54 u55 u56 u57 u58:Value} (HH:rbH Ta Tb Tc va vb vc B xk xn xs xe W1 S) (hdone:rbD Ta Tb Tc va vb vc B xk xn xs xe W1 Q u u0 u1 u2 u3 u4 u5 u6 u7 u8 u9 u10 u12 u13 u14 u15 u16 u17 u18 u19 u20 u21 u22 u23 u24 u25 u26 u27 u28 u29 u30 u31 u32 u33 u34 u35 u36 u37 u38 u39 u40 u41 u42 u43 u44 u45 u46 u47 u48 u49 u50 u51 u52 u53 u54 u55 u56 u57 u58) (p1:Option Addr) (n1 c1:Nat) (p2:Option Addr) (n2 c2:Nat) (p3:Option Addr) (n3 c3:Nat) (gs:Nat) (ga:Nat) (y0:World) (X:Hid (Ext W1 y0)) (FS:Hid (IsL y0 (fun _=>True) (.slice (some ⟨gs,0,none⟩) 3 3) [Ta,Tb,Tc])) (Gga:Hid (Blk y0 ga (.int .i64 0) (.int .i64 0) (.string ⟨#[]⟩) (.int .i64 0))) (Nga:Hid (W1.heap.size≤ga)) :
   wpBar Tryz.prog .any rbO Q (fun _=>false) S 3 #[true,true,true,true,true,true,true,false,true,false,true,false] { tmps:=#[u0,u1,u2,u3,u4,u5,u6,u7,u8,u9,u10,(.pointer (some ⟨ga,0,none⟩)),u12,u13,u14,u15,u16,u17,u18,u19,u20,u21,u22,u23,u24,u25,u26,u27,u28,u29,u30,u31,u32,u33,u34,u35,u36,u37,u38,u39,u40,u41,u42,u43,u44,u45,u46,u47,u48,u49,u50,u51,u52,u53,u54,u55,u56,u57,u58,(va),(.agg #[.int .i64 Ta.k,.int .i64 Ta.n,.string (bs Ta.s),.int .i64 Ta.e,.int .i64 Ta.r.1,.int .i64 Ta.r.2.1,.bool Ta.r.2.2.1,.bool Ta.r.2.2.2,.int .i64 Ta.q.1,.int .i64 Ta.q.2.1,.bool Ta.q.2.2.1,.bool Ta.q.2.2.2,.slice p1 n1 c1]),(vb),(.agg #[.int .i64 Tb.k,.int .i64 Tb.n,.string (bs Tb.s),.int .i64 Tb.e,.int .i64 Tb.r.1,.int .i64 Tb.r.2.1,.bool Tb.r.2.2.1,.bool Tb.r.2.2.2,.int .i64 Tb.q.1,.int .i64 Tb.q.2.1,.bool Tb.q.2.2.1,.bool Tb.q.2.2.2,.slice p2 n2 c2]),(vc),(.agg #[.int .i64 Tc.k,.int .i64 Tc.n,.string (bs Tc.s),.int .i64 Tc.e,.int .i64 Tc.r.1,.int .i64 Tc.r.2.1,.bool Tc.r.2.2.1,.bool Tc.r.2.2.2,.int .i64 Tc.q.1,.int .i64 Tc.q.2.1,.bool Tc.q.2.2.1,.bool Tc.q.2.2.2,.slice p3 n3 c3]),(.slice (some ⟨gs,0,none⟩) 3 3),u,(.pointer (some ⟨B,0,none⟩)),u,u,u,u,u,u,u,u,u,u,u,u,u,u,u,u,u,u,u,u,u,u,u,u,u,u,u,u,u,u,u],defers:=[] } y0:=by
 unfold rbO
 refine bar_one (i:=7) J3 rfl (fun KK hKK=>?_)
 go_simp
 refine hKK.out _ _ (fun _=>HH.mkS.out _ X.out) ?_
 clear hKK KK
 rw [show (#[true,true,true,true,true,true,true,false,true,false,true,false]:Array Bool).setIfInBounds 7 true = #[true,true,true,true,true,true,true,true,true,false,true,false] from rfl]
 exact rb_5ga HH hdone p1 n1 c1 p2 n2 c2 p3 n3 c3 gs  ga y0 X FS Gga Nga
theorem rb_4 {Ta Tb Tc:T} {va vb vc:Value} {B:Nat} {xk xn:Int} {xs:ByteArray} {xe:Int} {W1:World} {S:World→Prop} {Q:Exit→Act→World→Prop} {u u0 u1 u2 u3 u4 u5 u6 u7 u8 u9 u10 u12 u13 u14 u15 u16 u17 u18 u19 u20 u21 u22 u23 u24 u25 u26 u27 u28 u29 u30 u31 u32 u33 u34 u35 u36 u37 u38 u39 u40 u41 u42 u43 u44 u45 u46 u47 u48 u49 u50 u51 u52 u53 u54 u55 u56 u57 u58:Value} (HH:rbH Ta Tb Tc va vb vc B xk xn xs xe W1 S) (hdone:rbD Ta Tb Tc va vb vc B xk xn xs xe W1 Q u u0 u1 u2 u3 u4 u5 u6 u7 u8 u9 u10 u12 u13 u14 u15 u16 u17 u18 u19 u20 u21 u22 u23 u24 u25 u26 u27 u28 u29 u30 u31 u32 u33 u34 u35 u36 u37 u38 u39 u40 u41 u42 u43 u44 u45 u46 u47 u48 u49 u50 u51 u52 u53 u54 u55 u56 u57 u58) (p1:Option Addr) (n1 c1:Nat) (p2:Option Addr) (n2 c2:Nat) (p3:Option Addr) (n3 c3:Nat) (gs:Nat)  (y0:World) (X:Hid (Ext W1 y0)) (FS:Hid (IsL y0 (fun _=>True) (.slice (some ⟨gs,0,none⟩) 3 3) [Ta,Tb,Tc])) :
   wpBar Tryz.prog .any rbO Q (fun _=>false) S 4 #[true,true,true,true,true,true,true,false,true,false,false,false] { tmps:=#[u0,u1,u2,u3,u4,u5,u6,u7,u8,u9,u10,u,u12,u13,u14,u15,u16,u17,u18,u19,u20,u21,u22,u23,u24,u25,u26,u27,u28,u29,u30,u31,u32,u33,u34,u35,u36,u37,u38,u39,u40,u41,u42,u43,u44,u45,u46,u47,u48,u49,u50,u51,u52,u53,u54,u55,u56,u57,u58,(va),(.agg #[.int .i64 Ta.k,.int .i64 Ta.n,.string (bs Ta.s),.int .i64 Ta.e,.int .i64 Ta.r.1,.int .i64 Ta.r.2.1,.bool Ta.r.2.2.1,.bool Ta.r.2.2.2,.int .i64 Ta.q.1,.int .i64 Ta.q.2.1,.bool Ta.q.2.2.1,.bool Ta.q.2.2.2,.slice p1 n1 c1]),(vb),(.agg #[.int .i64 Tb.k,.int .i64 Tb.n,.string (bs Tb.s),.int .i64 Tb.e,.int .i64 Tb.r.1,.int .i64 Tb.r.2.1,.bool Tb.r.2.2.1,.bool Tb.r.2.2.2,.int .i64 Tb.q.1,.int .i64 Tb.q.2.1,.bool Tb.q.2.2.1,.bool Tb.q.2.2.2,.slice p2 n2 c2]),(vc),(.agg #[.int .i64 Tc.k,.int .i64 Tc.n,.string (bs Tc.s),.int .i64 Tc.e,.int .i64 Tc.r.1,.int .i64 Tc.r.2.1,.bool Tc.r.2.2.1,.bool Tc.r.2.2.2,.int .i64 Tc.q.1,.int .i64 Tc.q.2.1,.bool Tc.q.2.2.1,.bool Tc.q.2.2.2,.slice p3 n3 c3]),(.slice (some ⟨gs,0,none⟩) 3 3),u,(.pointer (some ⟨B,0,none⟩)),u,u,u,u,u,u,u,u,u,u,u,u,u,u,u,u,u,u,u,u,u,u,u,u,u,u,u,u,u,u,u],defers:=[] } y0:=by
 unfold rbO
 refine bar_list (rs:=[7,10]) J3 J65 ?_
 refine Bars.cons rfl (fun KK hKK=>?_) ?_
 · go_simp
   refine hKK.out _ _ (fun _=>HH.mkS.out _ X.out) ?_
   clear hKK KK
   rw [show (#[true,true,true,true,true,true,true,false,true,false,false,false]:Array Bool).setIfInBounds 7 true = #[true,true,true,true,true,true,true,true,true,false,false,false] from rfl]
   exact rb_5 HH hdone p1 n1 c1 p2 n2 c2 p3 n3 c3 gs   y0 X FS
 · refine Bars.cons rfl (fun KK hKK=>?_) ?_
   · go_simp
     refine hKK.out _ _ (fun _=>HH.mkS.out _ (X.out.alloc _)) ?_
     clear hKK KK
     obtain ⟨y1,hya⟩:∃ ya,World.alloc y0 (.cells #[.int .i64 0,.int .i64 0,.string ⟨#[]⟩,.int .i64 0] 33) = ya:=⟨_,rfl⟩
     obtain ⟨ga,hga⟩:∃ g,y0.heap.size = g:=⟨_,rfl⟩
     have E:Ext y0 y1:=J117
     have Gga:Hid (Blk y1 ga (.int .i64 0) (.int .i64 0) (.string ⟨#[]⟩) (.int .i64 0)):=J120
     have Nga:Hid (W1.heap.size≤ga):=J119
     rw [hya,hga]
     replace X:Hid (Ext W1 y1):=X.out.trans E
     replace FS:=hxcL FS E
     clear E hya hga
     rw [show (#[true,true,true,true,true,true,true,false,true,false,false,false]:Array Bool).setIfInBounds 10 true = #[true,true,true,true,true,true,true,false,true,false,true,false] from rfl]
     exact rb_4ga HH hdone p1 n1 c1 p2 n2 c2 p3 n3 c3 gs ga y1 X FS Gga Nga
   · exact Bars.nil
theorem rb_3ga {Ta Tb Tc:T} {va vb vc:Value} {B:Nat} {xk xn:Int} {xs:ByteArray} {xe:Int} {W1:World} {S:World→Prop} {Q:Exit→Act→World→Prop} {u u0 u1 u2 u3 u4 u5 u6 u7 u8 u9 u10 u12 u13 u14 u15 u16 u17 u18 u19 u20 u21 u22 u23 u24 u25 u26 u27 u28 u29 u30 u31 u32 u33 u34 u35 u36 u37 u38 u39 u40 u41 u42 u43 u44 u45 u46 u47 u48 u49 u50 u51 u52 u53 u54 u55 u56 u57 u58:Value} (HH:rbH Ta Tb Tc va vb vc B xk xn xs xe W1 S) (hdone:rbD Ta Tb Tc va vb vc B xk xn xs xe W1 Q u u0 u1 u2 u3 u4 u5 u6 u7 u8 u9 u10 u12 u13 u14 u15 u16 u17 u18 u19 u20 u21 u22 u23 u24 u25 u26 u27 u28 u29 u30 u31 u32 u33 u34 u35 u36 u37 u38 u39 u40 u41 u42 u43 u44 u45 u46 u47 u48 u49 u50 u51 u52 u53 u54 u55 u56 u57 u58) (p1:Option Addr) (n1 c1:Nat) (p2:Option Addr) (n2 c2:Nat) (p3:Option Addr) (n3 c3:Nat) (ga:Nat) (y0:World) (X:Hid (Ext W1 y0)) (F1:Hid (IsL y0 (fun _=>True) (.slice p1 n1 c1) Ta.l)) (F2:Hid (IsL y0 (fun _=>True) (.slice p2 n2 c2) Tb.l)) (F3:Hid (IsL y0 (fun _=>True) (.slice p3 n3 c3) Tc.l)) (Gga:Hid (Blk y0 ga (.int .i64 0) (.int .i64 0) (.string ⟨#[]⟩) (.int .i64 0))) (Nga:Hid (W1.heap.size≤ga)) :
   wpBar Tryz.prog .any rbO Q (fun _=>false) S 4 #[true,true,true,true,true,true,false,false,true,false,true,false] { tmps:=#[u0,u1,u2,u3,u4,u5,u6,u7,u8,u9,u10,(.pointer (some ⟨ga,0,none⟩)),u12,u13,u14,u15,u16,u17,u18,u19,u20,u21,u22,u23,u24,u25,u26,u27,u28,u29,u30,u31,u32,u33,u34,u35,u36,u37,u38,u39,u40,u41,u42,u43,u44,u45,u46,u47,u48,u49,u50,u51,u52,u53,u54,u55,u56,u57,u58,(va),(.agg #[.int .i64 Ta.k,.int .i64 Ta.n,.string (bs Ta.s),.int .i64 Ta.e,.int .i64 Ta.r.1,.int .i64 Ta.r.2.1,.bool Ta.r.2.2.1,.bool Ta.r.2.2.2,.int .i64 Ta.q.1,.int .i64 Ta.q.2.1,.bool Ta.q.2.2.1,.bool Ta.q.2.2.2,.slice p1 n1 c1]),(vb),(.agg #[.int .i64 Tb.k,.int .i64 Tb.n,.string (bs Tb.s),.int .i64 Tb.e,.int .i64 Tb.r.1,.int .i64 Tb.r.2.1,.bool Tb.r.2.2.1,.bool Tb.r.2.2.2,.int .i64 Tb.q.1,.int .i64 Tb.q.2.1,.bool Tb.q.2.2.1,.bool Tb.q.2.2.2,.slice p2 n2 c2]),(vc),(.agg #[.int .i64 Tc.k,.int .i64 Tc.n,.string (bs Tc.s),.int .i64 Tc.e,.int .i64 Tc.r.1,.int .i64 Tc.r.2.1,.bool Tc.r.2.2.1,.bool Tc.r.2.2.2,.int .i64 Tc.q.1,.int .i64 Tc.q.2.1,.bool Tc.q.2.2.1,.bool Tc.q.2.2.2,.slice p3 n3 c3]),u,u,(.pointer (some ⟨B,0,none⟩)),u,u,u,u,u,u,u,u,u,u,u,u,u,u,u,u,u,u,u,u,u,u,u,u,u,u,u,u,u,u,u],defers:=[] } y0:=by
 unfold rbO
 refine bar_one (i:=6) J3 rfl (fun KK hKK=>?_)
 go_simp
 refine hKK.out _ _ (fun _=>HH.mkS.out _ (X.out.alloc _)) ?_
 clear hKK KK
 obtain ⟨y1,hya⟩:∃ ya,World.alloc y0 (.cells #[.int .i64 Ta.k,.int .i64 Ta.n,.string (bs Ta.s),.int .i64 Ta.e,.int .i64 Ta.r.1,.int .i64 Ta.r.2.1,.bool Ta.r.2.2.1,.bool Ta.r.2.2.2,.int .i64 Ta.q.1,.int .i64 Ta.q.2.1,.bool Ta.q.2.2.1,.bool Ta.q.2.2.2,.slice p1 n1 c1,.int .i64 Tb.k,.int .i64 Tb.n,.string (bs Tb.s),.int .i64 Tb.e,.int .i64 Tb.r.1,.int .i64 Tb.r.2.1,.bool Tb.r.2.2.1,.bool Tb.r.2.2.2,.int .i64 Tb.q.1,.int .i64 Tb.q.2.1,.bool Tb.q.2.2.1,.bool Tb.q.2.2.2,.slice p2 n2 c2,.int .i64 Tc.k,.int .i64 Tc.n,.string (bs Tc.s),.int .i64 Tc.e,.int .i64 Tc.r.1,.int .i64 Tc.r.2.1,.bool Tc.r.2.2.1,.bool Tc.r.2.2.2,.int .i64 Tc.q.1,.int .i64 Tc.q.2.1,.bool Tc.q.2.2.1,.bool Tc.q.2.2.2,.slice p3 n3 c3] 43) = ya:=⟨_,rfl⟩
 obtain ⟨gs,hga⟩:∃ g,y0.heap.size = g:=⟨_,rfl⟩
 have E:Ext y0 y1:=J117
 have FS:Hid (IsL y1 (fun _=>True) (.slice (some ⟨gs,0,none⟩) 3 3) [Ta,Tb,Tc]):=IsL.three hga hya F1.out F2.out F3.out trivial
 rw [hya,hga]
 replace X:Hid (Ext W1 y1):=X.out.trans E
 replace F1:=hxcL F1 E
 replace F2:=hxcL F2 E
 replace F3:=hxcL F3 E
 replace Gga:=hxc4 Gga E
 clear E hya hga
 rw [show (#[true,true,true,true,true,true,false,false,true,false,true,false]:Array Bool).setIfInBounds 6 true = #[true,true,true,true,true,true,true,false,true,false,true,false] from rfl]
 exact rb_4ga HH hdone p1 n1 c1 p2 n2 c2 p3 n3 c3 gs ga y1 X FS Gga Nga
theorem rb_3 {Ta Tb Tc:T} {va vb vc:Value} {B:Nat} {xk xn:Int} {xs:ByteArray} {xe:Int} {W1:World} {S:World→Prop} {Q:Exit→Act→World→Prop} {u u0 u1 u2 u3 u4 u5 u6 u7 u8 u9 u10 u12 u13 u14 u15 u16 u17 u18 u19 u20 u21 u22 u23 u24 u25 u26 u27 u28 u29 u30 u31 u32 u33 u34 u35 u36 u37 u38 u39 u40 u41 u42 u43 u44 u45 u46 u47 u48 u49 u50 u51 u52 u53 u54 u55 u56 u57 u58:Value} (HH:rbH Ta Tb Tc va vb vc B xk xn xs xe W1 S) (hdone:rbD Ta Tb Tc va vb vc B xk xn xs xe W1 Q u u0 u1 u2 u3 u4 u5 u6 u7 u8 u9 u10 u12 u13 u14 u15 u16 u17 u18 u19 u20 u21 u22 u23 u24 u25 u26 u27 u28 u29 u30 u31 u32 u33 u34 u35 u36 u37 u38 u39 u40 u41 u42 u43 u44 u45 u46 u47 u48 u49 u50 u51 u52 u53 u54 u55 u56 u57 u58) (p1:Option Addr) (n1 c1:Nat) (p2:Option Addr) (n2 c2:Nat) (p3:Option Addr) (n3 c3:Nat)  (y0:World) (X:Hid (Ext W1 y0)) (F1:Hid (IsL y0 (fun _=>True) (.slice p1 n1 c1) Ta.l)) (F2:Hid (IsL y0 (fun _=>True) (.slice p2 n2 c2) Tb.l)) (F3:Hid (IsL y0 (fun _=>True) (.slice p3 n3 c3) Tc.l)) :
   wpBar Tryz.prog .any rbO Q (fun _=>false) S 5 #[true,true,true,true,true,true,false,false,true,false,false,false] { tmps:=#[u0,u1,u2,u3,u4,u5,u6,u7,u8,u9,u10,u,u12,u13,u14,u15,u16,u17,u18,u19,u20,u21,u22,u23,u24,u25,u26,u27,u28,u29,u30,u31,u32,u33,u34,u35,u36,u37,u38,u39,u40,u41,u42,u43,u44,u45,u46,u47,u48,u49,u50,u51,u52,u53,u54,u55,u56,u57,u58,(va),(.agg #[.int .i64 Ta.k,.int .i64 Ta.n,.string (bs Ta.s),.int .i64 Ta.e,.int .i64 Ta.r.1,.int .i64 Ta.r.2.1,.bool Ta.r.2.2.1,.bool Ta.r.2.2.2,.int .i64 Ta.q.1,.int .i64 Ta.q.2.1,.bool Ta.q.2.2.1,.bool Ta.q.2.2.2,.slice p1 n1 c1]),(vb),(.agg #[.int .i64 Tb.k,.int .i64 Tb.n,.string (bs Tb.s),.int .i64 Tb.e,.int .i64 Tb.r.1,.int .i64 Tb.r.2.1,.bool Tb.r.2.2.1,.bool Tb.r.2.2.2,.int .i64 Tb.q.1,.int .i64 Tb.q.2.1,.bool Tb.q.2.2.1,.bool Tb.q.2.2.2,.slice p2 n2 c2]),(vc),(.agg #[.int .i64 Tc.k,.int .i64 Tc.n,.string (bs Tc.s),.int .i64 Tc.e,.int .i64 Tc.r.1,.int .i64 Tc.r.2.1,.bool Tc.r.2.2.1,.bool Tc.r.2.2.2,.int .i64 Tc.q.1,.int .i64 Tc.q.2.1,.bool Tc.q.2.2.1,.bool Tc.q.2.2.2,.slice p3 n3 c3]),u,u,(.pointer (some ⟨B,0,none⟩)),u,u,u,u,u,u,u,u,u,u,u,u,u,u,u,u,u,u,u,u,u,u,u,u,u,u,u,u,u,u,u],defers:=[] } y0:=by
 unfold rbO
 refine bar_list (rs:=[6,10]) J3 J65 ?_
 refine Bars.cons rfl (fun KK hKK=>?_) ?_
 · go_simp
   refine hKK.out _ _ (fun _=>HH.mkS.out _ (X.out.alloc _)) ?_
   clear hKK KK
   obtain ⟨y1,hya⟩:∃ ya,World.alloc y0 (.cells #[.int .i64 Ta.k,.int .i64 Ta.n,.string (bs Ta.s),.int .i64 Ta.e,.int .i64 Ta.r.1,.int .i64 Ta.r.2.1,.bool Ta.r.2.2.1,.bool Ta.r.2.2.2,.int .i64 Ta.q.1,.int .i64 Ta.q.2.1,.bool Ta.q.2.2.1,.bool Ta.q.2.2.2,.slice p1 n1 c1,.int .i64 Tb.k,.int .i64 Tb.n,.string (bs Tb.s),.int .i64 Tb.e,.int .i64 Tb.r.1,.int .i64 Tb.r.2.1,.bool Tb.r.2.2.1,.bool Tb.r.2.2.2,.int .i64 Tb.q.1,.int .i64 Tb.q.2.1,.bool Tb.q.2.2.1,.bool Tb.q.2.2.2,.slice p2 n2 c2,.int .i64 Tc.k,.int .i64 Tc.n,.string (bs Tc.s),.int .i64 Tc.e,.int .i64 Tc.r.1,.int .i64 Tc.r.2.1,.bool Tc.r.2.2.1,.bool Tc.r.2.2.2,.int .i64 Tc.q.1,.int .i64 Tc.q.2.1,.bool Tc.q.2.2.1,.bool Tc.q.2.2.2,.slice p3 n3 c3] 43) = ya:=⟨_,rfl⟩
   obtain ⟨gs,hga⟩:∃ g,y0.heap.size = g:=⟨_,rfl⟩
   have E:Ext y0 y1:=J117
   have FS:Hid (IsL y1 (fun _=>True) (.slice (some ⟨gs,0,none⟩) 3 3) [Ta,Tb,Tc]):=IsL.three hga hya F1.out F2.out F3.out trivial
   rw [hya,hga]
   replace X:Hid (Ext W1 y1):=X.out.trans E
   replace F1:=hxcL F1 E
   replace F2:=hxcL F2 E
   replace F3:=hxcL F3 E
   clear E hya hga
   rw [show (#[true,true,true,true,true,true,false,false,true,false,false,false]:Array Bool).setIfInBounds 6 true = #[true,true,true,true,true,true,true,false,true,false,false,false] from rfl]
   exact rb_4 HH hdone p1 n1 c1 p2 n2 c2 p3 n3 c3 gs  y1 X FS
 · refine Bars.cons rfl (fun KK hKK=>?_) ?_
   · go_simp
     refine hKK.out _ _ (fun _=>HH.mkS.out _ (X.out.alloc _)) ?_
     clear hKK KK
     obtain ⟨y1,hya⟩:∃ ya,World.alloc y0 (.cells #[.int .i64 0,.int .i64 0,.string ⟨#[]⟩,.int .i64 0] 33) = ya:=⟨_,rfl⟩
     obtain ⟨ga,hga⟩:∃ g,y0.heap.size = g:=⟨_,rfl⟩
     have E:Ext y0 y1:=J117
     have Gga:Hid (Blk y1 ga (.int .i64 0) (.int .i64 0) (.string ⟨#[]⟩) (.int .i64 0)):=J120
     have Nga:Hid (W1.heap.size≤ga):=J119
     rw [hya,hga]
     replace X:Hid (Ext W1 y1):=X.out.trans E
     replace F1:=hxcL F1 E
     replace F2:=hxcL F2 E
     replace F3:=hxcL F3 E
     clear E hya hga
     rw [show (#[true,true,true,true,true,true,false,false,true,false,false,false]:Array Bool).setIfInBounds 10 true = #[true,true,true,true,true,true,false,false,true,false,true,false] from rfl]
     exact rb_3ga HH hdone p1 n1 c1 p2 n2 c2 p3 n3 c3 ga y1 X F1 F2 F3 Gga Nga
   · exact Bars.nil
theorem rb_2ga {Ta Tb Tc:T} {va vb vc:Value} {B:Nat} {xk xn:Int} {xs:ByteArray} {xe:Int} {W1:World} {S:World→Prop} {Q:Exit→Act→World→Prop} {u u0 u1 u2 u3 u4 u5 u6 u7 u8 u9 u10 u12 u13 u14 u15 u16 u17 u18 u19 u20 u21 u22 u23 u24 u25 u26 u27 u28 u29 u30 u31 u32 u33 u34 u35 u36 u37 u38 u39 u40 u41 u42 u43 u44 u45 u46 u47 u48 u49 u50 u51 u52 u53 u54 u55 u56 u57 u58:Value} (HH:rbH Ta Tb Tc va vb vc B xk xn xs xe W1 S) (hdone:rbD Ta Tb Tc va vb vc B xk xn xs xe W1 Q u u0 u1 u2 u3 u4 u5 u6 u7 u8 u9 u10 u12 u13 u14 u15 u16 u17 u18 u19 u20 u21 u22 u23 u24 u25 u26 u27 u28 u29 u30 u31 u32 u33 u34 u35 u36 u37 u38 u39 u40 u41 u42 u43 u44 u45 u46 u47 u48 u49 u50 u51 u52 u53 u54 u55 u56 u57 u58) (p1:Option Addr) (n1 c1:Nat) (p2:Option Addr) (n2 c2:Nat) (ga:Nat) (y0:World) (X:Hid (Ext W1 y0)) (F1:Hid (IsL y0 (fun _=>True) (.slice p1 n1 c1) Ta.l)) (F2:Hid (IsL y0 (fun _=>True) (.slice p2 n2 c2) Tb.l)) (Gga:Hid (Blk y0 ga (.int .i64 0) (.int .i64 0) (.string ⟨#[]⟩) (.int .i64 0))) (Nga:Hid (W1.heap.size≤ga)) :
   wpBar Tryz.prog .any rbO Q (fun _=>false) S 5 #[true,true,true,true,true,false,false,false,true,false,true,false] { tmps:=#[u0,u1,u2,u3,u4,u5,u6,u7,u8,u9,u10,(.pointer (some ⟨ga,0,none⟩)),u12,u13,u14,u15,u16,u17,u18,u19,u20,u21,u22,u23,u24,u25,u26,u27,u28,u29,u30,u31,u32,u33,u34,u35,u36,u37,u38,u39,u40,u41,u42,u43,u44,u45,u46,u47,u48,u49,u50,u51,u52,u53,u54,u55,u56,u57,u58,(va),(.agg #[.int .i64 Ta.k,.int .i64 Ta.n,.string (bs Ta.s),.int .i64 Ta.e,.int .i64 Ta.r.1,.int .i64 Ta.r.2.1,.bool Ta.r.2.2.1,.bool Ta.r.2.2.2,.int .i64 Ta.q.1,.int .i64 Ta.q.2.1,.bool Ta.q.2.2.1,.bool Ta.q.2.2.2,.slice p1 n1 c1]),(vb),(.agg #[.int .i64 Tb.k,.int .i64 Tb.n,.string (bs Tb.s),.int .i64 Tb.e,.int .i64 Tb.r.1,.int .i64 Tb.r.2.1,.bool Tb.r.2.2.1,.bool Tb.r.2.2.2,.int .i64 Tb.q.1,.int .i64 Tb.q.2.1,.bool Tb.q.2.2.1,.bool Tb.q.2.2.2,.slice p2 n2 c2]),(vc),u,u,u,(.pointer (some ⟨B,0,none⟩)),u,u,u,u,u,u,u,u,u,u,u,u,u,u,u,u,u,u,u,u,u,u,u,u,u,u,u,u,u,u,u],defers:=[] } y0:=by
 unfold rbO
 refine bar_one (i:=5) J3 rfl (fun KK hKK=>?_)
 go_simp
 go_wp2_with (go_at_call 15;refine Calls.mono (HH.cC.out _ X.out) ?_;rintro e y1 ⟨p3,n3,c3,rfl,F,E⟩)
 have F3:Hid (IsL y1 (fun _=>True) (.slice p3 n3 c3) Tc.l):=F
 clear F
 replace X:Hid (Ext W1 y1):=X.out.trans E
 refine hKK.out _ _ (fun _=>HH.mkS.out _ X.out) ?_
 clear hKK KK
 replace F1:=hxcL F1 E
 replace F2:=hxcL F2 E
 replace Gga:=hxc4 Gga E
 clear E
 rw [show (#[true,true,true,true,true,false,false,false,true,false,true,false]:Array Bool).setIfInBounds 5 true = #[true,true,true,true,true,true,false,false,true,false,true,false] from rfl]
 exact rb_3ga HH hdone p1 n1 c1 p2 n2 c2 p3 n3 c3 ga y1 X F1 F2 F3 Gga Nga
theorem rb_2 {Ta Tb Tc:T} {va vb vc:Value} {B:Nat} {xk xn:Int} {xs:ByteArray} {xe:Int} {W1:World} {S:World→Prop} {Q:Exit→Act→World→Prop} {u u0 u1 u2 u3 u4 u5 u6 u7 u8 u9 u10 u12 u13 u14 u15 u16 u17 u18 u19 u20 u21 u22 u23 u24 u25 u26 u27 u28 u29 u30 u31 u32 u33 u34 u35 u36 u37 u38 u39 u40 u41 u42 u43 u44 u45 u46 u47 u48 u49 u50 u51 u52 u53 u54 u55 u56 u57 u58:Value} (HH:rbH Ta Tb Tc va vb vc B xk xn xs xe W1 S) (hdone:rbD Ta Tb Tc va vb vc B xk xn xs xe W1 Q u u0 u1 u2 u3 u4 u5 u6 u7 u8 u9 u10 u12 u13 u14 u15 u16 u17 u18 u19 u20 u21 u22 u23 u24 u25 u26 u27 u28 u29 u30 u31 u32 u33 u34 u35 u36 u37 u38 u39 u40 u41 u42 u43 u44 u45 u46 u47 u48 u49 u50 u51 u52 u53 u54 u55 u56 u57 u58) (p1:Option Addr) (n1 c1:Nat) (p2:Option Addr) (n2 c2:Nat)  (y0:World) (X:Hid (Ext W1 y0)) (F1:Hid (IsL y0 (fun _=>True) (.slice p1 n1 c1) Ta.l)) (F2:Hid (IsL y0 (fun _=>True) (.slice p2 n2 c2) Tb.l)) :
   wpBar Tryz.prog .any rbO Q (fun _=>false) S 6 #[true,true,true,true,true,false,false,false,true,false,false,false] { tmps:=#[u0,u1,u2,u3,u4,u5,u6,u7,u8,u9,u10,u,u12,u13,u14,u15,u16,u17,u18,u19,u20,u21,u22,u23,u24,u25,u26,u27,u28,u29,u30,u31,u32,u33,u34,u35,u36,u37,u38,u39,u40,u41,u42,u43,u44,u45,u46,u47,u48,u49,u50,u51,u52,u53,u54,u55,u56,u57,u58,(va),(.agg #[.int .i64 Ta.k,.int .i64 Ta.n,.string (bs Ta.s),.int .i64 Ta.e,.int .i64 Ta.r.1,.int .i64 Ta.r.2.1,.bool Ta.r.2.2.1,.bool Ta.r.2.2.2,.int .i64 Ta.q.1,.int .i64 Ta.q.2.1,.bool Ta.q.2.2.1,.bool Ta.q.2.2.2,.slice p1 n1 c1]),(vb),(.agg #[.int .i64 Tb.k,.int .i64 Tb.n,.string (bs Tb.s),.int .i64 Tb.e,.int .i64 Tb.r.1,.int .i64 Tb.r.2.1,.bool Tb.r.2.2.1,.bool Tb.r.2.2.2,.int .i64 Tb.q.1,.int .i64 Tb.q.2.1,.bool Tb.q.2.2.1,.bool Tb.q.2.2.2,.slice p2 n2 c2]),(vc),u,u,u,(.pointer (some ⟨B,0,none⟩)),u,u,u,u,u,u,u,u,u,u,u,u,u,u,u,u,u,u,u,u,u,u,u,u,u,u,u,u,u,u,u],defers:=[] } y0:=by
 unfold rbO
 refine bar_list (rs:=[5,10]) J3 J65 ?_
 refine Bars.cons rfl (fun KK hKK=>?_) ?_
 · go_simp
   go_wp2_with (go_at_call 15;refine Calls.mono (HH.cC.out _ X.out) ?_;rintro e y1 ⟨p3,n3,c3,rfl,F,E⟩)
   have F3:Hid (IsL y1 (fun _=>True) (.slice p3 n3 c3) Tc.l):=F
   clear F
   replace X:Hid (Ext W1 y1):=X.out.trans E
   refine hKK.out _ _ (fun _=>HH.mkS.out _ X.out) ?_
   clear hKK KK
   replace F1:=hxcL F1 E
   replace F2:=hxcL F2 E
   clear E
   rw [show (#[true,true,true,true,true,false,false,false,true,false,false,false]:Array Bool).setIfInBounds 5 true = #[true,true,true,true,true,true,false,false,true,false,false,false] from rfl]
   exact rb_3 HH hdone p1 n1 c1 p2 n2 c2 p3 n3 c3  y1 X F1 F2 F3
 · refine Bars.cons rfl (fun KK hKK=>?_) ?_
   · go_simp
     refine hKK.out _ _ (fun _=>HH.mkS.out _ (X.out.alloc _)) ?_
     clear hKK KK
     obtain ⟨y1,hya⟩:∃ ya,World.alloc y0 (.cells #[.int .i64 0,.int .i64 0,.string ⟨#[]⟩,.int .i64 0] 33) = ya:=⟨_,rfl⟩
     obtain ⟨ga,hga⟩:∃ g,y0.heap.size = g:=⟨_,rfl⟩
     have E:Ext y0 y1:=J117
     have Gga:Hid (Blk y1 ga (.int .i64 0) (.int .i64 0) (.string ⟨#[]⟩) (.int .i64 0)):=J120
     have Nga:Hid (W1.heap.size≤ga):=J119
     rw [hya,hga]
     replace X:Hid (Ext W1 y1):=X.out.trans E
     replace F1:=hxcL F1 E
     replace F2:=hxcL F2 E
     clear E hya hga
     rw [show (#[true,true,true,true,true,false,false,false,true,false,false,false]:Array Bool).setIfInBounds 10 true = #[true,true,true,true,true,false,false,false,true,false,true,false] from rfl]
     exact rb_2ga HH hdone p1 n1 c1 p2 n2 c2 ga y1 X F1 F2 Gga Nga
   · exact Bars.nil
theorem rb_1ga {Ta Tb Tc:T} {va vb vc:Value} {B:Nat} {xk xn:Int} {xs:ByteArray} {xe:Int} {W1:World} {S:World→Prop} {Q:Exit→Act→World→Prop} {u u0 u1 u2 u3 u4 u5 u6 u7 u8 u9 u10 u12 u13 u14 u15 u16 u17 u18 u19 u20 u21 u22 u23 u24 u25 u26 u27 u28 u29 u30 u31 u32 u33 u34 u35 u36 u37 u38 u39 u40 u41 u42 u43 u44 u45 u46 u47 u48 u49 u50 u51 u52 u53 u54 u55 u56 u57 u58:Value} (HH:rbH Ta Tb Tc va vb vc B xk xn xs xe W1 S) (hdone:rbD Ta Tb Tc va vb vc B xk xn xs xe W1 Q u u0 u1 u2 u3 u4 u5 u6 u7 u8 u9 u10 u12 u13 u14 u15 u16 u17 u18 u19 u20 u21 u22 u23 u24 u25 u26 u27 u28 u29 u30 u31 u32 u33 u34 u35 u36 u37 u38 u39 u40 u41 u42 u43 u44 u45 u46 u47 u48 u49 u50 u51 u52 u53 u54 u55 u56 u57 u58) (p1:Option Addr) (n1 c1:Nat) (ga:Nat) (y0:World) (X:Hid (Ext W1 y0)) (F1:Hid (IsL y0 (fun _=>True) (.slice p1 n1 c1) Ta.l)) (Gga:Hid (Blk y0 ga (.int .i64 0) (.int .i64 0) (.string ⟨#[]⟩) (.int .i64 0))) (Nga:Hid (W1.heap.size≤ga)) :
   wpBar Tryz.prog .any rbO Q (fun _=>false) S 6 #[true,true,true,false,true,false,false,false,true,false,true,false] { tmps:=#[u0,u1,u2,u3,u4,u5,u6,u7,u8,u9,u10,(.pointer (some ⟨ga,0,none⟩)),u12,u13,u14,u15,u16,u17,u18,u19,u20,u21,u22,u23,u24,u25,u26,u27,u28,u29,u30,u31,u32,u33,u34,u35,u36,u37,u38,u39,u40,u41,u42,u43,u44,u45,u46,u47,u48,u49,u50,u51,u52,u53,u54,u55,u56,u57,u58,(va),(.agg #[.int .i64 Ta.k,.int .i64 Ta.n,.string (bs Ta.s),.int .i64 Ta.e,.int .i64 Ta.r.1,.int .i64 Ta.r.2.1,.bool Ta.r.2.2.1,.bool Ta.r.2.2.2,.int .i64 Ta.q.1,.int .i64 Ta.q.2.1,.bool Ta.q.2.2.1,.bool Ta.q.2.2.2,.slice p1 n1 c1]),(vb),u,(vc),u,u,u,(.pointer (some ⟨B,0,none⟩)),u,u,u,u,u,u,u,u,u,u,u,u,u,u,u,u,u,u,u,u,u,u,u,u,u,u,u,u,u,u,u],defers:=[] } y0:=by
 unfold rbO
 refine bar_one (i:=3) J3 rfl (fun KK hKK=>?_)
 go_simp
 go_wp2_with (go_at_call 15;refine Calls.mono (HH.cB.out _ X.out) ?_;rintro e y1 ⟨p2,n2,c2,rfl,F,E⟩)
 have F2:Hid (IsL y1 (fun _=>True) (.slice p2 n2 c2) Tb.l):=F
 clear F
 replace X:Hid (Ext W1 y1):=X.out.trans E
 refine hKK.out _ _ (fun _=>HH.mkS.out _ X.out) ?_
 clear hKK KK
 replace F1:=hxcL F1 E
 replace Gga:=hxc4 Gga E
 clear E
 rw [show (#[true,true,true,false,true,false,false,false,true,false,true,false]:Array Bool).setIfInBounds 3 true = #[true,true,true,true,true,false,false,false,true,false,true,false] from rfl]
 exact rb_2ga HH hdone p1 n1 c1 p2 n2 c2 ga y1 X F1 F2 Gga Nga
theorem rb_1 {Ta Tb Tc:T} {va vb vc:Value} {B:Nat} {xk xn:Int} {xs:ByteArray} {xe:Int} {W1:World} {S:World→Prop} {Q:Exit→Act→World→Prop} {u u0 u1 u2 u3 u4 u5 u6 u7 u8 u9 u10 u12 u13 u14 u15 u16 u17 u18 u19 u20 u21 u22 u23 u24 u25 u26 u27 u28 u29 u30 u31 u32 u33 u34 u35 u36 u37 u38 u39 u40 u41 u42 u43 u44 u45 u46 u47 u48 u49 u50 u51 u52 u53 u54 u55 u56 u57 u58:Value} (HH:rbH Ta Tb Tc va vb vc B xk xn xs xe W1 S) (hdone:rbD Ta Tb Tc va vb vc B xk xn xs xe W1 Q u u0 u1 u2 u3 u4 u5 u6 u7 u8 u9 u10 u12 u13 u14 u15 u16 u17 u18 u19 u20 u21 u22 u23 u24 u25 u26 u27 u28 u29 u30 u31 u32 u33 u34 u35 u36 u37 u38 u39 u40 u41 u42 u43 u44 u45 u46 u47 u48 u49 u50 u51 u52 u53 u54 u55 u56 u57 u58) (p1:Option Addr) (n1 c1:Nat)  (y0:World) (X:Hid (Ext W1 y0)) (F1:Hid (IsL y0 (fun _=>True) (.slice p1 n1 c1) Ta.l)) :
   wpBar Tryz.prog .any rbO Q (fun _=>false) S 7 #[true,true,true,false,true,false,false,false,true,false,false,false] { tmps:=#[u0,u1,u2,u3,u4,u5,u6,u7,u8,u9,u10,u,u12,u13,u14,u15,u16,u17,u18,u19,u20,u21,u22,u23,u24,u25,u26,u27,u28,u29,u30,u31,u32,u33,u34,u35,u36,u37,u38,u39,u40,u41,u42,u43,u44,u45,u46,u47,u48,u49,u50,u51,u52,u53,u54,u55,u56,u57,u58,(va),(.agg #[.int .i64 Ta.k,.int .i64 Ta.n,.string (bs Ta.s),.int .i64 Ta.e,.int .i64 Ta.r.1,.int .i64 Ta.r.2.1,.bool Ta.r.2.2.1,.bool Ta.r.2.2.2,.int .i64 Ta.q.1,.int .i64 Ta.q.2.1,.bool Ta.q.2.2.1,.bool Ta.q.2.2.2,.slice p1 n1 c1]),(vb),u,(vc),u,u,u,(.pointer (some ⟨B,0,none⟩)),u,u,u,u,u,u,u,u,u,u,u,u,u,u,u,u,u,u,u,u,u,u,u,u,u,u,u,u,u,u,u],defers:=[] } y0:=by
 unfold rbO
 refine bar_list (rs:=[3,10]) J3 J65 ?_
 refine Bars.cons rfl (fun KK hKK=>?_) ?_
 · go_simp
   go_wp2_with (go_at_call 15;refine Calls.mono (HH.cB.out _ X.out) ?_;rintro e y1 ⟨p2,n2,c2,rfl,F,E⟩)
   have F2:Hid (IsL y1 (fun _=>True) (.slice p2 n2 c2) Tb.l):=F
   clear F
   replace X:Hid (Ext W1 y1):=X.out.trans E
   refine hKK.out _ _ (fun _=>HH.mkS.out _ X.out) ?_
   clear hKK KK
   replace F1:=hxcL F1 E
   clear E
   rw [show (#[true,true,true,false,true,false,false,false,true,false,false,false]:Array Bool).setIfInBounds 3 true = #[true,true,true,true,true,false,false,false,true,false,false,false] from rfl]
   exact rb_2 HH hdone p1 n1 c1 p2 n2 c2  y1 X F1 F2
 · refine Bars.cons rfl (fun KK hKK=>?_) ?_
   · go_simp
     refine hKK.out _ _ (fun _=>HH.mkS.out _ (X.out.alloc _)) ?_
     clear hKK KK
     obtain ⟨y1,hya⟩:∃ ya,World.alloc y0 (.cells #[.int .i64 0,.int .i64 0,.string ⟨#[]⟩,.int .i64 0] 33) = ya:=⟨_,rfl⟩
     obtain ⟨ga,hga⟩:∃ g,y0.heap.size = g:=⟨_,rfl⟩
     have E:Ext y0 y1:=J117
     have Gga:Hid (Blk y1 ga (.int .i64 0) (.int .i64 0) (.string ⟨#[]⟩) (.int .i64 0)):=J120
     have Nga:Hid (W1.heap.size≤ga):=J119
     rw [hya,hga]
     replace X:Hid (Ext W1 y1):=X.out.trans E
     replace F1:=hxcL F1 E
     clear E hya hga
     rw [show (#[true,true,true,false,true,false,false,false,true,false,false,false]:Array Bool).setIfInBounds 10 true = #[true,true,true,false,true,false,false,false,true,false,true,false] from rfl]
     exact rb_1ga HH hdone p1 n1 c1 ga y1 X F1 Gga Nga
   · exact Bars.nil
theorem rb_0ga {Ta Tb Tc:T} {va vb vc:Value} {B:Nat} {xk xn:Int} {xs:ByteArray} {xe:Int} {W1:World} {S:World→Prop} {Q:Exit→Act→World→Prop} {u u0 u1 u2 u3 u4 u5 u6 u7 u8 u9 u10 u12 u13 u14 u15 u16 u17 u18 u19 u20 u21 u22 u23 u24 u25 u26 u27 u28 u29 u30 u31 u32 u33 u34 u35 u36 u37 u38 u39 u40 u41 u42 u43 u44 u45 u46 u47 u48 u49 u50 u51 u52 u53 u54 u55 u56 u57 u58:Value} (HH:rbH Ta Tb Tc va vb vc B xk xn xs xe W1 S) (hdone:rbD Ta Tb Tc va vb vc B xk xn xs xe W1 Q u u0 u1 u2 u3 u4 u5 u6 u7 u8 u9 u10 u12 u13 u14 u15 u16 u17 u18 u19 u20 u21 u22 u23 u24 u25 u26 u27 u28 u29 u30 u31 u32 u33 u34 u35 u36 u37 u38 u39 u40 u41 u42 u43 u44 u45 u46 u47 u48 u49 u50 u51 u52 u53 u54 u55 u56 u57 u58)  (ga:Nat) (y0:World) (X:Hid (Ext W1 y0)) (Gga:Hid (Blk y0 ga (.int .i64 0) (.int .i64 0) (.string ⟨#[]⟩) (.int .i64 0))) (Nga:Hid (W1.heap.size≤ga)) :
   wpBar Tryz.prog .any rbO Q (fun _=>false) S 7 #[true,false,true,false,true,false,false,false,true,false,true,false] { tmps:=#[u0,u1,u2,u3,u4,u5,u6,u7,u8,u9,u10,(.pointer (some ⟨ga,0,none⟩)),u12,u13,u14,u15,u16,u17,u18,u19,u20,u21,u22,u23,u24,u25,u26,u27,u28,u29,u30,u31,u32,u33,u34,u35,u36,u37,u38,u39,u40,u41,u42,u43,u44,u45,u46,u47,u48,u49,u50,u51,u52,u53,u54,u55,u56,u57,u58,(va),u,(vb),u,(vc),u,u,u,(.pointer (some ⟨B,0,none⟩)),u,u,u,u,u,u,u,u,u,u,u,u,u,u,u,u,u,u,u,u,u,u,u,u,u,u,u,u,u,u,u],defers:=[] } y0:=by
 unfold rbO
 refine bar_one (i:=1) J3 rfl (fun KK hKK=>?_)
 go_simp
 go_wp2_with (go_at_call 15;refine Calls.mono (HH.cA.out _ X.out) ?_;rintro e y1 ⟨p1,n1,c1,rfl,F,E⟩)
 have F1:Hid (IsL y1 (fun _=>True) (.slice p1 n1 c1) Ta.l):=F
 clear F
 replace X:Hid (Ext W1 y1):=X.out.trans E
 refine hKK.out _ _ (fun _=>HH.mkS.out _ X.out) ?_
 clear hKK KK
 replace Gga:=hxc4 Gga E
 clear E
 rw [show (#[true,false,true,false,true,false,false,false,true,false,true,false]:Array Bool).setIfInBounds 1 true = #[true,true,true,false,true,false,false,false,true,false,true,false] from rfl]
 exact rb_1ga HH hdone p1 n1 c1 ga y1 X F1 Gga Nga
theorem rb_0 {Ta Tb Tc:T} {va vb vc:Value} {B:Nat} {xk xn:Int} {xs:ByteArray} {xe:Int} {W1:World} {S:World→Prop} {Q:Exit→Act→World→Prop} {u u0 u1 u2 u3 u4 u5 u6 u7 u8 u9 u10 u12 u13 u14 u15 u16 u17 u18 u19 u20 u21 u22 u23 u24 u25 u26 u27 u28 u29 u30 u31 u32 u33 u34 u35 u36 u37 u38 u39 u40 u41 u42 u43 u44 u45 u46 u47 u48 u49 u50 u51 u52 u53 u54 u55 u56 u57 u58:Value} (HH:rbH Ta Tb Tc va vb vc B xk xn xs xe W1 S) (hdone:rbD Ta Tb Tc va vb vc B xk xn xs xe W1 Q u u0 u1 u2 u3 u4 u5 u6 u7 u8 u9 u10 u12 u13 u14 u15 u16 u17 u18 u19 u20 u21 u22 u23 u24 u25 u26 u27 u28 u29 u30 u31 u32 u33 u34 u35 u36 u37 u38 u39 u40 u41 u42 u43 u44 u45 u46 u47 u48 u49 u50 u51 u52 u53 u54 u55 u56 u57 u58)   (y0:World) (X:Hid (Ext W1 y0)) :
   wpBar Tryz.prog .any rbO Q (fun _=>false) S 8 #[true,false,true,false,true,false,false,false,true,false,false,false] { tmps:=#[u0,u1,u2,u3,u4,u5,u6,u7,u8,u9,u10,u,u12,u13,u14,u15,u16,u17,u18,u19,u20,u21,u22,u23,u24,u25,u26,u27,u28,u29,u30,u31,u32,u33,u34,u35,u36,u37,u38,u39,u40,u41,u42,u43,u44,u45,u46,u47,u48,u49,u50,u51,u52,u53,u54,u55,u56,u57,u58,(va),u,(vb),u,(vc),u,u,u,(.pointer (some ⟨B,0,none⟩)),u,u,u,u,u,u,u,u,u,u,u,u,u,u,u,u,u,u,u,u,u,u,u,u,u,u,u,u,u,u,u],defers:=[] } y0:=by
 unfold rbO
 refine bar_list (rs:=[1,10]) J3 J65 ?_
 refine Bars.cons rfl (fun KK hKK=>?_) ?_
 · go_simp
   go_wp2_with (go_at_call 15;refine Calls.mono (HH.cA.out _ X.out) ?_;rintro e y1 ⟨p1,n1,c1,rfl,F,E⟩)
   have F1:Hid (IsL y1 (fun _=>True) (.slice p1 n1 c1) Ta.l):=F
   clear F
   replace X:Hid (Ext W1 y1):=X.out.trans E
   refine hKK.out _ _ (fun _=>HH.mkS.out _ X.out) ?_
   clear hKK KK
   clear E
   rw [show (#[true,false,true,false,true,false,false,false,true,false,false,false]:Array Bool).setIfInBounds 1 true = #[true,true,true,false,true,false,false,false,true,false,false,false] from rfl]
   exact rb_1 HH hdone p1 n1 c1  y1 X F1
 · refine Bars.cons rfl (fun KK hKK=>?_) ?_
   · go_simp
     refine hKK.out _ _ (fun _=>HH.mkS.out _ (X.out.alloc _)) ?_
     clear hKK KK
     obtain ⟨y1,hya⟩:∃ ya,World.alloc y0 (.cells #[.int .i64 0,.int .i64 0,.string ⟨#[]⟩,.int .i64 0] 33) = ya:=⟨_,rfl⟩
     obtain ⟨ga,hga⟩:∃ g,y0.heap.size = g:=⟨_,rfl⟩
     have E:Ext y0 y1:=J117
     have Gga:Hid (Blk y1 ga (.int .i64 0) (.int .i64 0) (.string ⟨#[]⟩) (.int .i64 0)):=J120
     have Nga:Hid (W1.heap.size≤ga):=J119
     rw [hya,hga]
     replace X:Hid (Ext W1 y1):=X.out.trans E
     clear E hya hga
     rw [show (#[true,false,true,false,true,false,false,false,true,false,false,false]:Array Bool).setIfInBounds 10 true = #[true,false,true,false,true,false,false,false,true,false,true,false] from rfl]
     exact rb_0ga HH hdone  ga y1 X Gga Nga
   · exact Bars.nil
end Go.Proofs.YtcfgbiaahangmaaGreatDoor

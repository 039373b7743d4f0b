import Derived.Test.YtcfgbiaahangmaaGreatDoorB29
set_option maxHeartbeats 6000000
set_option maxRecDepth 100000
namespace Go.Proofs.YtcfgbiaahangmaaGreatDoor
open Go.Proofs.Tryz
open Go.RowKit
theorem txt_len : ∀ (l : List UInt8) (x : List UInt8 × Nat),txt l = some x → x.1.length ≤ x.2
 | [],x,h=>by simp [txt] at h
 | [c],x,h=>by
   unfold txt at h
   split at h
   · cases h;simp
   · cases h
 | c :: d :: r,x,h=>by
   unfold txt at h
   split at h
   · split at h
     · rw [Option.map_eq_some_iff] at h
       obtain ⟨y,hy,rfl⟩:=h
       have:=txt_len r y hy
       simp;omega
     · cases h;simp
   · rw [Option.map_eq_some_iff] at h
     obtain ⟨y,hy,rfl⟩:=h
     have:=txt_len (d :: r) y hy
     simp;omega
theorem nxt_len {l : List UInt8} {x : Wd} (h : nxt l = .ok x) : x.2.1.length ≤ x.2.2.2.2:=by
 cases l with
 | nil=>cases h
 | cons c l =>
   rw [nxt_cons] at h
   split at h
   · unfold nuRL at h
     split at h
     · cases h
     · split at h
       · cases h
       · cases h;exact Nat.zero_le _
   · split at h
     · unfold txtR at h
       split at h
       · cases h
       · rename_i y hy
         cases h
         have:=txt_len _ _ hy
         show y.1.length ≤ y.2 + 1
         omega
     · split at h
       · unfold wdR at h
         cases h
         show (List.take _ _).length ≤ _
         rw [List.length_take];exact Nat.min_le_left _ _
       · split at h
         · unfold errR at h
           split at h
           · cases h
           · cases h;exact Nat.zero_le _
         · unfold sgR at h
           split at h
           · cases h
           · cases h;exact Nat.le_refl _
theorem W_len (n : Nat) : ∀ (l : List UInt8) (p : Nat) (ts : List Tk),l.length ≤ n → W p l = .ok ts → ∀ t ∈ ts,t.2.2.1.length ≤ l.length:=by
 induction n with
 | zero =>
   intro l p ts hl h
   have : l = []:=List.eq_nil_of_length_eq_zero J2
   subst this
   rw [W_nil] at h
   cases h
   intro t ht;simp at ht;subst ht;simp [endT]
 | succ n ih =>
   intro l p ts hl h
   cases l with
   | nil =>
     rw [W_nil] at h
     cases h
     intro t ht;simp at ht;subst ht;simp [endT]
   | cons c r =>
     by_cases hc : c = 32
     · subst hc
       rw [W_blank] at h
       intro t ht
       have:=ih r (p + 1) ts J46 h t ht
       simp;omega
     · rw [W_cons p c r hc] at h
       cases hx : nxt (c :: r) with
       | error e=>rw [hx] at h;cases h
       | ok x =>
         rw [hx] at h
         simp only [] at h
         obtain ⟨us,hu,rfl⟩:=map_ok h
         have hm:=nxt_pos hx
         simp only [List.length_cons] at hm
         intro t ht
         rcases List.mem_cons.1 ht with rfl | ht
         · have:=nxt_len hx
           show x.2.1.length ≤ _
           simp;omega
         · have:=ih ((c :: r).drop x.2.2.2.2) (p + x.2.2.2.2) us J50 hu t ht
           simp at this ⊢;omega
theorem nxt_kd {l : List UInt8} {x : Wd} (h : nxt l = .ok x) : 0 ≤ x.1 ∧ x.1 ≤ 4:=by
 cases l with
 | nil=>cases h
 | cons c l =>
   rw [nxt_cons] at h
   split at h
   · unfold nuRL at h
     split at h
     · cases h
     · split at h
       · cases h
       · cases h;exact ⟨by show (0 : Int) ≤ 0;decide,by show (0 : Int) ≤ 4;decide⟩
   · split at h
     · unfold txtR at h
       split at h
       · cases h
       · cases h;exact ⟨by show (0 : Int) ≤ 1;decide,by show (1 : Int) ≤ 4;decide⟩
     · split at h
       · unfold wdR at h
         cases h;exact ⟨by show (0 : Int) ≤ 2;decide,by show (2 : Int) ≤ 4;decide⟩
       · split at h
         · unfold errR at h
           split at h
           · cases h
           · cases h;exact ⟨by show (0 : Int) ≤ 4;decide,by show (4 : Int) ≤ 4;decide⟩
         · unfold sgR at h
           split at h
           · cases h
           · cases h;exact ⟨by show (0 : Int) ≤ 3;decide,by show (3 : Int) ≤ 4;decide⟩
theorem W_kd (n : Nat) : ∀ (l : List UInt8) (p : Nat) (ts : List Tk),l.length ≤ n → W p l = .ok ts → ∀ t ∈ ts,0 ≤ t.1 ∧ t.1 ≤ 5 ∧ (t.1 = 5 → t.2.2.1 = []):=by
 have h5 : ∀ q,0 ≤ (endT q).1 ∧ (endT q).1 ≤ 5 ∧ ((endT q).1 = 5 → (endT q).2.2.1 = []):=fun q=>⟨by show (0 : Int) ≤ 5;decide,by show (5 : Int) ≤ 5;decide,fun _=>rfl⟩
 induction n with
 | zero =>
   intro l p ts hl h
   have : l = []:=List.eq_nil_of_length_eq_zero J2
   subst this
   rw [W_nil] at h
   cases h
   intro t ht;simp at ht;subst ht;exact h5 _
 | succ n ih =>
   intro l p ts hl h
   cases l with
   | nil =>
     rw [W_nil] at h
     cases h
     intro t ht;simp at ht;subst ht;exact h5 _
   | cons c r =>
     by_cases hc : c = 32
     · subst hc
       rw [W_blank] at h
       exact ih r (p + 1) ts J46 h
     · rw [W_cons p c r hc] at h
       cases hx : nxt (c :: r) with
       | error e=>rw [hx] at h;cases h
       | ok x =>
         rw [hx] at h
         simp only [] at h
         obtain ⟨us,hu,rfl⟩:=map_ok h
         have hm:=nxt_pos hx
         simp only [List.length_cons] at hm
         intro t ht
         rcases List.mem_cons.1 ht with rfl | ht
         · have:=nxt_kd hx
           show 0 ≤ x.1 ∧ x.1 ≤ 5 ∧ (x.1 = 5 → x.2.1 = [])
           exact ⟨this.1,by omega,fun h=>by omega⟩
         · exact ih ((c :: r).drop x.2.2.2.2) (p + x.2.2.2.2) us J50 hu t ht
theorem isIn_any (r0 r1 : Int) (r2 r3 : Bool) (w : World) : Calls Tryz.prog 60 #[.agg #[.int .i64 r0,.int .i64 r1,.bool r2,.bool r3]] w fun e w'=>e = .returned (.bool (inB r0 r1)) ∧ Ext w w':=by
 have c1:=fun W=>in_any r0 r1 W
 go_enter func60,ntmps60
 go_wp2_with fail
 refine (c1 _).mono ?_
 rintro e w1 ⟨rfl,rfl⟩
 go_wp2_with fail
 go_ret
 exact ⟨rfl,xr.alloc _⟩
theorem allx_take {l : List T} {g : T → Bool} {j : Nat} {x : T} (h : l[j]? = some x) : (l.take (j + 1)).all g = ((l.take j).all g && g x):=by
 rw [List.take_add_one,h,List.all_append];simp
theorem xall_any (K : FuncId) (P : Nat → Prop) (g : T → Bool) (l : List T) (pp : Option Addr) (ln cl : Nat) (w : World) (hl : l.length ≤ 100000) (hent : ∀ args W,(callFunc K args).run Tryz.prog W = .ok (.enter K args) W) (hx : ∀ x ∈ l,ATr K P g x) (h : IsL w P (.slice pp ln cl) l) :
   Calls Tryz.prog 61 #[.slice pp ln cl,.func (.func K) #[] #[]] w fun e w'=>e = .returned (.bool (l.all g)) ∧ Ext w w':=by
 have hln : ln = l.length:=by
   exact K130
 have HX : Hid (∀ x ∈ l,ATr K P g x):=hx
 have HI : Hid (IsL w P (.slice pp ln cl) l):=h
 have HLN : Hid (ln = l.length):=hln
 have hl2 : ln ≤ 100000:=J2
 clear hx h hln hl
 go_enter func61,ntmps61
 go_wp2_with fail
 go_loopw [6,9] (fun _ i wr=>∃ j : Nat,j ≤ ln ∧ i = .int .i64 (j : Int) ∧ (l.take j).all g = true ∧ Ext w wr) (fun _ i _=>ln - (intOf i).toNat)
 case atStart=>exact ⟨0,Nat.zero_le _,rfl,rfl,Ext.refl _⟩
 case round =>
   obtain ⟨j,hj,rfl,hg,hE⟩:=hrel
   have HE : Hid (Ext w wr ∧ (l.take j).all g = true):=⟨hE,hg⟩
   clear hE hg
   by_cases hlt : j < ln
   · have hltI : (j : Int) < (ln : Int):=J2
     have hI:=HI.out.ext HE.out.1
     obtain ⟨gb,off,x,lv,hpp,hx1,hA1,hgb,hA2,hLx,hce⟩:=hI.at (i:=j) (by rw [← HLN.out];exact hlt)
     clear hA1 hA2
     subst hpp
     obtain ⟨pp,cl',hlv,hcl⟩:=hLx.form
     obtain ⟨ln',hln'⟩ : ∃ ln',x.l.length = ln':=⟨_,rfl⟩
     rw [hln'] at hlv
     subst hlv
     have HX1 : Hid (l[j]? = some x):=hx1
     have HC : Hid (Calls Tryz.prog K #[.agg #[.int .i64 x.k,.int .i64 x.n,.string (bs x.s),.int .i64 x.e,.int .i64 x.r.1,.int .i64 x.r.2.1,.bool x.r.2.2.1,.bool x.r.2.2.2,.int .i64 x.q.1,.int .i64 x.q.2.1,.bool x.q.2.2.1,.bool x.q.2.2.2,.slice pp ln' cl']] (wr.alloc (.cells #[.int .i64 x.k,.int .i64 x.n,.string (bs x.s),.int .i64 x.e,.int .i64 x.r.1,.int .i64 x.r.2.1,.bool x.r.2.2.1,.bool x.r.2.2.2,.int .i64 x.q.1,.int .i64 x.q.2.1,.bool x.q.2.2.1,.bool x.q.2.2.2,.slice pp ln' cl'] 43)) fun e w'=>e = .returned (.bool (g x)) ∧ Ext (wr.alloc (.cells #[.int .i64 x.k,.int .i64 x.n,.string (bs x.s),.int .i64 x.e,.int .i64 x.r.1,.int .i64 x.r.2.1,.bool x.r.2.2.1,.bool x.r.2.2.2,.int .i64 x.q.1,.int .i64 x.q.2.1,.bool x.q.2.2.1,.bool x.q.2.2.2,.slice pp ln' cl'] 43)) w'):=HX.out x (List.mem_of_getElem? hx1) _ pp ln' cl' (hLx.ext (xr.alloc _))
     have e0 : wr.cell? ⟨gb,off + j * 13,none⟩ = some (.int .i64 x.k):=hce 0 _ rfl
     have e1 : wr.cell? ⟨gb,off + j * 13 + 1,none⟩ = some (.int .i64 x.n):=hce 1 _ rfl
     have e2 : wr.cell? ⟨gb,off + j * 13 + 2,none⟩ = some (.string (bs x.s)):=hce 2 _ rfl
     have e3 : wr.cell? ⟨gb,off + j * 13 + 3,none⟩ = some (.int .i64 x.e):=hce 3 _ rfl
     have e4 : wr.cell? ⟨gb,off + j * 13 + 4,none⟩ = some (.int .i64 x.r.1):=hce 4 _ rfl
     have e5 : wr.cell? ⟨gb,off + j * 13 + 5,none⟩ = some (.int .i64 x.r.2.1):=hce 5 _ rfl
     have e6 : wr.cell? ⟨gb,off + j * 13 + 6,none⟩ = some (.bool x.r.2.2.1):=hce 6 _ rfl
     have e7 : wr.cell? ⟨gb,off + j * 13 + 7,none⟩ = some (.bool x.r.2.2.2):=hce 7 _ rfl
     have e8 : wr.cell? ⟨gb,off + j * 13 + 8,none⟩ = some (.int .i64 x.q.1):=hce 8 _ rfl
     have e9 : wr.cell? ⟨gb,off + j * 13 + 9,none⟩ = some (.int .i64 x.q.2.1):=hce 9 _ rfl
     have e10 : wr.cell? ⟨gb,off + j * 13 + 10,none⟩ = some (.bool x.q.2.2.1):=hce 10 _ rfl
     have e11 : wr.cell? ⟨gb,off + j * 13 + 11,none⟩ = some (.bool x.q.2.2.2):=hce 11 _ rfl
     have e12 : wr.cell? ⟨gb,off + j * 13 + 12,none⟩ = some (.slice pp ln' cl'):=hce 12 _ rfl
     clear hI hx1 hLx hce hcl hln'
     go_wp2_with fail
     refine HC.out.mono ?_
     rintro e w1 ⟨rfl,E1⟩
     have HE1 : Hid (Ext w w1):=(HE.out.1.alloc _).trans E1
     clear E1 e0 e1 e2 e3 e4 e5 e6 e7 e8 e9 e10 e11 e12
     cases hgx : g x
     · have HR : Hid (l.all g = false):=by
         show _ = _
         rw [List.all_eq_false]
         exact ⟨x,List.mem_of_getElem? HX1.out,by rw [hgx];simp⟩
       clear hgx
       go_wp2_with fail
       go_ret
       exact ⟨ret_bool HR.out.symm,HE1.out⟩
     · have HR : Hid ((l.take (j + 1)).all g = true):=by show _ = _;rw [allx_take HX1.out,HE.out.2,hgx];rfl
       clear hgx
       go_wp2_with fail
       go_roundw
       case rel=>exact ⟨j + 1,by omega,by go_num,HR.out,HE1.out⟩
       case measure=>show ln - ((j : Int) + 1).toNat < ln - ((j : Int)).toNat;omega
   · have hltI : ¬ (j : Int) < (ln : Int):=J2
     have HR : Hid (l.all g = true):=by
       show _ = _
       have:=HE.out.2
       rw [List.take_of_length_le (by have:=HLN.out;omega)] at this
       exact this
     go_wp2_with fail
     go_ret
     exact ⟨ret_bool HR.out.symm,HE.out.1⟩
theorem isArg_any (P : Nat → Prop) (n : Nat) (t : T) (hw : ATr 35 P (wellT n) t) : ATr 64 P (argT n) t:=by
 intro W pp ln cl h
 by_cases k5 : t.k = 5
 · have e5 : (t.k == 5) = true:=by rw [k5];rfl
   have HX : Hid (argT n t = (inB t.r.1 t.r.2.1 && inB t.q.1 t.q.2.1)):=by show _ = _;unfold argT;rw [if_pos k5]
   have c1:=fun W=>isIn_any t.r.1 t.r.2.1 t.r.2.2.1 t.r.2.2.2 W
   have c2:=fun W=>isIn_any t.q.1 t.q.2.1 t.q.2.2.1 t.q.2.2.2 W
   clear k5 hw h
   cases h1 : inB t.r.1 t.r.2.1
   · rw [h1] at c1 HX
     clear h1
     go_enter func64,ntmps64
     go_wp2_with fail
     refine (c1 _).mono ?_
     exact K115
   · rw [h1] at c1 HX
     clear h1
     go_enter func64,ntmps64
     go_wp2_with fail
     refine (c1 _).mono ?_
     rintro e w1 ⟨rfl,E1⟩
     have HE : Hid (Ext W w1):=(xr.alloc _).trans E1
     have hB:=blk13_top rfl E1
     obtain ⟨q0,⟨l0,l1,l2,l3,l4,l5,l6,l7,l8,l9,l10,l11,l12⟩,gg⟩:=hB
     clear E1 gg
     go_wp2_with fail
     refine (c2 _).mono ?_
     rintro e w2 ⟨rfl,E2⟩
     have HE2 : Hid (Ext W w2):=HE.out.trans E2
     clear E2
     go_wp2_with fail
     go_ret
     exact ⟨ret_bool J44,HE2.out⟩
 · have e5 : (t.k == 5) = false:=by simpa using k5
   have HX : Hid (argT n t = wellT n t):=by show _ = _;unfold argT;rw [if_neg k5]
   have HW : Hid (∀ W',Ext W W' → Calls Tryz.prog 35 #[.agg #[.int .i64 t.k,.int .i64 t.n,.string (bs t.s),.int .i64 t.e,.int .i64 t.r.1,.int .i64 t.r.2.1,.bool t.r.2.2.1,.bool t.r.2.2.2,.int .i64 t.q.1,.int .i64 t.q.2.1,.bool t.q.2.2.1,.bool t.q.2.2.2,.slice pp ln cl]] W' fun e w'=>e = .returned (.bool (wellT n t)) ∧ Ext W' w'):=fun W' e=>hw W' pp ln cl (h.ext e)
   clear k5 hw h
   go_enter func64,ntmps64
   go_wp2_with fail
   refine (HW.out _ (xr.alloc _)).mono ?_
   exact K109
theorem well_leaf (P : Nat → Prop) (n : Nat) (t : T) (hk6 : t.k ≠ 6) (hk7 : t.k ≠ 7) (hk8 : t.k ≠ 8) : ATr 35 P (wellT (n + 1)) t:=by
 intro W pp ln cl _
 by_cases hk : t.k = 0
 · have e0 : (t.k == 0) = true:=J69
   have HX : Hid (wellT (n + 1) t = decide (0 ≤ t.n)):=J104
   clear hk hk6 hk7 hk8
   exact K56
 have k0:=hk
 clear hk
 by_cases hk : t.k = 1
 · have e0 : (t.k == 0) = false:=J69
   have e1 : (t.k == 1) = true:=J69
   have HX : Hid (wellT (n + 1) t = decide (t.s.length ≤ 300)):=J104
   have HB : Hid ((bs t.s).size = t.s.length):=bs_size _
   generalize bs t.s = q at *
   clear hk hk6 hk7 hk8 k0
   go_enter func35,ntmps35
   go_wp2_with fail
   go_ret
   refine ⟨ret_bool ?_,xr.alloc _⟩
   rw [HX.out,← HB.out]
   simp
   omega
 have k1:=hk
 clear hk
 by_cases hk : t.k = 2
 · have e0 : (t.k == 0) = false:=J69
   have e1 : (t.k == 1) = false:=J69
   have e2 : (t.k == 2) = true:=J69
   have HX : Hid (wellT (n + 1) t = (t.n == 0 || t.n == 1)):=J104
   clear hk hk6 hk7 hk8 k0 k1
   cases hn : (t.n == 0)
   · rw [hn] at HX
     exact K56
   · rw [hn] at HX
     exact K56
 have k2:=hk
 clear hk
 by_cases hk : t.k = 3
 · have e0 : (t.k == 0) = false:=J69
   have e1 : (t.k == 1) = false:=J69
   have e2 : (t.k == 2) = false:=J69
   have e3 : (t.k == 3) = true:=J69
   have HX : Hid (wellT (n + 1) t = (decide (1 ≤ t.e) && decide (t.e ≤ 5))):=J104
   clear hk hk6 hk7 hk8 k0 k1 k2
   by_cases h1 : 1 ≤ t.e
   · have d1 : decide (1 ≤ t.e) = true:=J68
     rw [d1] at HX
     exact K56
   · have d1 : decide (1 ≤ t.e) = false:=J68
     rw [d1] at HX
     exact K56
 have k3:=hk
 clear hk
 by_cases hk : t.k = 4
 · have e0 : (t.k == 0) = false:=J69
   have e1 : (t.k == 1) = false:=J69
   have e2 : (t.k == 2) = false:=J69
   have e3 : (t.k == 3) = false:=J69
   have e4 : (t.k == 4) = true:=J69
   have HX : Hid (wellT (n + 1) t = inB t.r.1 t.r.2.1):=J104
   have c1:=fun W=>isIn_any t.r.1 t.r.2.1 t.r.2.2.1 t.r.2.2.2 W
   clear hk hk6 hk7 hk8 k0 k1 k2 k3
   go_enter func35,ntmps35
   go_wp2_with fail
   refine (c1 _).mono ?_
   exact K109
 have k4:=hk
 clear hk
 have HX : Hid (wellT (n + 1) t = false):=by show _ = _;unfold wellT;simp [k0,k1,k2,k3,k4,hk6,hk7,hk8]
 have e0 : (t.k == 0) = false:=by simpa using k0
 have e1 : (t.k == 1) = false:=by simpa using k1
 have e2 : (t.k == 2) = false:=by simpa using k2
 have e3 : (t.k == 3) = false:=by simpa using k3
 have e4 : (t.k == 4) = false:=by simpa using k4
 have e6 : (t.k == 6) = false:=by simpa using hk6
 have e7 : (t.k == 7) = false:=by simpa using hk7
 have e8 : (t.k == 8) = false:=by simpa using hk8
 clear hk6 hk7 hk8 k0 k1 k2 k3 k4
 exact K56
theorem well_neg (P : Nat → Prop) (n : Nat) (t : T) (hk : t.k = 6) (hl : t.l.length ≤ 100000) (hx : ∀ x ∈ t.l,ATr 35 P (wellT n) x) : ATr 35 P (wellT (n + 1)) t:=by
 intro W pp ln cl h
 have hln : t.l.length = ln:=by
   exact K130
 have e0 : (t.k == 0) = false:=J69
 have e1 : (t.k == 1) = false:=J69
 have e2 : (t.k == 2) = false:=J69
 have e3 : (t.k == 3) = false:=J69
 have e4 : (t.k == 4) = false:=J69
 have e6 : (t.k == 6) = true:=J69
 have HX : Hid (wellT (n + 1) t = (ln == 1 && t.l.all (wellT n))):=by show _ = _;unfold wellT;simp [hk,hln]
 have HC : Hid (∀ W',Ext W W' → Calls Tryz.prog 61 #[.slice pp ln cl,.func (.func 35) #[] #[]] W' fun e w'=>e = .returned (.bool (t.l.all (wellT n))) ∧ Ext W' w'):=fun W' e=>xall_any 35 P (wellT n) t.l pp ln cl W' hl (enters_of func35 J3 rfl) hx (h.ext e)
 clear hk hl hx h hln
 by_cases h1 : ln = 1
 · have d1 : ((ln : Int) == 1) = true:=by rw [h1];rfl
   have HY : Hid ((ln == 1) = true):=by show _ = _;rw [h1];rfl
   clear h1
   go_enter func35,ntmps35
   go_wp2_with fail
   refine (HC.out _ (xr.alloc _)).mono ?_
   rintro e w1 ⟨rfl,E1⟩
   have HE : Hid (Ext W w1):=(xr.alloc _).trans E1
   clear E1
   go_wp2_with fail
   go_ret
   exact ⟨ret_bool (by rw [HX.out,HY.out];rfl),HE.out⟩
 · have d1 : ((ln : Int) == 1) = false:=J7
   have HY : Hid ((ln == 1) = false):=by show _ = _;simpa using h1
   clear h1
   go_enter func35,ntmps35
   exact K157
theorem well_bin (P : Nat → Prop) (n : Nat) (t : T) (hk : t.k = 7) (hl : t.l.length ≤ 100000) (hx : ∀ x ∈ t.l,ATr 35 P (wellT n) x) : ATr 35 P (wellT (n + 1)) t:=by
 intro W pp ln cl h
 have hln : t.l.length = ln:=by
   exact K130
 have e0 : (t.k == 0) = false:=J69
 have e1 : (t.k == 1) = false:=J69
 have e2 : (t.k == 2) = false:=J69
 have e3 : (t.k == 3) = false:=J69
 have e4 : (t.k == 4) = false:=J69
 have e6 : (t.k == 6) = false:=J69
 have e7 : (t.k == 7) = true:=J69
 have HX : Hid (wellT (n + 1) t = (bnd t.s != 0 && ln == 2 && t.l.all (wellT n))):=by show _ = _;unfold wellT;simp [hk,hln]
 have HC : Hid (∀ W',Ext W W' → Calls Tryz.prog 61 #[.slice pp ln cl,.func (.func 35) #[] #[]] W' fun e w'=>e = .returned (.bool (t.l.all (wellT n))) ∧ Ext W' w'):=fun W' e=>xall_any 35 P (wellT n) t.l pp ln cl W' hl (enters_of func35 J3 rfl) hx (h.ext e)
 have cB:=fun W=>binds_any (bs t.s) W
 have es : (bs t.s).data.toList = t.s:=rfl
 rw [es] at cB
 obtain ⟨bb,hbb⟩ : ∃ bb,bnd t.s = bb:=⟨_,rfl⟩
 rw [hbb] at cB HX
 generalize bs t.s = q at *
 clear hk hl hx h hln es hbb
 by_cases h0 : bb = 0
 · have b1 : ((bb : Int) != 0) = false:=by rw [h0];rfl
   have HY : Hid ((bb != 0) = false):=by show _ = _;rw [h0];rfl
   clear h0
   go_enter func35,ntmps35
   go_wp2_with fail
   refine (cB _).mono ?_
   rintro e w1 ⟨rfl,rfl⟩
   exact K157
 have b1 : ((bb : Int) != 0) = true:=J7
 have HY0 : Hid ((bb != 0) = true):=by show _ = _;simpa using h0
 clear h0
 by_cases h1 : ln = 2
 · have d1 : ((ln : Int) == 2) = true:=by rw [h1];rfl
   have HY : Hid ((ln == 2) = true):=by show _ = _;rw [h1];rfl
   clear h1
   go_enter func35,ntmps35
   go_wp2_with fail
   refine (cB _).mono ?_
   rintro e w1 ⟨rfl,rfl⟩
   go_wp2_with fail
   refine (HC.out _ (xr.alloc _)).mono ?_
   rintro e w1 ⟨rfl,E1⟩
   have HE : Hid (Ext W w1):=(xr.alloc _).trans E1
   clear E1
   go_wp2_with fail
   go_ret
   exact ⟨ret_bool (by rw [HX.out,HY.out,HY0.out];rfl),HE.out⟩
 · have d1 : ((ln : Int) == 2) = false:=J7
   have HY : Hid ((ln == 2) = false):=by show _ = _;simpa using h1
   clear h1
   go_enter func35,ntmps35
   go_wp2_with fail
   refine (cB _).mono ?_
   rintro e w1 ⟨rfl,rfl⟩
   go_wp2_with fail
   go_ret
   exact ⟨ret_bool (by rw [HX.out,HY.out,HY0.out];rfl),xr.alloc _⟩
theorem well_call (P : Nat → Prop) (n : Nat) (t : T) (hk : t.k = 8) (hl : t.l.length ≤ 100000) (hx : ∀ x ∈ t.l,ATr 64 P (argT n) x) : ATr 35 P (wellT (n + 1)) t:=by
 intro W pp ln cl h
 have hln : t.l.length = ln:=by
   exact K130
 have e0 : (t.k == 0) = false:=J69
 have e1 : (t.k == 1) = false:=J69
 have e2 : (t.k == 2) = false:=J69
 have e3 : (t.k == 3) = false:=J69
 have e4 : (t.k == 4) = false:=J69
 have e6 : (t.k == 6) = false:=J69
 have e7 : (t.k == 7) = false:=J69
 have e8 : (t.k == 8) = true:=J69
 have HX : Hid (wellT (n + 1) t = ((kno t.s).isSome && decide (knA t.s ≤ ln) && decide ((ln : Int) ≤ knB t.s) && t.l.all (argT n))):=by show _ = _;unfold wellT;simp only [hk,hln];rfl
 have HC : Hid (∀ W',Ext W W' → Calls Tryz.prog 61 #[.slice pp ln cl,.func (.func 64) #[] #[]] W' fun e w'=>e = .returned (.bool (t.l.all (argT n))) ∧ Ext W' w'):=fun W' e=>xall_any 64 P (argT n) t.l pp ln cl W' hl (enters_of func64 J3 rfl) hx (h.ext e)
 have cK:=fun W=>known_any (bs t.s) W
 have es : (bs t.s).data.toList = t.s:=rfl
 rw [es] at cK
 obtain ⟨ka,hka⟩ : ∃ ka,knA t.s = ka:=⟨_,rfl⟩
 obtain ⟨kb,hkb⟩ : ∃ kb,knB t.s = kb:=⟨_,rfl⟩
 rw [hka,hkb] at cK HX
 generalize bs t.s = q at *
 clear hk hl hx h hln es hka hkb
 cases hs : (kno t.s).isSome
 · rw [hs] at cK HX
   clear hs
   exact K70
 rw [hs] at cK HX
 clear hs
 by_cases h1 : ka ≤ (ln : Int)
 · have d1 : decide (ka ≤ (ln : Int)) = true:=J68
   rw [d1] at HX
   by_cases h2 : (ln : Int) ≤ kb
   · have d2 : decide ((ln : Int) ≤ kb) = true:=by simpa using h2
     rw [d2] at HX
     go_enter func35,ntmps35
     go_wp2_with fail
     refine (cK _).mono ?_
     rintro e w1 ⟨rfl,rfl⟩
     go_wp2_with fail
     refine (HC.out _ (xr.alloc _)).mono ?_
     exact K115
   · have d2 : decide ((ln : Int) ≤ kb) = false:=by simpa using h2
     rw [d2] at HX
     exact K70
 · have d1 : decide (ka ≤ (ln : Int)) = false:=J68
   rw [d1] at HX
   exact K70
theorem well_any (P : Nat → Prop) (n : Nat) : ∀ t,Hr n t → ATr 35 P (wellT n) t:=by
 induction n with
 | zero=>intro t h;exact h.elim
 | succ n ih =>
   intro t h
   by_cases h6 : t.k = 6
   · exact well_neg P n t h6 h.1 (fun x hx=>ih x (h.2 x hx))
   by_cases h7 : t.k = 7
   · exact well_bin P n t h7 h.1 (fun x hx=>ih x (h.2 x hx))
   by_cases h8 : t.k = 8
   · exact well_call P n t h8 h.1 (fun x hx=>isArg_any P n x (ih x (h.2 x hx)))
   exact well_leaf P n t h6 h7 h8
theorem eexp_bad (pv : Value) (m : Nat) (t : T) (hH : Hr m t) (hw : wellT m t = false) (W : World) (pp : Option Addr) (ln cl : Nat) (hN : Nm W) (hI : IsL W (fun _=>True) (.slice pp ln cl) t.l) :
   Calls Tryz.prog 14 #[.agg #[.int .i64 t.k,.int .i64 t.n,.string (bs t.s),.int .i64 t.e,.int .i64 t.r.1,.int .i64 t.r.2.1,.bool t.r.2.2.1,.bool t.r.2.2.2,.int .i64 t.q.1,.int .i64 t.q.2.1,.bool t.q.2.2.1,.bool t.q.2.2.2,.slice pp ln cl],pv] W fun e w'=>e = .returned (.agg #[.int .i64 (V.err 2).k,.int .i64 (V.err 2).n,.string (V.err 2).s,.int .i64 (V.err 2).e]) ∧ Ext W w':=by
 have cW:=fun W' (e : Ext W W')=>well_any (fun _=>True) m t hH W' pp ln cl (hI.ext e)
 rw [hw] at cW
 have cA:=fun W' (e : Ext W W')=>err_any 2 W' (hN.ext e)
 rw [mkErr_is ⟨by decide,by decide⟩] at cA
 simp only [dat_eq] at cA
 generalize V.err 2 = v at *
 obtain ⟨vk,vn,vs,ve,q1,q2,q3,q4⟩ : ∃ vk vn vs ve,v.k = vk ∧ v.n = vn ∧ v.s = vs ∧ v.e = ve:=⟨_,_,_,_,rfl,rfl,rfl,rfl⟩
 rw [q1,q2,q3,q4] at cA ⊢
 clear q1 q2 q3 q4 v hI hH hw hN
 exact K27
theorem eexp_ok (b : Nat) (g : Option Nat) (n : Nat) (M : Bov) (hM : BdOk M) (m : Nat) (t : T) (hW : Wf t) (hH : Hr m t) (hw : wellT m t = true) (W : World) (pp : Option Addr) (ln cl : Nat) (hE : Ent W b g n M) (hI : IsL W (fun _=>True) (.slice pp ln cl) t.l) :
   Calls Tryz.prog 14 #[.agg #[.int .i64 t.k,.int .i64 t.n,.string (bs t.s),.int .i64 t.e,.int .i64 t.r.1,.int .i64 t.r.2.1,.bool t.r.2.2.1,.bool t.r.2.2.2,.int .i64 t.q.1,.int .i64 t.q.2.1,.bool t.q.2.2.1,.bool t.q.2.2.2,.slice pp ln cl],.pointer (some ⟨b,0,none⟩)] W fun e w'=>e = .returned (.agg #[.int .i64 (evT m M t).k,.int .i64 (evT m M t).n,.string (evT m M t).s,.int .i64 (evT m M t).e]) ∧ Ext W w':=by
 have cW:=fun W' (e : Ext W W')=>well_any (fun _=>True) m t hH W' pp ln cl (hI.ext e)
 rw [hw] at cW
 have cA:=fun W' (e : Ext W W')=>reckon_any b g n M hM m t hW hw W' pp ln cl (hE.ext e) (hI.ext e)
 generalize evT m M t = v at *
 obtain ⟨vk,vn,vs,ve,q1,q2,q3,q4⟩ : ∃ vk vn vs ve,v.k = vk ∧ v.n = vn ∧ v.s = vs ∧ v.e = ve:=⟨_,_,_,_,rfl,rfl,rfl,rfl⟩
 rw [q1,q2,q3,q4] at cA ⊢
 clear q1 q2 q3 q4 v hI hH hw hE hM hW
 exact K27
theorem eexp_nil (m : Nat) (t : T) (hW : Wf t) (hH : Hr m t) (hw : wellT m t = true) (W : World) (pp : Option Addr) (ln cl : Nat) (hN : Nm W) (hT : Tab W) (hI : IsL W (fun _=>True) (.slice pp ln cl) t.l) :
   Calls Tryz.prog 14 #[.agg #[.int .i64 t.k,.int .i64 t.n,.string (bs t.s),.int .i64 t.e,.int .i64 t.r.1,.int .i64 t.r.2.1,.bool t.r.2.2.1,.bool t.r.2.2.2,.int .i64 t.q.1,.int .i64 t.q.2.1,.bool t.q.2.2.1,.bool t.q.2.2.2,.slice pp ln cl],.pointer none] W fun e w'=>e = .returned (.agg #[.int .i64 (evT m bz t).k,.int .i64 (evT m bz t).n,.string (evT m bz t).s,.int .i64 (evT m bz t).e]) ∧ Ext W w':=by
 have cW:=fun W' (e : Ext W W')=>well_any (fun _=>True) m t hH W' pp ln cl (hI.ext e)
 rw [hw] at cW
 have cN:=fun W'=>new_any W'
 have cA:=fun W' b (hb : Brd W' b none 0 bz) (e : Ext W W')=>reckon_any b none 0 bz bz_ok m t hW hw W' pp ln cl ⟨hb,hN.ext e,hT.ext e⟩ (hI.ext e)
 generalize evT m bz t = v at *
 obtain ⟨vk,vn,vs,ve,q1,q2,q3,q4⟩ : ∃ vk vn vs ve,v.k = vk ∧ v.n = vn ∧ v.s = vs ∧ v.e = ve:=⟨_,_,_,_,rfl,rfl,rfl,rfl⟩
 rw [q1,q2,q3,q4] at cA ⊢
 clear q1 q2 q3 q4 v hI hH hw hN hT hW
 go_enter func14,ntmps14
 go_wp2_with fail
 refine (cW _ ((xr.alloc _).alloc _)).mono ?_
 rintro e w1 ⟨rfl,E1⟩
 have X1 : Hid (Ext W w1):=((xr.alloc _).alloc _).trans E1
 have D1:=blk_top (b:=W.heap.size + 1) J58 E1
 have F1 : Hid (Blk13 w1 W.heap.size (.int .i64 t.k) (.int .i64 t.n) (.string (bs t.s)) (.int .i64 t.e) (.int .i64 t.r.1) (.int .i64 t.r.2.1) (.bool t.r.2.2.1) (.bool t.r.2.2.2) (.int .i64 t.q.1) (.int .i64 t.q.2.1) (.bool t.q.2.2.1) (.bool t.q.2.2.2) (.slice pp ln cl)):=(Blk13.al _ (blk13_top rfl xr)).ext E1
 obtain ⟨_,⟨a0,a1,a2,a3,a4,a5,a6,a7,a8,a9,a10,a11,a12⟩,_⟩:=F1.out
 clear E1 cW
 go_wp2_with fail
 refine (cN _).mono ?_
 rintro e w4 ⟨rfl,hb4,E4⟩
 have X4 : Hid (Ext W w4):=X1.out.trans E4
 have D4:=D1.ext E4
 obtain ⟨_,⟨c0,c1,c2,c3,c4,c5,c6,c7,c8,c9,c10,c11,c12⟩,_⟩:=F1.out.ext E4
 have HB : Hid (Brd w4 w1.heap.size none 0 bz):=hb4
 clear E4 a0 a1 a2 a3 a4 a5 a6 a7 a8 a9 a10 a11 a12 D1 cN hb4
 go_wp2_with fail
 refine (cA _ _ HB.out X4.out).mono ?_
 rintro e w2 ⟨rfl,E2⟩
 have X2 : Hid (Ext W w2):=X4.out.trans E2
 have D:=D4.ext E2
 have D':=D
 obtain ⟨b0z,⟨b0_0,b0_1,b0_2,b0_3⟩,b0f0,b0f1,b0f2,b0f3⟩:=D'
 clear E2 cA
 go_wp2_with fail
 exact finB ((D.set _ _ _ _)) rfl ((((X2.out.setCell J58 _).setCell J58 _).setCell J58 _).setCell J58 _) J42 (fun h=>⟨rfl,h⟩)
theorem exp_any (b : Nat) (g : Option Nat) (n : Nat) (M : Bov) (hM : BdOk M) (m : Nat) (t : T) (hW : Wf t) (hH : Hr m t) (W : World) (pp : Option Addr) (ln cl : Nat) (hE : Ent W b g n M) (hI : IsL W (fun _=>True) (.slice pp ln cl) t.l) :
   Calls Tryz.prog 14 #[.agg #[.int .i64 t.k,.int .i64 t.n,.string (bs t.s),.int .i64 t.e,.int .i64 t.r.1,.int .i64 t.r.2.1,.bool t.r.2.2.1,.bool t.r.2.2.2,.int .i64 t.q.1,.int .i64 t.q.2.1,.bool t.q.2.2.1,.bool t.q.2.2.2,.slice pp ln cl],.pointer (some ⟨b,0,none⟩)] W fun e w'=>e = .returned (.agg #[.int .i64 (expV m M t).k,.int .i64 (expV m M t).n,.string (expV m M t).s,.int .i64 (expV m M t).e]) ∧ Ext W w':=by
 unfold expV
 cases hw : wellT m t with
 | true=>exact eexp_ok b g n M hM m t hW hH hw W pp ln cl hE hI
 | false=>exact eexp_bad _ m t hH hw W pp ln cl hE.n hI
def LvK (o : Rd) (k : Nat) : Rd:=if k = 1 then frm o else if k = 2 then lv (lv (lv o 4) 3) 2 else if k = 3 then lv (lv o 4) 3 else if k = 4 then lv o 4 else o
theorem LvK_step (o : Rd) (k : Nat) (h1 : 1 ≤ k) (h4 : k ≤ 4) : LvK o k = lv (LvK o (k + 1)) k:=by
 have hh : k = 1 ∨ k = 2 ∨ k = 3 ∨ k = 4:=J2
 rcases hh with rfl | rfl | rfl | rfl <;> rfl
theorem LvK_top (o : Rd) (k : Nat) (h : 5 ≤ k) : LvK o k = o:=by
 unfold LvK
 rw [if_neg J2,if_neg J2,if_neg J2,if_neg J2]
theorem bnd_le4 (s : List UInt8) : bnd s ≤ 4:=by unfold bnd;repeat (first | (split;· omega) | omega)
def cl (o : Rd) (d : Nat) : Nat → Nat → T → List Tk → Rs
 | 0,_,x,ts=>.ok (x,ts)
 | f + 1,k,x,ts=>if (hd ts).1 = 3 ∧ k ≤ bnd (hd ts).2.2.1 then (match LvK o (bnd (hd ts).2.2.1 + 1) d ts.tail with
   | .error e=>.error e
   | .ok (y,ts2)=>cl o d f k (tBin (hd ts).2.2.1 x y) ts2) else .ok (x,ts)
theorem LvK_sh {n : Nat} {o : Rd} (ho : ShF n o) (k : Nat) : ShF n (LvK o k):=by
 unfold LvK
 split
 · exact frm_sh ho
 · split
   · exact lv_sh (lv_sh (lv_sh ho 4) 3) 2
   · split
     · exact lv_sh (lv_sh ho 4) 3
     · split
       · exact lv_sh ho 4
       · exact ho
theorem tk1_ok {d : Nat} (hd4 : d ≤ 40) (ts : List Tk) : tk1 d ts = .ok ts.tail:=by unfold tk1;rw [if_neg J2]
theorem tail_sh {ts : List Tk} (h : Nz ts) (h3 : (hd ts).1 = 3) : Nz ts.tail ∧ ts.tail.length + 1 = ts.length:=h.tail (by rw [h3];decide)
theorem lp_fuel {n : Nat} {F : Rd} (hF : ShF n F) (k d : Nat) : ∀ (f g : Nat) (x : T) (ts : List Tk),Nz ts → ts.length ≤ n → ts.length ≤ f → ts.length ≤ g → lp F k d f x ts = lp F k d g x ts:=by
 intro f
 induction f with
 | zero=>intro g x ts h _ h1 _;have:=h.pos;omega
 | succ f ih =>
   intro g x ts h hn h1 h2
   cases g with
   | zero=>have:=h.pos;omega
   | succ g =>
     unfold lp
     split
     · rename_i hk
       cases ht : tk1 d ts with
       | error e=>rfl
       | ok ts1 =>
         have s1:=tk1_sh h (by rw [hk.1];decide) ht
         show (match F d ts1 with | .error e=>(.error e : Rs) | .ok (y,ts2)=>lp F k d f (tBin (hd ts).2.2.1 x y) ts2) = (match F d ts1 with | .error e=>(.error e : Rs) | .ok (y,ts2)=>lp F k d g (tBin (hd ts).2.2.1 x y) ts2)
         cases hr : F d ts1 with
         | error e=>rfl
         | ok p =>
           obtain ⟨y,ts2⟩:=p
           have s2:=hF d ts1 s1.1 (by have:=s1.2;omega) y ts2 hr
           have a1:=s1.2
           have a2:=s2.2
           exact ih g _ ts2 s2.1 J2 J2 J2
     · rfl
theorem cl_fuel {n : Nat} {o : Rd} (ho : ShF n o) (k d : Nat) : ∀ (f g : Nat) (x : T) (ts : List Tk),Nz ts → ts.length ≤ n → ts.length ≤ f → ts.length ≤ g → cl o d f k x ts = cl o d g k x ts:=by
 intro f
 induction f with
 | zero=>intro g x ts h _ h1 _;have:=h.pos;omega
 | succ f ih =>
   intro g x ts h hn h1 h2
   cases g with
   | zero=>have:=h.pos;omega
   | succ g =>
     unfold cl
     split
     · rename_i hk
       have s1:=tail_sh h hk.1
       cases hr : LvK o (bnd (hd ts).2.2.1 + 1) d ts.tail with
       | error e=>rfl
       | ok p =>
         obtain ⟨y,ts2⟩:=p
         have s2:=LvK_sh ho _ d ts.tail s1.1 J2 y ts2 hr
         have a2:=s2.2
         exact ih g _ ts2 s2.1 J2 J2 J2
     · rfl
theorem cl_stop {n : Nat} {o : Rd} (ho : ShF n o) (k d : Nat) : ∀ (f : Nat) (x y : T) (ts ts' : List Tk),Nz ts → ts.length ≤ n → ts.length ≤ f → cl o d f k x ts = .ok (y,ts') → ¬ ((hd ts').1 = 3 ∧ k ≤ bnd (hd ts').2.2.1):=by
 intro f
 induction f with
 | zero=>intro x y ts ts' h _ h1 _;have:=h.pos;omega
 | succ f ih =>
   intro x y ts ts' h hn h1 e
   unfold cl at e
   split at e
   · rename_i hk
     have s1:=tail_sh h hk.1
     split at e
     · cases e
     · rename_i z ts2 hr
       have s2:=LvK_sh ho _ d ts.tail s1.1 J2 z ts2 hr
       have a2:=s2.2
       exact ih _ _ ts2 ts' s2.1 J2 J2 e
   · rename_i hk
     cases e;exact hk
def thenR (r : Rs) (g : T → List Tk → Rs) : Rs:=match r with
 | .error e=>.error e
 | .ok (x,ts)=>g x ts
def Clm (o : Rd) (n d k : Nat) : Prop:=∀ ts,Nz ts → ts.length ≤ n → LvK o k d ts = thenR (o d ts) (fun x ts1=>cl o d ts1.length k x ts1)
theorem clm_bind {n d k : Nat} {o : Rd} (ho : ShF n o) (hd4 : d ≤ 40) (hC : Clm o n d (k + 1)) : ∀ (f : Nat) (x : T) (ts : List Tk),Nz ts → ts.length ≤ n → ts.length ≤ f →
   thenR (cl o d f (k + 1) x ts) (fun x' ts'=>lp (LvK o (k + 1)) k d ts'.length x' ts') = cl o d f k x ts:=by
 intro f
 induction f with
 | zero=>intro x ts h _ h1 ;have:=h.pos;omega
 | succ f ih =>
   intro x ts h hn hf
   by_cases h3 : (hd ts).1 = 3
   · have s1:=tail_sh h h3
     by_cases hb : k + 1 ≤ bnd (hd ts).2.2.1
     · rw [cl,cl,if_pos ⟨h3,hb⟩,if_pos ⟨h3,by omega⟩]
       cases hr : LvK o (bnd (hd ts).2.2.1 + 1) d ts.tail with
       | error e=>rfl
       | ok p =>
         obtain ⟨y,ts2⟩:=p
         have s2:=LvK_sh ho _ d ts.tail s1.1 J2 y ts2 hr
         have a2:=s2.2
         exact ih _ ts2 s2.1 J2 J2
     · by_cases hk : bnd (hd ts).2.2.1 = k
       · rw [cl,cl,if_neg (by rintro ⟨_,h⟩;omega),if_pos ⟨h3,by omega⟩]
         show lp (LvK o (k + 1)) k d ts.length x ts = _
         obtain ⟨g,hg⟩ : ∃ g,ts.length = g + 1:=⟨ts.length - 1,by omega⟩
         rw [hg,lp,if_pos ⟨h3,hk⟩,tk1_ok hd4,hk]
         show (match LvK o (k + 1) d ts.tail with | .error e=>(.error e : Rs) | .ok (y,ts2)=>lp (LvK o (k + 1)) k d g (tBin (hd ts).2.2.1 x y) ts2) = _
         cases hr : LvK o (k + 1) d ts.tail with
         | error e=>rfl
         | ok p =>
           obtain ⟨y,ts2⟩:=p
           have s2:=LvK_sh ho _ d ts.tail s1.1 J2 y ts2 hr
           have a2:=s2.2
           show lp (LvK o (k + 1)) k d g (tBin (hd ts).2.2.1 x y) ts2 = cl o d f k (tBin (hd ts).2.2.1 x y) ts2
           rw [← ih _ ts2 s2.1 J2 J2]
           have hstop : ¬ ((hd ts2).1 = 3 ∧ k + 1 ≤ bnd (hd ts2).2.2.1):=by
             rw [hC ts.tail s1.1 J2] at hr
             cases ho1 : o d ts.tail with
             | error e=>rw [ho1] at hr;cases hr
             | ok q =>
               obtain ⟨z,ts3⟩:=q
               rw [ho1] at hr
               have s3:=ho d ts.tail s1.1 J2 z ts3 ho1
               have a3:=s3.2
               exact cl_stop ho (k + 1) d _ _ _ ts3 ts2 s3.1 J2 nrf hr
           have hcl : cl o d f (k + 1) (tBin (hd ts).2.2.1 x y) ts2 = .ok (tBin (hd ts).2.2.1 x y,ts2):=by
             cases f with
             | zero=>rfl
             | succ f=>rw [cl,if_neg hstop]
           rw [hcl]
           exact lp_fuel (LvK_sh ho _) k d g ts2.length _ ts2 s2.1 J2 J2 nrf
       · rw [cl,cl,if_neg (by rintro ⟨_,h⟩;omega),if_neg (by rintro ⟨_,h⟩;omega)]
         show lp (LvK o (k + 1)) k d ts.length x ts = _
         obtain ⟨g,hg⟩ : ∃ g,ts.length = g + 1:=⟨ts.length - 1,by omega⟩
         rw [hg,lp,if_neg (by rintro ⟨_,h⟩;exact hk h)]
   · rw [cl,cl,if_neg (by rintro ⟨h,_⟩;exact h3 h),if_neg (by rintro ⟨h,_⟩;exact h3 h)]
     show lp (LvK o (k + 1)) k d ts.length x ts = _
     obtain ⟨g,hg⟩ : ∃ g,ts.length = g + 1:=⟨ts.length - 1,by have:=h.pos;omega⟩
     rw [hg,lp,if_neg (by rintro ⟨h,_⟩;exact h3 h)]
theorem clm5 (o : Rd) (n d : Nat) (ho : ShF n o) : Clm o n d 5:=by
 intro ts h hn
 rw [LvK_top o 5 J2]
 cases ho1 : o d ts with
 | error e=>rfl
 | ok q =>
   obtain ⟨z,ts3⟩:=q
   have s3:=ho d ts h hn z ts3 ho1
   show _ = cl o d ts3.length 5 z ts3
   obtain ⟨g,hg⟩ : ∃ g,ts3.length = g + 1:=⟨ts3.length - 1,by have:=s3.1.pos;omega⟩
   rw [hg,cl,if_neg (by rintro ⟨_,h⟩;have:=bnd_le4 (hd ts3).2.2.1;omega)]
theorem clm_down {n d k : Nat} {o : Rd} (ho : ShF n o) (hd4 : d ≤ 40) (h1 : 1 ≤ k) (h4 : k ≤ 4) (hC : Clm o n d (k + 1)) : Clm o n d k:=by
 intro ts h hn
 rw [LvK_step o k h1 h4]
 unfold lv
 rw [hC ts h hn]
 cases ho1 : o d ts with
 | error e=>rfl
 | ok q =>
   obtain ⟨z,ts3⟩:=q
   have s3:=ho d ts h hn z ts3 ho1
   have a3:=s3.2
   show (match cl o d ts3.length (k + 1) z ts3 with | .error e=>(.error e : Rs) | .ok (x,ts1)=>lp (LvK o (k + 1)) k d ts1.length x ts1) = cl o d ts3.length k z ts3
   exact clm_bind ho hd4 hC ts3.length z ts3 s3.1 J2 nrf
theorem clm_all {n d : Nat} {o : Rd} (ho : ShF n o) (hd4 : d ≤ 40) (k : Nat) (h1 : 1 ≤ k) (h5 : k ≤ 5) : Clm o n d k:=by
 have c5:=clm5 o n d ho
 have c4:=clm_down ho hd4 J9 J9 c5
 have c3:=clm_down ho hd4 J9 J9 c4
 have c2:=clm_down ho hd4 J9 J9 c3
 have c1:=clm_down ho hd4 J9 J9 c2
 have hh : k = 1 ∨ k = 2 ∨ k = 3 ∨ k = 4 ∨ k = 5:=J2
 rcases hh with rfl | rfl | rfl | rfl | rfl <;> assumption
theorem O_deep (n d : Nat) (h : 40 < d) (ts : List Tk) : ∃ e,O n d ts = .error e:=by
 have ht : ∀ ts,tk1 d ts = .error (ft ts true):=fun ts=>if_pos h
 cases n with
 | zero=>exact ⟨_,rfl⟩
 | succ n =>
   show ∃ e,opn (frm (O n)) (O n) d ts = .error e
   unfold opn
   split
   · rw [ht];exact ⟨_,rfl⟩
   · unfold smp one
     rw [ht]
     split
     · exact ⟨_,rfl⟩
     · split
       · exact ⟨_,rfl⟩
       · split
         · exact ⟨_,rfl⟩
         · split
           · unfold wrd one
             rw [ht]
             split
             · exact ⟨_,rfl⟩
             · split
               · exact ⟨_,rfl⟩
               · split
                 · exact ⟨_,rfl⟩
                 · have hr : ∃ e,refr d ts = .error e:=by
                     unfold refr
                     rw [ht]
                     split <;> exact ⟨_,rfl⟩
                   obtain ⟨e,he⟩:=hr
                   rw [he];exact ⟨_,rfl⟩
           · have hr : ∃ e,pass1 [40] d ts = .error e:=by
               unfold pass1
               rw [ht]
               split <;> exact ⟨_,rfl⟩
             obtain ⟨e,he⟩:=hr
             unfold brk
             rw [he];exact ⟨_,rfl⟩
theorem LvK_deep (n d k : Nat) (h : 40 < d) (ts : List Tk) : ∃ e,LvK (O n) k d ts = .error e:=by
 have one : ∀ (F : Rd) (j : Nat),(∀ ts,∃ e,F d ts = .error e) → ∀ ts,∃ e,lv F j d ts = .error e:=by
   intro F j hF ts
   obtain ⟨e,he⟩:=hF ts
   exact ⟨e,by unfold lv;rw [he]⟩
 have o0:=O_deep n d h
 unfold LvK
 split
 · exact one _ _ (one _ _ (one _ _ (one _ _ o0))) ts
 · split
   · exact one _ _ (one _ _ (one _ _ o0)) ts
   · split
     · exact one _ _ (one _ _ o0) ts
     · split
       · exact one _ _ o0 ts
       · exact o0 ts
end Go.Proofs.YtcfgbiaahangmaaGreatDoor

import Derived.Test.YtcfgbiaahangmaaGreatDoorT21
import Derived.Test.YtcfgbiaahangmaaGreatDoorT17
set_option maxHeartbeats 6000000
set_option maxRecDepth 100000
namespace Go.Proofs.YtcfgbiaahangmaaGreatDoor
open Go.Proofs.Tryz
open Go.RowKit
theorem isIn_any (r0 r1 : Int) (r2 r3 : Bool) (w : World) : Calls Tryz.prog 60 #[.agg #[.int .i64 r0,.int .i64 r1,.bool r2,.bool r3]] w fun e w'=>e = .returned (.bool (inB r0 r1)) ∧ Ext w w':=by
 have c1:=fun W=>in_any r0 r1 W
 go_enter func60,ntmps60
 go_wp2_with fail
 refine (c1 _).mono ?_
 rintro e w1 ⟨rfl,rfl⟩
 go_wp2_with fail
 go_ret
 exact ⟨rfl,xr.alloc _⟩
theorem allx_take {l : List T} {g : T → Bool} {j : Nat} {x : T} (h : l[j]? = some x) : (l.take (j + 1)).all g = ((l.take j).all g && g x):=by
 rw [List.take_add_one,h,List.all_append];simp
theorem xall_any (K : FuncId) (P : Nat → Prop) (g : T → Bool) (l : List T) (pp : Option Addr) (ln cl : Nat) (w : World) (hl : l.length ≤ 100000) (hent : ∀ args W,(callFunc K args).run Tryz.prog W = .ok (.enter K args) W) (hx : ∀ x ∈ l,ATr K P g x) (h : IsL w P (.slice pp ln cl) l) :
   Calls Tryz.prog 61 #[.slice pp ln cl,.func (.func K) #[] #[]] w fun e w'=>e = .returned (.bool (l.all g)) ∧ Ext w w':=by
 have hln : ln = l.length:=by
   exact K131
 have HX : Hid (∀ x ∈ l,ATr K P g x):=hx
 have HI : Hid (IsL w P (.slice pp ln cl) l):=h
 have HLN : Hid (ln = l.length):=hln
 have hl2 : ln ≤ 100000:=J2
 clear hx h hln hl
 go_enter func61,ntmps61
 go_wp2_with fail
 go_loopw [6,9] (fun _ i wr=>∃ j : Nat,j ≤ ln ∧ i = .int .i64 (j : Int) ∧ (l.take j).all g = true ∧ Ext w wr) (fun _ i _=>ln - (intOf i).toNat)
 case atStart=>exact ⟨0,Nat.zero_le _,rfl,rfl,Ext.refl _⟩
 case round =>
   obtain ⟨j,hj,rfl,hg,hE⟩:=hrel
   have HE : Hid (Ext w wr ∧ (l.take j).all g = true):=⟨hE,hg⟩
   clear hE hg
   by_cases hlt : j < ln
   · have hltI : (j : Int) < (ln : Int):=J2
     have hI:=HI.out.ext HE.out.1
     obtain ⟨gb,off,x,lv,hpp,hx1,hA1,hgb,hA2,hLx,hce⟩:=hI.at (i:=j) (by rw [← HLN.out];exact hlt)
     clear hA1 hA2
     subst hpp
     obtain ⟨pp,cl',hlv,hcl⟩:=hLx.form
     obtain ⟨ln',hln'⟩ : ∃ ln',x.l.length = ln':=⟨_,rfl⟩
     rw [hln'] at hlv
     subst hlv
     have HX1 : Hid (l[j]? = some x):=hx1
     have HC : Hid (Calls Tryz.prog K #[.agg #[.int .i64 x.k,.int .i64 x.n,.string (bs x.s),.int .i64 x.e,.int .i64 x.r.1,.int .i64 x.r.2.1,.bool x.r.2.2.1,.bool x.r.2.2.2,.int .i64 x.q.1,.int .i64 x.q.2.1,.bool x.q.2.2.1,.bool x.q.2.2.2,.slice pp ln' cl']] (wr.alloc (.cells #[.int .i64 x.k,.int .i64 x.n,.string (bs x.s),.int .i64 x.e,.int .i64 x.r.1,.int .i64 x.r.2.1,.bool x.r.2.2.1,.bool x.r.2.2.2,.int .i64 x.q.1,.int .i64 x.q.2.1,.bool x.q.2.2.1,.bool x.q.2.2.2,.slice pp ln' cl'] 43)) fun e w'=>e = .returned (.bool (g x)) ∧ Ext (wr.alloc (.cells #[.int .i64 x.k,.int .i64 x.n,.string (bs x.s),.int .i64 x.e,.int .i64 x.r.1,.int .i64 x.r.2.1,.bool x.r.2.2.1,.bool x.r.2.2.2,.int .i64 x.q.1,.int .i64 x.q.2.1,.bool x.q.2.2.1,.bool x.q.2.2.2,.slice pp ln' cl'] 43)) w'):=HX.out x (List.mem_of_getElem? hx1) _ pp ln' cl' (hLx.ext (xr.alloc _))
     have e0 : wr.cell? ⟨gb,off + j * 13,none⟩ = some (.int .i64 x.k):=hce 0 _ rfl
     have e1 : wr.cell? ⟨gb,off + j * 13 + 1,none⟩ = some (.int .i64 x.n):=hce 1 _ rfl
     have e2 : wr.cell? ⟨gb,off + j * 13 + 2,none⟩ = some (.string (bs x.s)):=hce 2 _ rfl
     have e3 : wr.cell? ⟨gb,off + j * 13 + 3,none⟩ = some (.int .i64 x.e):=hce 3 _ rfl
     have e4 : wr.cell? ⟨gb,off + j * 13 + 4,none⟩ = some (.int .i64 x.r.1):=hce 4 _ rfl
     have e5 : wr.cell? ⟨gb,off + j * 13 + 5,none⟩ = some (.int .i64 x.r.2.1):=hce 5 _ rfl
     have e6 : wr.cell? ⟨gb,off + j * 13 + 6,none⟩ = some (.bool x.r.2.2.1):=hce 6 _ rfl
     have e7 : wr.cell? ⟨gb,off + j * 13 + 7,none⟩ = some (.bool x.r.2.2.2):=hce 7 _ rfl
     have e8 : wr.cell? ⟨gb,off + j * 13 + 8,none⟩ = some (.int .i64 x.q.1):=hce 8 _ rfl
     have e9 : wr.cell? ⟨gb,off + j * 13 + 9,none⟩ = some (.int .i64 x.q.2.1):=hce 9 _ rfl
     have e10 : wr.cell? ⟨gb,off + j * 13 + 10,none⟩ = some (.bool x.q.2.2.1):=hce 10 _ rfl
     have e11 : wr.cell? ⟨gb,off + j * 13 + 11,none⟩ = some (.bool x.q.2.2.2):=hce 11 _ rfl
     have e12 : wr.cell? ⟨gb,off + j * 13 + 12,none⟩ = some (.slice pp ln' cl'):=hce 12 _ rfl
     clear hI hx1 hLx hce hcl hln'
     go_wp2_with fail
     refine HC.out.mono ?_
     rintro e w1 ⟨rfl,E1⟩
     have HE1 : Hid (Ext w w1):=(HE.out.1.alloc _).trans E1
     clear E1 e0 e1 e2 e3 e4 e5 e6 e7 e8 e9 e10 e11 e12
     cases hgx : g x
     · have HR : Hid (l.all g = false):=by
         show _ = _
         rw [List.all_eq_false]
         exact ⟨x,List.mem_of_getElem? HX1.out,by rw [hgx];simp⟩
       clear hgx
       go_wp2_with fail
       go_ret
       exact ⟨ret_bool HR.out.symm,HE1.out⟩
     · have HR : Hid ((l.take (j + 1)).all g = true):=by show _ = _;rw [allx_take HX1.out,HE.out.2,hgx];rfl
       clear hgx
       go_wp2_with fail
       go_roundw
       case rel=>exact ⟨j + 1,by omega,by go_num,HR.out,HE1.out⟩
       case measure=>show ln - ((j : Int) + 1).toNat < ln - ((j : Int)).toNat;omega
   · have hltI : ¬ (j : Int) < (ln : Int):=J2
     have HR : Hid (l.all g = true):=by
       show _ = _
       have:=HE.out.2
       rw [List.take_of_length_le (by have:=HLN.out;omega)] at this
       exact this
     go_wp2_with fail
     go_ret
     exact ⟨ret_bool HR.out.symm,HE.out.1⟩
theorem isArg_any (P : Nat → Prop) (n : Nat) (t : T) (hw : ATr 35 P (wellT n) t) : ATr 64 P (argT n) t:=by
 intro W pp ln cl h
 by_cases k5 : t.k = 5
 · have e5 : (t.k == 5) = true:=by rw [k5];rfl
   have HX : Hid (argT n t = (inB t.r.1 t.r.2.1 && inB t.q.1 t.q.2.1)):=by show _ = _;unfold argT;rw [if_pos k5]
   have c1:=fun W=>isIn_any t.r.1 t.r.2.1 t.r.2.2.1 t.r.2.2.2 W
   have c2:=fun W=>isIn_any t.q.1 t.q.2.1 t.q.2.2.1 t.q.2.2.2 W
   clear k5 hw h
   cases h1 : inB t.r.1 t.r.2.1
   · rw [h1] at c1 HX
     clear h1
     go_enter func64,ntmps64
     go_wp2_with fail
     refine (c1 _).mono ?_
     exact K116
   · rw [h1] at c1 HX
     clear h1
     go_enter func64,ntmps64
     go_wp2_with fail
     refine (c1 _).mono ?_
     rintro e w1 ⟨rfl,E1⟩
     have HE : Hid (Ext W w1):=(xr.alloc _).trans E1
     have hB:=blk13_top rfl E1
     obtain ⟨q0,⟨l0,l1,l2,l3,l4,l5,l6,l7,l8,l9,l10,l11,l12⟩,gg⟩:=hB
     clear E1 gg
     go_wp2_with fail
     refine (c2 _).mono ?_
     rintro e w2 ⟨rfl,E2⟩
     have HE2 : Hid (Ext W w2):=HE.out.trans E2
     clear E2
     go_wp2_with fail
     go_ret
     exact ⟨ret_bool J46,HE2.out⟩
 · have e5 : (t.k == 5) = false:=by simpa using k5
   have HX : Hid (argT n t = wellT n t):=by show _ = _;unfold argT;rw [if_neg k5]
   have HW : Hid (∀ W',Ext W W' → Calls Tryz.prog 35 #[.agg #[.int .i64 t.k,.int .i64 t.n,.string (bs t.s),.int .i64 t.e,.int .i64 t.r.1,.int .i64 t.r.2.1,.bool t.r.2.2.1,.bool t.r.2.2.2,.int .i64 t.q.1,.int .i64 t.q.2.1,.bool t.q.2.2.1,.bool t.q.2.2.2,.slice pp ln cl]] W' fun e w'=>e = .returned (.bool (wellT n t)) ∧ Ext W' w'):=fun W' e=>hw W' pp ln cl (h.ext e)
   clear k5 hw h
   go_enter func64,ntmps64
   go_wp2_with fail
   refine (HW.out _ (xr.alloc _)).mono ?_
   exact K109
theorem well_leaf (P : Nat → Prop) (n : Nat) (t : T) (hk6 : t.k ≠ 6) (hk7 : t.k ≠ 7) (hk8 : t.k ≠ 8) : ATr 35 P (wellT (n + 1)) t:=by
 intro W pp ln cl _
 by_cases hk : t.k = 0
 · have e0 : (t.k == 0) = true:=J71
   have HX : Hid (wellT (n + 1) t = decide (0 ≤ t.n)):=J88
   clear hk hk6 hk7 hk8
   exact K55
 have k0:=hk
 clear hk
 by_cases hk : t.k = 1
 · have e0 : (t.k == 0) = false:=J71
   have e1 : (t.k == 1) = true:=J71
   have HX : Hid (wellT (n + 1) t = decide (t.s.length ≤ 300)):=J88
   have HB : Hid ((bs t.s).size = t.s.length):=bs_size _
   generalize bs t.s = q at *
   clear hk hk6 hk7 hk8 k0
   go_enter func35,ntmps35
   go_wp2_with fail
   go_ret
   refine ⟨ret_bool ?_,xr.alloc _⟩
   rw [HX.out,← HB.out]
   simp
   omega
 have k1:=hk
 clear hk
 by_cases hk : t.k = 2
 · have e0 : (t.k == 0) = false:=J71
   have e1 : (t.k == 1) = false:=J71
   have e2 : (t.k == 2) = true:=J71
   have HX : Hid (wellT (n + 1) t = (t.n == 0 || t.n == 1)):=J88
   clear hk hk6 hk7 hk8 k0 k1
   cases hn : (t.n == 0)
   · rw [hn] at HX
     exact K55
   · rw [hn] at HX
     exact K55
 have k2:=hk
 clear hk
 by_cases hk : t.k = 3
 · have e0 : (t.k == 0) = false:=J71
   have e1 : (t.k == 1) = false:=J71
   have e2 : (t.k == 2) = false:=J71
   have e3 : (t.k == 3) = true:=J71
   have HX : Hid (wellT (n + 1) t = (decide (1 ≤ t.e) && decide (t.e ≤ 5))):=J88
   clear hk hk6 hk7 hk8 k0 k1 k2
   by_cases h1 : 1 ≤ t.e
   · have d1 : decide (1 ≤ t.e) = true:=J70
     rw [d1] at HX
     exact K55
   · have d1 : decide (1 ≤ t.e) = false:=J70
     rw [d1] at HX
     exact K55
 have k3:=hk
 clear hk
 by_cases hk : t.k = 4
 · have e0 : (t.k == 0) = false:=J71
   have e1 : (t.k == 1) = false:=J71
   have e2 : (t.k == 2) = false:=J71
   have e3 : (t.k == 3) = false:=J71
   have e4 : (t.k == 4) = true:=J71
   have HX : Hid (wellT (n + 1) t = inB t.r.1 t.r.2.1):=J88
   have c1:=fun W=>isIn_any t.r.1 t.r.2.1 t.r.2.2.1 t.r.2.2.2 W
   clear hk hk6 hk7 hk8 k0 k1 k2 k3
   go_enter func35,ntmps35
   go_wp2_with fail
   refine (c1 _).mono ?_
   exact K109
 have k4:=hk
 clear hk
 have HX : Hid (wellT (n + 1) t = false):=by show _ = _;unfold wellT;simp [k0,k1,k2,k3,k4,hk6,hk7,hk8]
 have e0 : (t.k == 0) = false:=by simpa using k0
 have e1 : (t.k == 1) = false:=by simpa using k1
 have e2 : (t.k == 2) = false:=by simpa using k2
 have e3 : (t.k == 3) = false:=by simpa using k3
 have e4 : (t.k == 4) = false:=by simpa using k4
 have e6 : (t.k == 6) = false:=by simpa using hk6
 have e7 : (t.k == 7) = false:=by simpa using hk7
 have e8 : (t.k == 8) = false:=by simpa using hk8
 clear hk6 hk7 hk8 k0 k1 k2 k3 k4
 exact K55
theorem well_neg (P : Nat → Prop) (n : Nat) (t : T) (hk : t.k = 6) (hl : t.l.length ≤ 100000) (hx : ∀ x ∈ t.l,ATr 35 P (wellT n) x) : ATr 35 P (wellT (n + 1)) t:=by
 intro W pp ln cl h
 have hln : t.l.length = ln:=by
   exact K131
 have e0 : (t.k == 0) = false:=J71
 have e1 : (t.k == 1) = false:=J71
 have e2 : (t.k == 2) = false:=J71
 have e3 : (t.k == 3) = false:=J71
 have e4 : (t.k == 4) = false:=J71
 have e6 : (t.k == 6) = true:=J71
 have HX : Hid (wellT (n + 1) t = (ln == 1 && t.l.all (wellT n))):=by show _ = _;unfold wellT;simp [hk,hln]
 have HC : Hid (∀ W',Ext W W' → Calls Tryz.prog 61 #[.slice pp ln cl,.func (.func 35) #[] #[]] W' fun e w'=>e = .returned (.bool (t.l.all (wellT n))) ∧ Ext W' w'):=fun W' e=>xall_any 35 P (wellT n) t.l pp ln cl W' hl (enters_of func35 J3 rfl) hx (h.ext e)
 clear hk hl hx h hln
 by_cases h1 : ln = 1
 · have d1 : ((ln : Int) == 1) = true:=by rw [h1];rfl
   have HY : Hid ((ln == 1) = true):=by show _ = _;rw [h1];rfl
   clear h1
   go_enter func35,ntmps35
   go_wp2_with fail
   refine (HC.out _ (xr.alloc _)).mono ?_
   rintro e w1 ⟨rfl,E1⟩
   have HE : Hid (Ext W w1):=(xr.alloc _).trans E1
   clear E1
   go_wp2_with fail
   go_ret
   exact ⟨ret_bool (by rw [HX.out,HY.out];rfl),HE.out⟩
 · have d1 : ((ln : Int) == 1) = false:=J8
   have HY : Hid ((ln == 1) = false):=by show _ = _;simpa using h1
   clear h1
   go_enter func35,ntmps35
   exact K161
theorem well_bin (P : Nat → Prop) (n : Nat) (t : T) (hk : t.k = 7) (hl : t.l.length ≤ 100000) (hx : ∀ x ∈ t.l,ATr 35 P (wellT n) x) : ATr 35 P (wellT (n + 1)) t:=by
 intro W pp ln cl h
 have hln : t.l.length = ln:=by
   exact K131
 have e0 : (t.k == 0) = false:=J71
 have e1 : (t.k == 1) = false:=J71
 have e2 : (t.k == 2) = false:=J71
 have e3 : (t.k == 3) = false:=J71
 have e4 : (t.k == 4) = false:=J71
 have e6 : (t.k == 6) = false:=J71
 have e7 : (t.k == 7) = true:=J71
 have HX : Hid (wellT (n + 1) t = (bnd t.s != 0 && ln == 2 && t.l.all (wellT n))):=by show _ = _;unfold wellT;simp [hk,hln]
 have HC : Hid (∀ W',Ext W W' → Calls Tryz.prog 61 #[.slice pp ln cl,.func (.func 35) #[] #[]] W' fun e w'=>e = .returned (.bool (t.l.all (wellT n))) ∧ Ext W' w'):=fun W' e=>xall_any 35 P (wellT n) t.l pp ln cl W' hl (enters_of func35 J3 rfl) hx (h.ext e)
 have cB:=fun W=>binds_any (bs t.s) W
 have es : (bs t.s).data.toList = t.s:=rfl
 rw [es] at cB
 obtain ⟨bb,hbb⟩ : ∃ bb,bnd t.s = bb:=⟨_,rfl⟩
 rw [hbb] at cB HX
 generalize bs t.s = q at *
 clear hk hl hx h hln es hbb
 by_cases h0 : bb = 0
 · have b1 : ((bb : Int) != 0) = false:=by rw [h0];rfl
   have HY : Hid ((bb != 0) = false):=by show _ = _;rw [h0];rfl
   clear h0
   go_enter func35,ntmps35
   go_wp2_with fail
   refine (cB _).mono ?_
   rintro e w1 ⟨rfl,rfl⟩
   exact K161
 have b1 : ((bb : Int) != 0) = true:=J8
 have HY0 : Hid ((bb != 0) = true):=by show _ = _;simpa using h0
 clear h0
 by_cases h1 : ln = 2
 · have d1 : ((ln : Int) == 2) = true:=by rw [h1];rfl
   have HY : Hid ((ln == 2) = true):=by show _ = _;rw [h1];rfl
   clear h1
   go_enter func35,ntmps35
   go_wp2_with fail
   refine (cB _).mono ?_
   rintro e w1 ⟨rfl,rfl⟩
   go_wp2_with fail
   refine (HC.out _ (xr.alloc _)).mono ?_
   rintro e w1 ⟨rfl,E1⟩
   have HE : Hid (Ext W w1):=(xr.alloc _).trans E1
   clear E1
   go_wp2_with fail
   go_ret
   exact ⟨ret_bool (by rw [HX.out,HY.out,HY0.out];rfl),HE.out⟩
 · have d1 : ((ln : Int) == 2) = false:=J8
   have HY : Hid ((ln == 2) = false):=by show _ = _;simpa using h1
   clear h1
   go_enter func35,ntmps35
   go_wp2_with fail
   refine (cB _).mono ?_
   rintro e w1 ⟨rfl,rfl⟩
   go_wp2_with fail
   go_ret
   exact ⟨ret_bool (by rw [HX.out,HY.out,HY0.out];rfl),xr.alloc _⟩
theorem well_call (P : Nat → Prop) (n : Nat) (t : T) (hk : t.k = 8) (hl : t.l.length ≤ 100000) (hx : ∀ x ∈ t.l,ATr 64 P (argT n) x) : ATr 35 P (wellT (n + 1)) t:=by
 intro W pp ln cl h
 have hln : t.l.length = ln:=by
   exact K131
 have e0 : (t.k == 0) = false:=J71
 have e1 : (t.k == 1) = false:=J71
 have e2 : (t.k == 2) = false:=J71
 have e3 : (t.k == 3) = false:=J71
 have e4 : (t.k == 4) = false:=J71
 have e6 : (t.k == 6) = false:=J71
 have e7 : (t.k == 7) = false:=J71
 have e8 : (t.k == 8) = true:=J71
 have HX : Hid (wellT (n + 1) t = ((kno t.s).isSome && decide (knA t.s ≤ ln) && decide ((ln : Int) ≤ knB t.s) && t.l.all (argT n))):=by show _ = _;unfold wellT;simp only [hk,hln];rfl
 have HC : Hid (∀ W',Ext W W' → Calls Tryz.prog 61 #[.slice pp ln cl,.func (.func 64) #[] #[]] W' fun e w'=>e = .returned (.bool (t.l.all (argT n))) ∧ Ext W' w'):=fun W' e=>xall_any 64 P (argT n) t.l pp ln cl W' hl (enters_of func64 J3 rfl) hx (h.ext e)
 have cK:=fun W=>known_any (bs t.s) W
 have es : (bs t.s).data.toList = t.s:=rfl
 rw [es] at cK
 obtain ⟨ka,hka⟩ : ∃ ka,knA t.s = ka:=⟨_,rfl⟩
 obtain ⟨kb,hkb⟩ : ∃ kb,knB t.s = kb:=⟨_,rfl⟩
 rw [hka,hkb] at cK HX
 generalize bs t.s = q at *
 clear hk hl hx h hln es hka hkb
 cases hs : (kno t.s).isSome
 · rw [hs] at cK HX
   clear hs
   exact K71
 rw [hs] at cK HX
 clear hs
 by_cases h1 : ka ≤ (ln : Int)
 · have d1 : decide (ka ≤ (ln : Int)) = true:=J70
   rw [d1] at HX
   by_cases h2 : (ln : Int) ≤ kb
   · have d2 : decide ((ln : Int) ≤ kb) = true:=by simpa using h2
     rw [d2] at HX
     go_enter func35,ntmps35
     go_wp2_with fail
     refine (cK _).mono ?_
     rintro e w1 ⟨rfl,rfl⟩
     go_wp2_with fail
     refine (HC.out _ (xr.alloc _)).mono ?_
     exact K116
   · have d2 : decide ((ln : Int) ≤ kb) = false:=by simpa using h2
     rw [d2] at HX
     exact K71
 · have d1 : decide (ka ≤ (ln : Int)) = false:=J70
   rw [d1] at HX
   exact K71
theorem well_any (P : Nat → Prop) (n : Nat) : ∀ t,Hr n t → ATr 35 P (wellT n) t:=by
 induction n with
 | zero=>intro t h;exact h.elim
 | succ n ih =>
   intro t h
   by_cases h6 : t.k = 6
   · exact well_neg P n t h6 h.1 (fun x hx=>ih x (h.2 x hx))
   by_cases h7 : t.k = 7
   · exact well_bin P n t h7 h.1 (fun x hx=>ih x (h.2 x hx))
   by_cases h8 : t.k = 8
   · exact well_call P n t h8 h.1 (fun x hx=>isArg_any P n x (ih x (h.2 x hx)))
   exact well_leaf P n t h6 h7 h8
theorem tw_of {p : UInt8 → Bool} {l A B : List UInt8} (e : A ++ B = l) (hA : A.all p = true) (hB : ∀ c,B.head? = some c → p c = false) : l.takeWhile p = A ∧ l.dropWhile p = B:=by
 subst e
 induction A with
 | nil =>
   cases B with
   | nil=>exact ⟨rfl,rfl⟩
   | cons c B =>
     have:=hB c rfl
     constructor
     · show (c :: B).takeWhile p = [];rw [List.takeWhile_cons,this];rfl
     · show (c :: B).dropWhile p = c :: B;rw [List.dropWhile_cons,this];rfl
 | cons a A ih =>
   rw [List.all_cons,Bool.and_eq_true] at hA
   obtain ⟨i1,i2⟩:=ih hA.2
   constructor
   · show (a :: (A ++ B)).takeWhile p = a :: A;rw [List.takeWhile_cons,hA.1,i1];rfl
   · show (a :: (A ++ B)).dropWhile p = B;rw [List.dropWhile_cons,hA.1,if_pos rfl,i2]
theorem dw_head {p : UInt8 → Bool} (l : List UInt8) (c : UInt8) (h : (l.dropWhile p).head? = some c) : p c = false:=by
 have:=List.head?_dropWhile_not p l
 rw [h] at this
 simpa using this
def nmR (l : List UInt8) : List UInt8:=(undl l).takeWhile upB
def rsR (l : List UInt8) : List UInt8:=(undl l).dropWhile upB
def dgR (l : List UInt8) : List UInt8:=undl (rsR l)
def okR (l : List UInt8) : Bool:=rowOk (dgR l) && inB (val (dgR l)) (colN (nmR l))
theorem lt_sgn {c : UInt8} (h : upB c = true) : sgns.contains c = false:=by
 rw [sgn_eq]
 unfold upB at h;simp at h
 have : (c == 36) = false:=beq_eq_false_iff_ne.2 fun e=>by
   rw [e] at h;have : (36 : UInt8).toNat = 36:=rfl;omega
 rw [this];unfold dgB;simp;omega
theorem sgn_lt {c : UInt8} (h : sgns.contains c = true) : upB c = false:=by
 cases g : upB c with
 | false=>rfl
 | true=>rw [lt_sgn g] at h;cases h
theorem par_one (l : List UInt8) (h : okP l = true) : nmR l = nmL l ∧ rsR l = rsL l ∧ okR l = true ∧ rowP l = val (dgR l):=by
 have hin:=h
 unfold okP inB at hin
 simp at hin
 have hc : colN (nmL l) ≠ 0:=by unfold colP at hin;omega
 have hA:=colN_letters _ hc
 have e : nmL l ++ rsL l = undl l:=List.takeWhile_append_dropWhile
 have hB : ∀ c,(rsL l).head? = some c → upB c = false:=fun c hc=>by
   have:=dw_head (p:=fun c=>!sgns.contains c) (undl l) c hc
   exact sgn_lt (by simpa using this)
 obtain ⟨t1,t2⟩:=tw_of e hA hB
 have n1 : nmR l = nmL l:=t1
 have n2 : rsR l = rsL l:=t2
 obtain ⟨o1,o2⟩:=row_in (undl (rsL l)) (by unfold rowP at hin;omega) (by unfold rowP at hin;omega)
 have n3 : dgR l = undl (rsL l):=by unfold dgR;rw [n2]
 refine ⟨n1,n2,?_,?_⟩
 · unfold okR
   rw [n3,n1,o1,o2]
   exact h
 · rw [n3,o2];rfl
theorem par_two (l : List UInt8) (h : okR l = true) : okP l = true:=by
 unfold okR at h
 rw [Bool.and_eq_true] at h
 obtain ⟨h1,h2⟩:=h
 have hin:=h2
 unfold inB at hin
 simp at hin
 have hA : (nmR l).all (fun c=>!sgns.contains c) = true:=by
   rw [List.all_eq_true]
   intro c hc
   have:=List.all_eq_true.1 (List.all_takeWhile (p:=upB) (l:=undl l)) c hc
   rw [lt_sgn this];rfl
 have e : nmR l ++ rsR l = undl l:=List.takeWhile_append_dropWhile
 have hne : dgR l ≠ []:=by
   intro k;rw [k] at hin
   have : val ([] : List UInt8) = 0:=rfl
   omega
 have hB : ∀ c,(rsR l).head? = some c → (!sgns.contains c) = false:=by
   intro c hc
   rw [sgn_eq]
   by_cases g : c = 36
   · subst g;rfl
   · have hd : dlB (rsR l) = false:=by unfold dlB;rw [hc];simpa using g
     have e2 : dgR l = rsR l:=by unfold dgR undl;rw [hd];rfl
     unfold rowOk at h1
     rw [Bool.and_eq_true,Bool.and_eq_true,e2] at h1
     have:=List.all_eq_true.1 h1.1.1 c (List.mem_of_mem_head? (by rw [hc];rfl))
     rw [this];simp
 obtain ⟨t1,t2⟩:=tw_of e hA hB
 have n1 : nmL l = nmR l:=t1
 have n2 : rsL l = rsR l:=t2
 have hr:=row_ok (dgR l) h1 hne
 unfold okP rowP colP
 rw [n1,n2]
 show inB (rowC (dgR l)) _ = true
 rw [hr];exact h2
theorem ok_eq (l : List UInt8) : okP l = okR l:=by
 cases h : okR l with
 | true=>exact par_two l h
 | false =>
   cases g : okP l with
   | false=>rfl
   | true=>rw [(par_one l g).2.2.1] at h;cases h
theorem prV_R (l : List UInt8) : prV l = if okR l then refD (val (dgR l)) (colN (nmR l)) (dlB (rsR l)) (dlB l) else refD 0 0 false false:=by
 unfold prV
 rw [← ok_eq]
 cases g : okP l with
 | false=>rfl
 | true =>
   obtain ⟨n1,n2,_,n4⟩:=par_one l g
   rw [if_pos rfl,if_pos rfl,n4,n1,n2];rfl
end Go.Proofs.YtcfgbiaahangmaaGreatDoor

/- Short names for what is said often. -/
import Derived.Test.YtcfgbiaahangmaaGreatDoorChecked
import Derived.BigQuiet
import Derived.Deep.CutBlock
import Derived.Deep.DeepCutAuto
import Derived.Deep.Light
import Derived.Deep.QuietTactic
import Derived.Deep.RegionHeld3
import Derived.Deep.RegionWith
import Derived.Maps.RangeWalk
import Derived.OpenShut
import Derived.OwnWalk
import Derived.WalkMore
import Derived.OrdersHeld
namespace Go.Proofs.YtcfgbiaahangmaaGreatDoor
open Go.RowKit
theorem nrf {n:Nat}:n≤n:=Nat.le_refl n

abbrev wO:=@World.cell?_setCell_other
abbrev wSa:=@World.cell?_setCell_same
abbrev wFz:=@World.frozen?_setCell
abbrev wFa:=@World.cell?_setCell_far
abbrev llL:=@Nat.lt_of_lt_of_le
abbrev gEq:=@List.getElem?_eq_getElem
theorem tkI {P:Program} {md:Region.Mode} {ops:Array Oper} {Q:Exit→Act→World→Prop} {S:World→Prop} {i:Nat} {oi:Oper} {v:Value} {fuel:Nat} {listed:Array Bool} {a:Act} {w:World} (h:wpAnyH P md ops Q S fuel (listed.setIfInBounds i true) (a.put oi.dst v) w) (hi:ops[i]? = some oi:=by exact rfl) (hs:Region.noSelect ops = true:=by kernel_rfl) (hf:Region.free md ops listed i = true:=by kernel_rfl) (hr:(Region.ready md ops listed).contains i = true:=by kernel_rfl) (hQ:∀ c a w,Q (.panic c) (a.put oi.dst v) w→Q (.panic c) a w:=by exact fun _ _ _ h=>h) (hw:Region.wanted oi (yielded ops a.tmps) = true:=by rfl) (hy:∀ w,S w→(execOp a.eval oi).run P w = .ok (.value v) w:=by intro w hSw;(try dsimp only at hSw);first | (go_simp;done) | (go_simp;with_reducible rfl)) (hS:S w:=by assumption):wpAnyH P md ops Q S (fuel+1) listed a w:=wpAnyH_take hi hs hf hr hQ (Or.inl ⟨hw,hy⟩) hS h
theorem tkU {P:Program} {md:Region.Mode} {ops:Array Oper} {Q:Exit→Act→World→Prop} {S:World→Prop} {i:Nat} {oi:Oper} {fuel:Nat} {listed:Array Bool} {a:Act} {w:World} (h:wpAnyH P md ops Q S fuel (listed.setIfInBounds i true) (a.put oi.dst undef) w) (hi:ops[i]? = some oi:=by exact rfl) (hs:Region.noSelect ops = true:=by kernel_rfl) (hf:Region.free md ops listed i = true:=by kernel_rfl) (hr:(Region.ready md ops listed).contains i = true:=by kernel_rfl) (hQ:∀ c a w,Q (.panic c) (a.put oi.dst undef) w→Q (.panic c) a w:=by exact fun _ _ _ h=>h) (hw:Region.wanted oi (yielded ops a.tmps) = false:=by rfl) (hS:S w:=by assumption):wpAnyH P md ops Q S (fuel+1) listed a w:=wpAnyH_take hi hs hf hr hQ (Or.inr ⟨hw,rfl⟩) hS h
theorem J0 {p:Prop} (h:p:=by with_reducible repeat (first | assumption | exact xr | apply Ext.alloc | apply Ext.drewN | (refine Ext.setCell ?_ (by simp) _))):p:=h
theorem J1 {p:Prop} (h:p:=by with_reducible repeat (first | assumption | exact xr | apply Ext.alloc | apply Ext.drew | apply Ext.drewN | (refine Ext.setCell ?_ (by simp) _))):p:=h
theorem J2 {p:Prop} (h:p:=by omega):p:=h
theorem J3 {p:Prop} (h:p:=by kernel_rfl):p:=h
theorem J4 {p:Prop} (h:p:=by ((with_reducible (repeat' (first | assumption | exact xr | apply Ext.alloc | apply Ext.drew | apply Ext.drewN | apply Ext.setCell)));all_goals (first | omega | (simp;done) | (simp;omega)))):p:=h
theorem J5 {p:Prop} (h:p:=by exact (fun W g0 g1 g2 g3=>by simp [results,results137,go_sem,g0,g1,g2,g3])):p:=h
theorem J6 {p:Prop} (h:p:=by simp;omega):p:=h
theorem J7 {p:Prop} (h:p:=by with_reducible repeat (first | exact X1.out | exact xr | apply Ext.alloc | apply Ext.drewN | (refine Ext.setCell ?_ (by simp) _))):p:=h
theorem J8 {p:Prop} (h:p:=by exact (fun g0 g1 g2 g3=>by simp [results,results69,go_sem,g0,g1,g2,g3])):p:=h
theorem J9 {p:Prop} (h:p:=by decide):p:=h
theorem J10 {p:Prop} (h:p:=by exact (fun h0 h1 h2 h3 h4 h5 h6 h7 h8 h9 h10 h11 h12=>by simp [results,results83,go_sem,h0,h1,h2,h3,h4,h5,h6,h7,h8,h9,h10,h11,h12,aggX])):p:=h
theorem J11 {p:Prop} (h:p:=by rw [hk];decide):p:=h
theorem J12 {p:Prop} (h:p:=by with_reducible (repeat (first | assumption | exact HV.out.2.1 | exact xr | apply Ext.alloc | apply Ext.drew | apply Ext.drewN))):p:=h
theorem J13 {p:Prop} (h:p:=by exact (fun g0 g1 g2 g3 g4=>by simp [results,results82,go_sem,g0,g1,g2,g3,g4];rfl)):p:=h
theorem J14 {p:Prop} (h:p:=by exact (fun h0 h1 h2 h3 h4 h5 h6 h7 h8 h9 h10 h11 h12=>by simp [results,results167,go_sem,h0,h1,h2,h3,h4,h5,h6,h7,h8,h9,h10,h11,h12,aggX])):p:=h
theorem J15 {p:Prop} (h:p:=by exact (fun h0 h1 h2 h3 h4 h5 h6 h7 h8 h9 h10 h11 h12=>by simp [results,results120,go_sem,h0,h1,h2,h3,h4,h5,h6,h7,h8,h9,h10,h11,h12,aggX])):p:=h
theorem J16 {p:Prop} (h:p:=by exact (fun g0 g1 g2 g3 g4=>by simp [results,results116,go_sem,g0,g1,g2,g3,g4];rfl)):p:=h
theorem J17 {p:Prop} (h:p:=by simp [go_sem]):p:=h
theorem J18 {p:Prop} (h:p:=by with_reducible repeat (first | exact X2.out | exact xr | apply Ext.alloc | apply Ext.drewN | (refine Ext.setCell ?_ (by simp) _))):p:=h
theorem J19 {p:Prop} (h:p:=by exact (fun W g0 g1 g2 g3=>by simp [results,results165,go_sem,g0,g1,g2,g3])):p:=h
theorem J20 {p:Prop} (h:p:=by exact (fun g0 g1 g2 g3=>by simp [results,results218,go_sem,g0,g1,g2,g3])):p:=h
theorem J21 {p:Prop} (h:p:=by exact (fun g0 g1 g2 g3=>by simp [results,results37,go_sem,g0,g1,g2,g3])):p:=h
theorem J22 {p:Prop} (h:p:=by (with_reducible repeat (first | assumption | exact xr | apply Ext.drew | apply Ext.drewN))):p:=h
theorem J23 {p:Prop} (h:p:=by exact (fun g0 g1 g2 g3=>by simp [results,results243,go_sem,g0,g1,g2,g3])):p:=h
theorem J24 {p:Prop} (h:p:=by exact (fun g0 g1 g2 g3=>by simp [results,results96,go_sem,g0,g1,g2,g3])):p:=h
theorem J25 {p:Prop} (h:p:=by exact (fun g0 g1 g2 g3=>by simp [results,results25,go_sem,g0,g1,g2,g3])):p:=h
theorem J26 {p:Prop} (h:p:=by rfl):p:=h
theorem J27 {p:Prop} (h:p:=by exact (fun g0 g1 g2 g3=>by simp [results,results131,go_sem,g0,g1,g2,g3])):p:=h
theorem J28 {p:Prop} (h:p:=by simp [results,results23,go_sem,k0,k1,k2,k3,k4,k5,k6,k7,k8,k9,k10,k11,k12,aggX]):p:=h
theorem J29 {p:Prop} (h:p:=by rw [putX_size];exact Nat.le_refl _):p:=h
theorem J30 {p:Prop} (h:p:=by unfold maxLen;omega):p:=h
theorem J31 {p:Prop} (h:p:=by exact (fun W g0 g1 g2 g3=>by simp [results,results47,go_sem,g0,g1,g2,g3])):p:=h
theorem J32 {p:Prop} (h:p:=by exact (fun W g0 g1 g2 g3=>by simp [results,results19,go_sem,g0,g1,g2,g3])):p:=h
theorem J33 {p:Prop} (h:p:=by with_reducible repeat (first | exact X1.out | apply Ext.alloc)):p:=h
theorem J34 {p:Prop} (h:p:=by rw [HV.out,HZ.out];rfl):p:=h
theorem J35 {p:Prop} (h:p:=by exact (fun j hj=>by omega)):p:=h
theorem J36 {p:Prop} (h:p:=by rw [HO.out,HZ.out]):p:=h
theorem J37 {p:Prop} (h:p:=by rw [HX.out];try rfl):p:=h
theorem J38 {p:Prop} (h:p:=by exact (fun W g0 g1 g2 g3=>by simp [results,results128,go_sem,g0,g1,g2,g3])):p:=h
theorem J39 {p:Prop} (h:p:=by exact (fun W g0 g1 g2 g3=>by simp [results,results138,go_sem,g0,g1,g2,g3])):p:=h
theorem J40 {p:Prop} (h:p:=by exact (fun W g0 g1 g2 g3=>by simp [results,results187,go_sem,g0,g1,g2,g3])):p:=h
theorem J41 {p:Prop} (h:p:=by exact (fun g0 g1 g2 g3=>by simp [results,results183,go_sem,g0,g1,g2,g3])):p:=h
theorem J42 {p:Prop} (h:p:=by simp [results,results22,go_sem]):p:=h
theorem J43 {p:Prop} (h:p:=by exact (fun g0 g1 g2 g3=>by simp [results,results14,go_sem,g0,g1,g2,g3])):p:=h
theorem J44 {p:Prop} (h:p:=by simp [results,results27,go_sem]):p:=h
theorem J45 {p:Prop} (h:p:=by unfold sgn;rw [if_pos ⟨hw,(isSg_k hc).1⟩];exact (isSg_k hc).2):p:=h
theorem J46 {p:Prop} (h:p:=by rw [HX.out];rfl):p:=h
theorem J47 {p:Prop} (h:p:=by rw [HX.out,HR.out];try simp):p:=h
theorem J48 {p:Prop} (h:p:=by rw [h3.2];decide):p:=h
theorem J49 {p:Prop} (h:p:=by simpa using ha):p:=h
theorem J50 {p:Prop} (h:p:=by simpa using hl):p:=h
theorem J51 {p:Prop} (h:p:=by rw [cellsT_length];omega):p:=h
theorem J52 {p:Prop} (h:p:=by exact (fun j hj _=>by omega)):p:=h
theorem J53 {p:Prop} (h:p:=by simp [goes,hk]):p:=h
theorem J54 {p:Prop} (h:p:=by simp at hl ⊢;omega):p:=h
theorem J55 {p:Prop} (h:p:=by rw [← HLN.out];exact hlt):p:=h
theorem J56 {p:Prop} (h:p:=by exact (fun k hk=>by omega)):p:=h
theorem J57 {p:Prop} (h:p:=by rw [hl];simp):p:=h
theorem J58 {p:Prop} (h:p:=by rw [HN.out (by rw [HR.out];rfl)]):p:=h
theorem J59 {p:Prop} (h:p:=by rw [e];simp):p:=h
theorem J60 {p:Prop} (h:p:=by rw [four_len];omega):p:=h
theorem J61 {p:Prop} (h:p:=by simpa using h):p:=h
theorem J62 {p:Prop} (h:p:=by rw [List.length_drop];omega):p:=h
theorem J63 {p:Prop} (h:p:=by rw [HX.out,HR.out];try rfl):p:=h
theorem J64 {p:Prop} (h:p:=by rw [HA.out j hlt];exact h1):p:=h
theorem J65 {p:Prop} (h:p:=by simp):p:=h
theorem J66 {p:Prop} (h:p:=by rw [wrapU];unfold loOf;omega):p:=h
theorem J67 {p:Prop} (h:p:=by rw [wrapU];omega):p:=h
theorem J68 {p:Prop} (h:p:=by unfold uhi loOf;omega):p:=h
theorem J69 {p:Prop} (h:p:=by simpa using hc):p:=h
theorem J70 {p:Prop} (h:p:=by rw [HE3.out];simpa using hz):p:=h
theorem J71 {p:Prop} (h:p:=by decide +kernel):p:=h
theorem J72 {p:Prop} (h:p:=by unfold wrap64;omega):p:=h
theorem J73 {p:Prop} (h:p:=by rw [mulN];exact wrapN _ J2):p:=h
theorem J74 {p:Prop} (h:p:=by show _ = _;rw [H2.out h0];simpa using h1):p:=h
theorem J75 {p:Prop} (h:p:=by simpa using h1):p:=h
theorem J76 {p:Prop} (h:p:=by rw [hk];rfl):p:=h
theorem J77 {p:Prop} (h:p:=by rw [wO _ _ _ _ J65];exact k1):p:=h
theorem J78 {p:Prop} (h:p:=by rw [hs];decide):p:=h
theorem J79 {p:Prop} (h:p:=by rw [hs];simpa using h0):p:=h
theorem J80 {p:Prop} (h:p:=by rw [hs];simpa using h1):p:=h
theorem J81 {p:Prop} (h:p:=by rw [hs];simpa using h2):p:=h
theorem J82 {p:Prop} (h:p:=by rw [hs];simpa using h3):p:=h
theorem J83 {p:Prop} (h:p:=by rw [hs];simpa using h4):p:=h
theorem J84 {p:Prop} (h:p:=by rw [hs];simpa using h5):p:=h
theorem J85 {p:Prop} (h:p:=by rw [hs];simpa using h6):p:=h
theorem J86 {p:Prop} (h:p:=by rw [hs];simpa using h7):p:=h
theorem J87 {p:Prop} (h:p:=by rw [hs];simpa using h8):p:=h
theorem J88 {p:Prop} (h:p:=by rw [hs];simpa using h9):p:=h
theorem J89 {p:Prop} (h:p:=by rw [hs];simpa using h10):p:=h
theorem J90 {p:Prop} (h:p:=by show _ = _;simp [kno,kn1,kn2,kn3,kn4,kn5,h0,h1,h2,h3,h4,h5,h6,h7,h8,h9,h10,h11,h12,h13,h14,h15,h16,h17,h18,h19]):p:=h
theorem J91 {p:Prop} (h:p:=by show _ = _;simp [bnd,bd1,h0,h1,h2,h3,h4,h5,h6,h7,h8,h9,h10]):p:=h
theorem J92 {p:Prop} (h:p:=by show nm k n s e = _;unfold nm;rw [if_neg h1,if_neg h2,if_neg h3,if_neg h4]):p:=h
theorem J93 {p:Prop} (h:p:=by show numR s = _∧numK s = _;unfold numR numK;rw [h];exact ⟨rfl,rfl⟩):p:=h
theorem J94 {p:Prop} (h:p:=by unfold absI;split <;> omega):p:=h
theorem J95 {p:Prop} (h:p:=by unfold canB;rw [bne_iff_ne];omega):p:=h
theorem J96 {p:Prop} (h:p:=by simpa using hk):p:=h
theorem J97 {p:Prop} (h:p:=by show _ = _;rw [seen_take HV.out.2.1];unfold seen1;rw [har];rfl):p:=h
theorem J98 {p:Prop} (h:p:=by rintro rfl;cases h):p:=h
theorem J99 {p:Prop} (h:p:=by rw [ByteArray.toList_eq,h];decide):p:=h
theorem J100 {p:Prop} (h:p:=by rw [ByteArray.toList_eq];simpa [trueL] using h):p:=h
theorem J101 {p:Prop} (h:p:=by rw [ByteArray.toList_eq,g];decide):p:=h
theorem J102 {p:Prop} (h:p:=by rw [ByteArray.toList_eq];simpa [falseL] using g):p:=h
theorem J103 {p:Prop} (h:p:=by simpa using h0):p:=h
theorem J104 {p:Prop} (h:p:=by simpa using h4):p:=h
theorem J105 {p:Prop} (h:p:=by rw [← hW3];simp):p:=h
theorem J106 {p:Prop} (h:p:=by rw [← hW3];exact ((xr.alloc _).alloc _).alloc _):p:=h
theorem J107 {p:Prop} (h:p:=by rw [HN];simpa using hs):p:=h
theorem J108 {p:Prop} (h:p:=by show _ = _;rw [HS.out,if_pos h4]):p:=h
theorem J109 {p:Prop} (h:p:=by rw [Lib.cell_of_heap hb];rfl):p:=h
theorem J110 {p:Prop} (h:p:=by rw [ByteArray.toList_eq];exact hs):p:=h
theorem J111 {p:Prop} (h:p:=by rw [hl];decide):p:=h
theorem J112 {p:Prop} (h:p:=by show xRound l = _;unfold xRound;rw [sg_of h0,ht,sg_of h1,hu]):p:=h
theorem J113 {p:Prop} (h:p:=by show cmpS _ a b = _;unfold cmpS;rw [if_pos hk]):p:=h
theorem J114 {p:Prop} (h:p:=by show cmpS _ a b = _;unfold cmpS;rw [if_neg hk]):p:=h
theorem J115 {p:Prop} (h:p:=by show _ = _;unfold wellT;simp [hk]):p:=h
theorem J116 {p:Prop} (h:p:=by show _ = _;unfold wellT;simp [k0,k1,k2,k3,k4,hk6,hk7,hk8]):p:=h
theorem J117 {p:Prop} (h:p:=by rw [← hya];exact xr.alloc _):p:=h
theorem J118 {p:Prop} (h:p:=by rw [← hya,← hga];exact BlkX.top rfl xr):p:=h
theorem J119 {p:Prop} (h:p:=by show _≤_;rw [← hga];exact X.out.sz):p:=h
theorem J120 {p:Prop} (h:p:=by rw [← hya,← hga];exact blk_top rfl xr):p:=h
theorem J121 {p:Prop} (h:p:=by rw [← hn];exact atI_le r c L):p:=h
theorem J122 {p:Prop} (h:p:=by simpa using hw):p:=h
theorem J123 {p:Prop} (h:p:=by unfold isSg;rw [hk];rfl):p:=h
theorem J124 {p:Prop} (h:p:=by unfold isSg;rw [h3.2,q1];rfl):p:=h
theorem J125 {p:Prop} (h:p:=by rw [HA.out,hd];rfl):p:=h
theorem J126 {p:Prop} (h:p:=by rw [IntKind.wrap_i64];omega):p:=h
theorem J127 {p:Prop} (h:p:=by show _ = _;rw [hjl,HLN.out];exact List.take_length):p:=h
theorem J128 {p:Prop} (h:p:=by rw [bs_tl,hw];rfl):p:=h
theorem J129 {p:Prop} (h:p:=by show _ = _;unfold wellT;simp [hk,hln];try rfl):p:=h
theorem J130 {p:Prop} (h:p:=by show _ = _;skip;exact hgx):p:=h
theorem J131 {p:Prop} (h:p:=by show _ = _;rw [allx_take9 HX1.out,HE.out.2,HG.out];rfl):p:=h
theorem J132 {p:Prop} (h:p:=by show _ = _;unfold argT;rw [if_neg HK5.out];exact hgx):p:=h
theorem K0 {p:Prop} (h:p:=by
 obtain ⟨g0,g1,g2,g3,g4,g5,g6,tb,off,cc,nn,ii,all,u1,u2,u3,u4,u5,u6⟩:=i4
 obtain ⟨hz,⟨b0,b1,b2,b3,b4⟩,f0,f1,f2,f3,f4⟩:=u6
 clear g0 g1 g2 g3 g4 g5 g6 u1 u2 u3 u4 u5
 obtain ⟨pv,cv,hv⟩:=HO.out.2.2.2.2.2.1.form
 obtain ⟨pl,hpl⟩:∃ pl,ps.length = pl:=⟨_,rfl⟩
 have HPL:Hid (ps.length = pl):=hpl
 rw [hpl] at hv
 subst hv
 obtain ⟨zx,⟨x0,x1,x2,x3,x4,x5,x6,x7,x8,x9,x10,x11,x12⟩,zxf⟩:=HO.out.1
 clear zxf hpl
 have hpl20:pl≤20:=by rw [← HPL.out];exact HO.out.2.2.2.2.2.2
 go_upto_if 88 with fail
 go_cut [] (fun wx=>∃ us D pa' why,BlkX wx X (tCall s []) (.slice pv pl cv)∧BlkX wx W.heap.size tz (.slice none 0 0)∧ExtB b W wx∧Rp w0 b wx us D pa' why∧us.length≤ts.length∧((why = 0∧D = (d:Int)+1∧IsL wx (X+1≤·) (.slice pv pl cv) (ps.map Prod.fst)∧args (frm (O n)) a m (d+1) ts.tail.tail = .ok (ps.map Prod.fst,us)∧isSg [40] ts.tail = true)∨(why≠0∧(d:Int)≤D∧D≤(d:Int)+1∧∃ f,wrd (frm (O n)) d ts = .error f)))
 case first =>
   have HSX:Hid ((why = 0∧D = (d:Int)+1∧(pl < a→∃ f,wrd (frm (O n)) d ts = .error f)∧(¬ pl < a→IsL wr (X+1≤·) (.slice pv pl cv) (ps.map Prod.fst)∧args (frm (O n)) a m (d+1) ts.tail.tail = .ok (ps.map Prod.fst,us)∧isSg [40] ts.tail = true))∨(why≠0∧(d:Int)≤D∧D≤(d:Int)+1∧∃ f,wrd (frm (O n)) d ts = .error f)):=by
     rcases HST.out with ⟨z1,z2,z3,z4,z5,z6⟩ | z
     · refine .inl ⟨z1,z2,fun hlt=>?_,fun hge=>?_⟩
       · have hc:chk a (.ok (ps.map Prod.fst,us)) = .error (ft us false):=chk_lt (by rw [List.length_map,HPL.out];exact hlt)
         exact HWR.out.1 z6 ((HAD.out z3 z6).err (z5.trans hc))
       · have hc:chk a (.ok (ps.map Prod.fst,us)) = .ok (ps.map Prod.fst,us):=chk_ge (by rw [List.length_map,HPL.out];exact hge)
         have hOX:OwX wr (X+1) (.slice pv pl cv) ps:=⟨HO.out.2.2.2.2.2.1,z4⟩
         exact ⟨hOX.isL,(HAD.out z3 z6).ok (z5.trans hc),z6⟩
     · exact .inr z
   by_cases hlt:(pl:Int) < (a:Int)
   · go_wp2_with fail
     refine (rbad_any HO.out.2.2.2.1 4).mono ?_
     rintro e w7 ⟨rfl,R7,X7⟩
     go_wp2_with fail
     go_meet
     case rel =>
       refine ⟨us,D,_,_,HO.out.1.extB X7 J2,HO.out.2.1.extB X7 hgW,HO.out.2.2.1.trans X7,R7,HO.out.2.2.2.2.1,.inr ?_⟩
       rcases HSX.out with ⟨z1,z2,z3,_⟩ | ⟨z1,z2,z3,z4⟩
       · exact ⟨by rw [if_pos z1];decide,by omega,by omega,z3 J2⟩
       · exact ⟨by rw [if_neg z1];exact z1,z2,z3,z4⟩
   · go_wp2_with fail
     go_meet
     case rel =>
       refine ⟨us,D,pa',why,HO.out.1,HO.out.2.1,HO.out.2.2.1,HO.out.2.2.2.1,HO.out.2.2.2.2.1,?_⟩
       rcases HSX.out with ⟨z1,z2,_,z3⟩ | z
       · exact .inl ⟨z1,z2,z3 J2⟩
       · exact .inr z
 case rest =>
   obtain ⟨us,D,pa',why,i1,i2,i3,i4,i5,i6⟩:=hcut
   have HO:Hid (BlkX wc X (tCall s []) (.slice pv pl cv)∧BlkX wc W.heap.size tz (.slice none 0 0)∧ExtB b W wc∧Rp w0 b wc us D pa' why∧us.length≤ts.length):=⟨i1,i2,i3,i4,i5⟩
   have HST:Hid ((why = 0∧D = (d:Int)+1∧IsL wc (X+1≤·) (.slice pv pl cv) (ps.map Prod.fst)∧args (frm (O n)) a m (d+1) ts.tail.tail = .ok (ps.map Prod.fst,us)∧isSg [40] ts.tail = true)∨(why≠0∧(d:Int)≤D∧D≤(d:Int)+1∧∃ f,wrd (frm (O n)) d ts = .error f)):=i6
   have hD1:(d:Int)≤D∧D≤(d:Int)+1:=by
     rcases i6 with ⟨_,z,_⟩ | ⟨_,z1,z2,_⟩
     · omega
     · omega
   have hdb:-1000≤D - 1:=J2
   have hdc:D≤1000:=by have:=HN.out.2.1;omega
   obtain ⟨zx,⟨x0,x1,x2,x3,x4,x5,x6,x7,x8,x9,x10,x11,x12⟩,zxf⟩:=i1
   obtain ⟨g0,g1,g2,g3,g4,g5,g6,tb,off,cc,nn,ii,all,u1,u2,u3,u4,u5,u6⟩:=i4
   obtain ⟨hz,⟨b0,b1,b2,b3,b4⟩,f0,f1,f2,f3,f4⟩:=u6
   clear g0 g1 g2 g3 g4 g5 g6 u1 u2 u3 u4 u5
   clear i2 i3 i5 i6 zxf
   go_wp2_with fail
   have R5:=HO.out.2.2.2.1.deep J2
   have X5:=HO.out.2.2.1.set (p:=⟨b,2,none⟩) (.inl rfl) (.int .i64 (D - 1))
   have B5:BlkX (wc.setCell ⟨b,2,none⟩ (.int .i64 (D - 1))) W.heap.size tz (.slice none 0 0):=Blk13.far1 HO.out.2.1 (c:=b) J2 2 (.int .i64 (D - 1))
   have B6:BlkX (wc.setCell ⟨b,2,none⟩ (.int .i64 (D - 1))) X (tCall s []) (.slice pv pl cv):=Blk13.far1 HO.out.1 (c:=b) J2 2 (.int .i64 (D - 1))
   have L5:∀ l',IsL wc (X+1≤·) (.slice pv pl cv) l'→IsL (wc.setCell ⟨b,2,none⟩ (.int .i64 (D - 1))) (X+1≤·) (.slice pv pl cv) l':=fun l' hh=>hh.extB ((ExtB.refl b wc).set (p:=⟨b,2,none⟩) (.inl rfl) (.int .i64 (D - 1))) J35
   refine (rwant_any R5 ⟨#[41]⟩).mono ?_
   rintro e w6 ⟨rfl,X6,D6⟩
   have HD6:Hid ((sgn us why = [41]∧Rp w0 b w6 (nx us) (D - 1) pa' why)∨(sgn us why≠[41]∧∃ pa' why',why'≠0∧Rp w0 b w6 us (D - 1) pa' why')):=D6
   have H6:Hid (ExtB b W w6∧BlkX w6 W.heap.size tz (.slice none 0 0)∧BlkX w6 X (tCall s []) (.slice pv pl cv)):=⟨X5.trans X6,B5.extB X6 hgW,B6.extB X6 J2⟩
   have HL6:Hid (∀ l',IsL wc (X+1≤·) (.slice pv pl cv) l'→IsL w6 (X+1≤·) (.slice pv pl cv) l'):=fun l' hh=>(L5 l' hh).extB X6 J35
   clear D6 X6 X5 B5 B6 L5 R5 b0 b1 b2 b3 b4 f0 f1 f2 f3 f4 hz zx x0 x1 x2 x3 x4 x5 x6 x7 x8 x9 x10 x11 x12
   have HB0:=H6.out.2.1
   obtain ⟨qa,⟨la0,la1,la2,la3,la4,la5,la6,la7,la8,la9,la10,la11,la12⟩,ga0,ga1,ga2,ga3,ga4,ga5,ga6,ga7,ga8,ga9,ga10,ga11,ga12⟩:=HB0
   have HB1:=H6.out.2.2
   obtain ⟨qc,⟨lc0,lc1,lc2,lc3,lc4,lc5,lc6,lc7,lc8,lc9,lc10,lc11,lc12⟩,gc0,gc1,gc2,gc3,gc4,gc5,gc6,gc7,gc8,gc9,gc10,gc11,gc12⟩:=HB1
   go_wp2_with fail
   show bodyPost Tryz.prog _ _ _ _ (putX w6 W.heap.size (tCall s (ps.map Prod.fst)) (.slice pv pl cv))
   refine endR (H6.out.2.1.put (tCall s (ps.map Prod.fst)) (.slice pv pl cv)) rfl (RY.back ⟨putX_B H6.out.1 nrf _ _,?_⟩) J15
   have bad:∀ us' pa' why',why'≠0→Rp w0 b w6 us' (D - 1) pa' why'→us'.length≤ts.length→(∃ f,wrd (frm (O n)) d ts = .error f)→(∃ f ts2 d' pa why,wrd (frm (O n)) d ts = .error f∧(d:Int) - 1≤d'∧d'≤d∧why≠0∧ts2.length≤ts.length∧Rp w0 b (putX w6 W.heap.size (tCall s (ps.map Prod.fst)) (.slice pv pl cv)) ts2 d' pa why):=by
     rintro us' pa' why' z1 z2 z3 ⟨f,hf⟩
     exact ⟨f,us',D - 1,pa',why',hf,by omega,by omega,z1,z3,putX_R z2 hgW HN.out.2.2 _ _⟩
   rcases HST.out with ⟨hw,hd5,hL,hr,h40⟩ | ⟨hw,_,_,hr⟩
   · rcases HD6.out with ⟨q1,q2⟩ | ⟨q1,pa'',why',q2,q3⟩
     · unfold sgn at q1
       split at q1
       · rename_i h3
         have hc:isSg [41] us = true:=J124
         have hre:=HWR.out.2.1 _ _ h40 hr hc
         have hn2:nx us = us.tail:=nx_tail HO.out.2.2.2.1.2.2.1 J48
         rw [hn2,hw,hd5,show (d:Int)+1 - 1 = d by omega] at q2
         rw [HSS.out] at hre
         exact .inl ⟨us.tail,pa',hre,((HL6.out _ hL).keep J29 (fun j hj hs=>putX_heap _ _ _ _ _ J2) (fun j hj _=>hj)).mono J52,putX_R q2 hgW HN.out.2.2 _ _⟩
       · cases q1
     · refine .inr (bad us pa'' why' q2 q3 HO.out.2.2.2.2 ?_)
       have hc:isSg [41] us = false:=by
         cases hc:isSg [41] us with
         | false=>rfl
         | true=>exact absurd J45 q1
       exact HWR.out.2.2 _ _ h40 hr hc
   · rcases HD6.out with ⟨q1,_⟩ | ⟨_,pa'',why',q2,q3⟩
     · unfold sgn at q1
       rw [if_neg (fun h=>hw h.1)] at q1
       cases q1
     · exact .inr (bad us pa'' why' q2 q3 HO.out.2.2.2.2 hr)):p:=h
theorem K1 {p:Prop} (h:p:=by
 have XW:Ext w w1:=Ext.trans J0 E1
 have hK:Hid (∀ W,Ext w1 W→Blk W (w.heap.size) (.int .i64 ka) (.int .i64 na) (.string sa) (.int .i64 ea)∧Blk W (w.heap.size+1) (.int .i64 kb) (.int .i64 nb) (.string sb) (.int .i64 eb)∧Blk W (w.heap.size+1+1) (.int .i64 0) (.int .i64 0) (.string ⟨#[]⟩) (.int .i64 0)):=by
   show ∀ W,_
   intro W h
   exact ⟨blk_top J65 (((xr.alloc _).alloc _).trans (E1.trans h)),blk_top J65 ((xr.alloc _).trans (E1.trans h)),blk_top J65 (E1.trans h)⟩
 clear E1 co
 go_upto_region 3 with fail
 go_cut [] (fun wx=>Ext w wx∧Blk wx (w.heap.size) (.int .i64 pk) (.int .i64 pn) (.string ps) (.int .i64 pe)∧Blk wx (w.heap.size+1) (.int .i64 qk) (.int .i64 qn) (.string qs) (.int .i64 qe)∧Blk wx (w.heap.size+1+1) (.int .i64 0) (.int .i64 0) (.string ⟨#[]⟩) (.int .i64 0)∧Same (w.heap.size+1+1+1) w1 wx)
 case first =>
   obtain ⟨⟨az,⟨a0,a1,a2,a3⟩,af0,af1,af2,af3⟩,⟨bz,⟨b0,b1,b2,b3⟩,bf0,bf1,bf2,bf3⟩,_⟩:=hK.out w1 xr
   have d1:=fun W (h:Ext w1 W)=>c1 W (hN.ext (XW.trans h))
   have d2:=fun W (h:Ext w1 W)=>c2 W (hN.ext (XW.trans h))
   clear c1 c2 hD e0 H1 H2 H3
   go_region_with (first | (go_at_call 96;have q1:=E5;refine Calls.mono (d2 _ ?hh) ?_;(case hh=>(with_reducible repeat (first | assumption | exact xr | apply Ext.drew | apply Ext.drewN)));rintro e w6 ⟨rfl,E6⟩;have X6:Ext w1 w6:=Ext.trans J22 E6;obtain ⟨⟨az,⟨a0,a1,a2,a3⟩,af0,af1,af2,af3⟩,⟨bz,⟨b0,b1,b2,b3⟩,bf0,bf1,bf2,bf3⟩,_⟩:=hK.out  w6 X6) | (go_at_call 96;refine Calls.mono (d1 _ ?hh) ?_;(case hh=>(with_reducible repeat (first | assumption | exact xr | apply Ext.drew | apply Ext.drewN)));rintro e w5 ⟨rfl,E5⟩;have X5:Ext w1 w5:=Ext.trans J22 E5;obtain ⟨⟨az,⟨a0,a1,a2,a3⟩,af0,af1,af2,af3⟩,⟨bz,⟨b0,b1,b2,b3⟩,bf0,bf1,bf2,bf3⟩,_⟩:=hK.out  w5 X5))
   all_goals
     obtain ⟨A6,B6,R6⟩:=hK.out w6 X6
     have X7:Ext w w6:=XW.trans X6
     have S6:Same (w.heap.size+1+1+1) w1 w6:=(Same.refl _ _).ext X6
     go_wp2_with fail
     go_meet
     case rel =>
       refine ⟨?_,?_,?_,?_,?_⟩
       · ((with_reducible (repeat' (first | assumption | exact xr | apply Ext.alloc | apply Ext.drew | apply Ext.drewN | apply Ext.setCell)));all_goals (first | omega | (simp;done) | (simp;omega)))
       · ((with_reducible (repeat' (first | assumption | apply Blk.set | apply Blk.far | apply Blk.al | apply Blk.dr)));all_goals omega)
       · ((with_reducible (repeat' (first | assumption | apply Blk.set | apply Blk.far | apply Blk.al | apply Blk.dr)));all_goals omega)
       · ((with_reducible (repeat' (first | assumption | apply Blk.set | apply Blk.far | apply Blk.al | apply Blk.dr)));all_goals omega)
       · ((with_reducible (repeat' (first | assumption | exact Same.refl _ _ | (apply Same.ext <;> assumption) | apply Same.al | apply Same.dr | apply Same.set)));all_goals (first | omega | (simp;done) | (simp;omega)))
 case rest =>
   obtain ⟨X,A,B',R,SS⟩:=hcut
   have A':=A
   have B2:=B'
   obtain ⟨az,⟨a0,a1,a2,a3⟩,af0,af1,af2,af3⟩:=A'
   obtain ⟨bz,⟨b0,b1,b2,b3⟩,bf0,bf1,bf2,bf3⟩:=B2
   clear c1 c2 hK XW e0
   by_cases ha:pk = 4
   · have H:Hid (J.dat = _):=H1.out ha
     subst ha
     have c:=fun W h=>firsterr_a 4 pn ps pe qk qn qs qe wc.heap.size W h J9
     clear H1 H2 H3 hD hN SS
     go_wp2_with fail
     refine (c _ two_alloc).mono ?_
     rintro r w2 ⟨rfl,E2⟩
     have X2:Ext w w2:=Ext.trans J0 E2
     have R2:=(R.ext (xr.alloc _)).ext E2
     have R3:=R2
     obtain ⟨rz,⟨r0,r1,r2,r3⟩,rf0,rf1,rf2,rf3⟩:=R3
     go_wp2_with fail
     apply finB (b:=w.heap.size+1+1) (w:=w)
     case B=>((with_reducible (repeat' (first | assumption | apply Blk.set | apply Blk.far | apply Blk.al | apply Blk.dr)));all_goals omega)
     case hd=>rfl
     case E=>((with_reducible (repeat' (first | assumption | exact xr | apply Ext.alloc | apply Ext.drew | apply Ext.drewN | apply Ext.setCell)));all_goals (first | omega | (simp;done) | (simp;omega)))
     case hr=>intro g0 g1 g2 g3;simp [results,results97,go_sem,g0,g1,g2,g3]
     case hQ=>exact fun h=>⟨by rw [H.out],h⟩
   · by_cases hb:qk = 4
     · have H:Hid (J.dat = _):=H2.out ha hb
       subst hb
       have c:=fun W h=>firsterr_b pk pn ps pe 4 qn qs qe wc.heap.size W h J49 J9
       clear H1 H2 H3 ha hD hN SS
       go_wp2_with fail
       refine (c _ two_alloc).mono ?_
       rintro r w2 ⟨rfl,E2⟩
       have X2:Ext w w2:=Ext.trans J0 E2
       have R2:=(R.ext (xr.alloc _)).ext E2
       have R3:=R2
       obtain ⟨rz,⟨r0,r1,r2,r3⟩,rf0,rf1,rf2,rf3⟩:=R3
       go_wp2_with fail
       apply finB (b:=w.heap.size+1+1) (w:=w)
       case B=>((with_reducible (repeat' (first | assumption | apply Blk.set | apply Blk.far | apply Blk.al | apply Blk.dr)));all_goals omega)
       case hd=>rfl
       case E=>((with_reducible (repeat' (first | assumption | exact xr | apply Ext.alloc | apply Ext.drew | apply Ext.drewN | apply Ext.setCell)));all_goals (first | omega | (simp;done) | (simp;omega)))
       case hr=>intro g0 g1 g2 g3;simp [results,results97,go_sem,g0,g1,g2,g3]
       case hQ=>exact fun h=>⟨by rw [H.out],h⟩
     · obtain ⟨rfl,i1,i2⟩:=H3.out ha hb
       have c:=fun W h=>firsterr_n pk pn ps pe qk qn qs qe wc.heap.size W h J49 (by simpa using hb)
       have cr:=fun W hS hW=>hD.out W pn qn hS i1 i2 hW
       clear H1 H2 H3 ha hb i1 i2
       obtain ⟨u0,u1,u2,u3,hu⟩:=dat4 (reckon op pn qn)
       rw [hu] at cr
       have H:Hid ((reckon op pn qn).dat = _):=hu
       clear hu
       go_wp2_with fail
       refine (c _ two_alloc).mono ?_
       rintro r w2 ⟨rfl,E2⟩
       have A2:=(A.ext (xr.alloc _)).ext E2
       have B2:=(B'.ext (xr.alloc _)).ext E2
       have S2:=(SS.al _).ext E2
       have X2:Ext w w2:=Ext.trans J0 E2
       have R2:=(R.ext (xr.alloc _)).ext E2
       clear A B' SS E2 X R c az a0 a1 a2 a3 af0 af1 af2 af3 bz b0 b1 b2 b3 bf0 bf1 bf2 bf3
       have A3:=A2
       have B3:=B2
       obtain ⟨az,⟨a0,a1,a2,a3⟩,af0,af1,af2,af3⟩:=A3
       obtain ⟨bz,⟨b0,b1,b2,b3⟩,bf0,bf1,bf2,bf3⟩:=B3
       go_wp2_with fail
       refine (cr _ ?hs ?hn).mono ?_
       case hs=>((with_reducible (repeat' (first | assumption | exact Same.refl _ _ | (apply Same.ext <;> assumption) | apply Same.al | apply Same.dr | apply Same.set)));all_goals (first | omega | (simp;done) | (simp;omega)))
       case hn=>exact hN.ext J4
       rintro r w3 ⟨rfl,E3⟩
       have X3:Ext w w3:=Ext.trans J4 E3
       have R3:=(R2.ext (xr.alloc _)).ext E3
       have R4:=R3
       obtain ⟨rz,⟨r0,r1,r2,r3⟩,rf0,rf1,rf2,rf3⟩:=R4
       clear A2 B2 S2 cr X2 E3 az a0 a1 a2 a3 af0 af1 af2 af3 bz b0 b1 b2 b3 bf0 bf1 bf2 bf3
       go_wp2_with fail
       apply finB (b:=w.heap.size+1+1) (w:=w)
       case B=>((with_reducible (repeat' (first | assumption | apply Blk.set | apply Blk.far | apply Blk.al | apply Blk.dr)));all_goals omega)
       case hd=>rfl
       case E=>((with_reducible (repeat' (first | assumption | exact xr | apply Ext.alloc | apply Ext.drew | apply Ext.drewN | apply Ext.setCell)));all_goals (first | omega | (simp;done) | (simp;omega)))
       case hr=>intro g0 g1 g2 g3;simp [results,results97,go_sem,g0,g1,g2,g3]
       case hQ=>exact fun h=>⟨by rw [H.out],h⟩):p:=h
theorem K2 {p:Prop} (h:p:=by
 have cB:=fun b W'=>vbool_any b W'
 simp only [dat_eq] at cB
 clear na nb ha hb HB hv hN hk v
 obtain ⟨ak,an,sa,ae,bk,bn,sb,be,hl⟩:∃ ak an sa ae bk bn sb be,ak = a.k∧an = a.n∧sa = a.s∧ae = a.e∧bk = b.k∧bn = b.n∧sb = b.s∧be = b.e:=⟨_,_,_,_,_,_,_,_,rfl,rfl,rfl,rfl,rfl,rfl,rfl,rfl⟩
 obtain ⟨h1,h2,h3,h4,h5,h6,h7,h8⟩:=hl
 rw [← h1,← h2,← h3,← h4,← h5,← h6,← h7,← h8] at cA ⊢
 clear h1 h2 h3 h4 h5 h6 h7 h8 a b
 go_enter func69,ntmps69
 go_wp2_with fail
 refine (cA _ J1).mono ?_
 rintro e w1 ⟨rfl,E1⟩
 have E2:=E1
 have X1:Hid (Ext W w1):=Ext.trans J1 E1
 have D:=blk_top (b:=W.heap.size+1+1) J65 E2
 have D':=D
 obtain ⟨b0z,⟨b0_0,b0_1,b0_2,b0_3⟩,b0f0,b0f1,b0f2,b0f3⟩:=D'
 clear E1 E2 cA
 go_wp2_with fail
 refine (cH _).mono ?_
 rintro e w2 ⟨rfl,rfl⟩
 go_wp2_with fail
 refine (cB _ _).mono ?_
 rintro e w3 ⟨rfl,E3⟩
 have D3:=(D.al _).ext E3
 have X3:Hid (Ext W w3):=(X1.out.alloc _).trans E3
 clear b0z b0_0 b0_1 b0_2 b0_3 b0f0 b0f1 b0f2 b0f3
 have D3':=D3
 obtain ⟨b0z,⟨b0_0,b0_1,b0_2,b0_3⟩,b0f0,b0f1,b0f2,b0f3⟩:=D3'
 clear cH cB
 go_wp2_with fail
 exact finB ((D3.set _ _ _ _)) rfl ((((X3.out.setCell J6 _).setCell J6 _).setCell J6 _).setCell J6 _) J8 (fun h=>⟨rfl,h⟩)):p:=h
theorem K3 {p:Prop} (h:p:=by
 rw [HB]
 simp only [dat_eq] at cA
 generalize cmpV a b = o at *
 generalize cmpE a b = v at *
 obtain ⟨vk,vn,vs,ve,hv⟩:∃ vk vn vs ve,vk = v.k∧vn = v.n∧vs = v.s∧ve = v.e:=⟨_,_,_,_,rfl,rfl,rfl,rfl⟩
 rw [← hv.1,← hv.2.1,← hv.2.2.1,← hv.2.2.2] at cA ⊢
 rw [← hv.1] at hk
 have k4:(vk == 4) = true:=J96
 clear na nb ha hb HB hv hN hk v
 obtain ⟨ak,an,sa,ae,bk,bn,sb,be,hl⟩:∃ ak an sa ae bk bn sb be,ak = a.k∧an = a.n∧sa = a.s∧ae = a.e∧bk = b.k∧bn = b.n∧sb = b.s∧be = b.e:=⟨_,_,_,_,_,_,_,_,rfl,rfl,rfl,rfl,rfl,rfl,rfl,rfl⟩
 obtain ⟨h1,h2,h3,h4,h5,h6,h7,h8⟩:=hl
 rw [← h1,← h2,← h3,← h4,← h5,← h6,← h7,← h8] at cA ⊢
 clear h1 h2 h3 h4 h5 h6 h7 h8 a b
 go_enter func69,ntmps69
 go_wp2_with fail
 refine (cA _ J1).mono ?_
 rintro e w1 ⟨rfl,E1⟩
 have E2:=E1
 have X1:Hid (Ext W w1):=Ext.trans J1 E1
 have D:=blk_top (b:=W.heap.size+1+1) J65 E2
 have D':=D
 obtain ⟨b0z,⟨b0_0,b0_1,b0_2,b0_3⟩,b0f0,b0f1,b0f2,b0f3⟩:=D'
 clear E1 E2 cA
 go_wp2_with fail
 exact finB (((D.set _ _ _ _).al _)) rfl (((((X1.out.setCell J6 _).setCell J6 _).setCell J6 _).setCell J6 _).alloc _) J8 (fun h=>⟨rfl,h⟩)):p:=h
theorem K4 {p:Prop} (h:p:=by
 go_enter func199,ntmps199
 go_wp2_with fail
 refine (c0 _ (xr.alloc _)).mono ?_
 rintro e w1 ⟨rfl,E1⟩
 have B1:Hid (Blk w1 W.heap.size (.int .i64 0) (.int .i64 0) (.string ⟨#[]⟩) (.int .i64 0)∧Ext W w1):=⟨blk_top J65 E1,(xr.alloc _).trans E1⟩
 clear E1
 go_wp2_with fail
 refine (c1 _ B1.out.2).mono ?_
 rintro e w2 ⟨rfl,E2⟩
 have B2:Hid (Blk w2 W.heap.size (.int .i64 0) (.int .i64 0) (.string ⟨#[]⟩) (.int .i64 0)∧Ext W w2):=⟨B1.out.1.ext E2,B1.out.2.trans E2⟩
 clear E2
 go_wp2_with fail
 refine (C2 _ B2.out.2).mono ?_
 rintro e w3 ⟨p',c',rfl,hV,E3⟩
 have B3:Hid ((Blk w3 W.heap.size (.int .i64 0) (.int .i64 0) (.string ⟨#[]⟩) (.int .i64 0)∧Ext W w3)∧RdV w3.heap.size w3 (.slice p' m c') bl):=⟨⟨B2.out.1.ext E3,B2.out.2.trans E3⟩,hV⟩
 clear E3 hV
 go_wp2_with fail
 exact ⟨rfl,rfl,B3.out.1.2.alloc _⟩):p:=h
theorem K5 {p:Prop} (h:p:=by
 go_wp2_with fail
 go_loopw [8] (fun iv wr=>∃ j:Nat,j≤ln∧iv = .int .i64 (j:Int)∧(t.l.take j).all (wellT n) = true∧BlkX wr W.heap.size t (.slice pp ln cl)∧Ext W wr) (fun iv _=>ln - (intOf iv).toNat)
 case atStart=>exact ⟨0,Nat.zero_le _,rfl,rfl,blk13_top rfl xr,xr.alloc _⟩
 case round =>
   obtain ⟨j,hj,rfl,hg,hB,hE⟩:=hrel
   have HE:Hid (Ext W wr∧(t.l.take j).all (wellT n) = true):=⟨hE,hg⟩
   have HBX:Hid (BlkX wr W.heap.size t (.slice pp ln cl)):=hB
   obtain ⟨qz,⟨k0,k1,k2,k3,k4,k5,k6,k7,k8,k9,k10,k11,k12⟩,gz⟩:=hB
   clear hE hg gz
   by_cases hlt:j < ln
   · have hltI:(j:Int) < (ln:Int):=J2
     have hI:=HI.out.ext HE.out.1
     obtain ⟨gb,off,x,lv,hpp,hx1,hA1,hgb,hA2,hLx,hce⟩:=hI.at (i:=j) (by rw [HLN.out];exact hlt)
     clear hA1 hA2
     subst hpp
     obtain ⟨pp,cl',hlv,hcl⟩:=hLx.form
     obtain ⟨ln',hln'⟩:∃ ln',x.l.length = ln':=⟨_,rfl⟩
     rw [hln'] at hlv
     subst hlv
     have HX1:Hid (t.l[j]? = some x):=hx1
     have HLX:Hid (IsL wr P (.slice pp ln' cl') x.l):=hLx
     have HCW:Hid (∀ W',Ext wr W'→Calls Tryz.prog 24 #[.agg #[.int .i64 x.k,.int .i64 x.n,.string (bs x.s),.int .i64 x.e,.int .i64 x.r.1,.int .i64 x.r.2.1,.bool x.r.2.2.1,.bool x.r.2.2.2,.int .i64 x.q.1,.int .i64 x.q.2.1,.bool x.q.2.2.1,.bool x.q.2.2.2,.slice pp ln' cl']] W' fun e w'=>e = .returned (.bool (wellT n x))∧Ext W' w'):=fun W' e=>HXX.out x (List.mem_of_getElem? hx1) W' pp ln' cl' (hLx.ext e)
     have e0_:wr.cell? ⟨gb,off+j * 13,none⟩ = some (.int .i64 x.k):=hce 0 _ rfl
     have e1_:wr.cell? ⟨gb,off+j * 13+1,none⟩ = some (.int .i64 x.n):=hce 1 _ rfl
     have e2_:wr.cell? ⟨gb,off+j * 13+2,none⟩ = some (.string (bs x.s)):=hce 2 _ rfl
     have e3_:wr.cell? ⟨gb,off+j * 13+3,none⟩ = some (.int .i64 x.e):=hce 3 _ rfl
     have e4_:wr.cell? ⟨gb,off+j * 13+4,none⟩ = some (.int .i64 x.r.1):=hce 4 _ rfl
     have e5_:wr.cell? ⟨gb,off+j * 13+5,none⟩ = some (.int .i64 x.r.2.1):=hce 5 _ rfl
     have e6_:wr.cell? ⟨gb,off+j * 13+6,none⟩ = some (.bool x.r.2.2.1):=hce 6 _ rfl
     have e7_:wr.cell? ⟨gb,off+j * 13+7,none⟩ = some (.bool x.r.2.2.2):=hce 7 _ rfl
     have e8_:wr.cell? ⟨gb,off+j * 13+8,none⟩ = some (.int .i64 x.q.1):=hce 8 _ rfl
     have e9_:wr.cell? ⟨gb,off+j * 13+9,none⟩ = some (.int .i64 x.q.2.1):=hce 9 _ rfl
     have e10_:wr.cell? ⟨gb,off+j * 13+10,none⟩ = some (.bool x.q.2.2.1):=hce 10 _ rfl
     have e11_:wr.cell? ⟨gb,off+j * 13+11,none⟩ = some (.bool x.q.2.2.2):=hce 11 _ rfl
     have e12_:wr.cell? ⟨gb,off+j * 13+12,none⟩ = some (.slice pp ln' cl'):=hce 12 _ rfl
     clear hI hx1 hLx hce hcl hln'
     go_wp2_with fail
     refine (HCW.out _ (xr.alloc _)).mono ?_
     rintro e w1 ⟨rfl,E1⟩
     have HE1:Hid (Ext W w1):=(HE.out.1.alloc _).trans E1
     have HB1:Hid (BlkX w1 W.heap.size t (.slice (some ⟨gb,off,none⟩) ln cl)):=HBX.out.ext ((xr.alloc _).trans E1)
     clear E1 k0 k1 k2 k3 k4 k5 k6 k7 k8 k9 k10 k11 k12 e0_ e1_ e2_ e3_ e4_ e5_ e6_ e7_ e8_ e9_ e10_ e11_ e12_
     cases hgx:wellT n x
     · have HG:Hid ((wellT n) x = false):=J130
       clear hgx
       have HR:Hid (t.l.all (wellT n) = false):=by
         show _ = _
         rw [List.all_eq_false]
         exact ⟨x,List.mem_of_getElem? HX1.out,by rw [HG.out];simp⟩
       go_wp2_with fail
       go_ret
       exact ⟨ret_bool J47,HE1.out⟩
     · have HG:Hid ((wellT n) x = true):=J130
       clear hgx
       have HR:Hid ((t.l.take (j+1)).all (wellT n) = true):=J131
       go_wp2_with fail
       go_roundw
       case rel=>exact ⟨j+1,by omega,by go_num,HR.out,HB1.out,HE1.out⟩
       case measure=>show ln - ((j:Int)+1).toNat < ln - ((j:Int)).toNat;omega
   · have hltI:¬ (j:Int) < (ln:Int):=J2
     have HR:Hid (t.l.all (wellT n) = true):=by
       show _ = _
       have:=HE.out.2
       rw [List.take_of_length_le (by have:=HLN.out;omega)] at this
       exact this
     go_wp2_with fail
     go_ret
     exact ⟨ret_bool J63,HE.out.1⟩):p:=h
theorem K6 {p:Prop} (h:p:=by
 rintro e w1 ⟨rfl,E1⟩
 have B1:Hid (Blk w1 W.heap.size (.int .i64 0) (.int .i64 0) (.string ⟨#[]⟩) (.int .i64 0)∧Ext W w1):=⟨blk_top J65 E1,(xr.alloc _).trans E1⟩
 clear E1
 obtain ⟨z,⟨b0,b1,b2,b3⟩,f0,f1,f2,f3⟩:=B1.out.1
 go_wp2_with fail
 exact fin4 b0 b1 b2 b3 rfl J65 B1.out.2 J5 (fun W h=>⟨rfl,h⟩)):p:=h
theorem K7 {p:Prop} (h:p:=by
 clear hz ok
 go_enter func131,ntmps131
 go_wp2_with fail
 refine (c0 _ (hN.ext J0)).mono ?_
 rintro r w1 ⟨rfl,E1⟩
 have X1:Ext w w1:=Ext.trans J0 E1
 have B0_1:=blk_top (b:=w.heap.size) J65 ((xr.alloc _).trans E1)
 have B1_1:=blk_top (b:=w.heap.size+1) J65 E1
 have D0:=B0_1
 obtain ⟨b0z,⟨b0_0,b0_1,b0_2,b0_3⟩,b0f0,b0f1,b0f2,b0f3⟩:=D0
 have D1:=B1_1
 obtain ⟨b1z,⟨b1_0,b1_1,b1_2,b1_3⟩,b1f0,b1f1,b1f2,b1f3⟩:=D1
 go_wp2_with fail
 refine (c1 _ (hN.ext J0) (hT.ext J0)).mono ?_
 rintro r w2 ⟨rfl,E2⟩
 have X2:Ext w w2:=Ext.trans J0 E2
 have B1_2:=(B1_1.far (c:=w.heap.size) J65 _ _ _ _).ext E2
 go_wp2_with fail
 refine (c2 _ (hN.ext J0)).mono ?_
 rintro r w3 ⟨rfl,E3⟩
 have X3:Ext w w3:=Ext.trans J0 E3
 have B1_3:=B1_2.ext E3
 have D1:=B1_3
 obtain ⟨b1z,⟨b1_0,b1_1,b1_2,b1_3⟩,b1f0,b1f1,b1f2,b1f3⟩:=D1
 go_wp2_with fail
 exact finB (B1_3.set _ _ _ _) rfl J0 J27 (fun h=>⟨by rw [H.out];rfl,h⟩)):p:=h
theorem K8 {p:Prop} (h:p:=by
 try go_frame
 refine tkI (i:=22) (oi:=⟨some 36,.pick (.tmp 22) (.const (.bool true)) (.tmp 35),4, "ref.go:184",#[⟨8,.data⟩,⟨21,.data⟩],none⟩) ?_
 try go_frame
 refine tkI (i:=23) (oi:=⟨some 37,.move (.tmp 36),4, "ref.go:184",#[⟨22,.data⟩,⟨8,.chain⟩],none⟩) ?_
 try go_frame
 refine tkU (i:=24) (oi:=⟨some 38,.move (.tmp 0),86, "ref.go:184",#[⟨23,.guard⟩],some (23,false)⟩) ?_
 try go_frame
 refine tkU (i:=25) (oi:=⟨some 39,.nilCheck (.tmp 38),0, "ref.go:184",#[⟨24,.data⟩,⟨23,.guard⟩],some (23,false)⟩) ?_
 try go_frame
 refine tkU (i:=26) (oi:=⟨some 40,.fieldAddr 88 (.tmp 39) 0,0, "ref.go:184",#[⟨25,.data⟩,⟨23,.guard⟩],some (23,false)⟩) ?_
 try go_frame
 refine tkU (i:=27) (oi:=⟨some 41,.load 83 (.tmp 40),83, "ref.go:184",#[⟨26,.data⟩,⟨23,.guard⟩],some (23,false)⟩) ?_
 try go_frame
 refine tkU (i:=28) (oi:=⟨some 42,.move (.tmp 0),86, "ref.go:184",#[⟨23,.guard⟩],some (23,false)⟩) ?_
 try go_frame
 refine tkU (i:=29) (oi:=⟨some 43,.nilCheck (.tmp 42),0, "ref.go:184",#[⟨28,.data⟩,⟨23,.guard⟩],some (23,false)⟩) ?_
 try go_frame
 refine tkU (i:=30) (oi:=⟨some 44,.fieldAddr 88 (.tmp 43) 1,0, "ref.go:184",#[⟨29,.data⟩,⟨23,.guard⟩],some (23,false)⟩) ?_
 try go_frame
 refine tkU (i:=31) (oi:=⟨some 45,.load 3 (.tmp 44),3, "ref.go:184",#[⟨30,.data⟩,⟨23,.guard⟩],some (23,false)⟩) ?_
 try go_frame
 refine tkU (i:=32) (oi:=⟨some 46,.binOp .add 3 (.tmp 45) (.const (.int .i64 1)) 3,3, "ref.go:184",#[⟨31,.data⟩,⟨23,.guard⟩],some (23,false)⟩) ?_
 try go_frame
 refine tkU (i:=33) (oi:=⟨some 47,.indexAddr 83 (.tmp 41) (.tmp 46),0, "ref.go:184",#[⟨27,.data⟩,⟨32,.data⟩,⟨23,.guard⟩],some (23,false)⟩) ?_
 try go_frame
 refine tkU (i:=34) (oi:=⟨some 48,.fieldAddr 91 (.tmp 47) 2,0, "ref.go:184",#[⟨33,.data⟩,⟨23,.guard⟩],some (23,false)⟩) ?_
 try go_frame
 refine tkU (i:=35) (oi:=⟨some 49,.load 9 (.tmp 48),9, "ref.go:184",#[⟨34,.data⟩,⟨23,.guard⟩],some (23,false)⟩) ?_
 try go_frame
 refine tkU (i:=36) (oi:=⟨some 50,.binOp .neq 9 (.tmp 49) (.const (.string ⟨#[58]⟩)) 9,4, "ref.go:184",#[⟨35,.data⟩,⟨23,.guard⟩],some (23,false)⟩) ?_
 try go_frame
 refine tkI (i:=37) (oi:=⟨some 51,.pick (.tmp 37) (.const (.bool true)) (.tmp 50),4, "ref.go:184",#[⟨23,.data⟩,⟨36,.data⟩],none⟩) ?_
 try go_frame
 refine wpAnyH_done J3 ?_ _
 go_wp2_with fail
 refine (HX.out _ ts d pa 1 (HR.out.ext X9) HN.out.1 HN.out.2.1 J2 J2).mono ?_
 intro e w4 h4
 obtain ⟨x,p,l,c,rfl,hY⟩:=h4.form
 have HY:Hid (RY w0 b W ts.length (d - 1) d (LvK (O n) 1 d ts) x (.slice p l c) (putX w4 W.heap.size x (.slice p l c))):=hY.put (Ext.toB X9 b) (by have:=((Ext.refl V3).drew.trans E9).size;omega) hgW HN.out.2.2 nrf
 have HB4:Hid (BlkX w4 W.heap.size tz (.slice none 0 0)):=(HV.out.1.ext ((Ext.refl V3).drew.trans E9)).extB hY.1 hgW
 have HB0:=HB4.out
 obtain ⟨qa,⟨la0,la1,la2,la3,la4,la5,la6,la7,la8,la9,la10,la11,la12⟩,ga0,ga1,ga2,ga3,ga4,ga5,ga6,ga7,ga8,ga9,ga10,ga11,ga12⟩:=HB0
 clear h4 hY
 unfold aggX
 go_wp2_with fail
 show bodyPost Tryz.prog _ _ _ _ (putX w4 W.heap.size x (.slice p l c))
 rw [HXX.out]
 exact endR (HB4.out.put x (.slice p l c)) rfl HY.out.back J14):p:=h
theorem K9 {p:Prop} (h:p:=by
 obtain ⟨vk,vn,vs,ve,hv⟩:∃ vk vn vs ve,vk = v.k∧vn = v.n∧vs = v.s∧ve = v.e:=⟨_,_,_,_,rfl,rfl,rfl,rfl⟩
 rw [← hv.1,← hv.2.1,← hv.2.2.1,← hv.2.2.2] at cA ⊢
 clear na nb ha hb HB hv hN v
 obtain ⟨ak,an,sa,ae,bk,bn,sb,be,hl⟩:∃ ak an sa ae bk bn sb be,ak = a.k∧an = a.n∧sa = a.s∧ae = a.e∧bk = b.k∧bn = b.n∧sb = b.s∧be = b.e:=⟨_,_,_,_,_,_,_,_,rfl,rfl,rfl,rfl,rfl,rfl,rfl,rfl⟩
 obtain ⟨h1,h2,h3,h4,h5,h6,h7,h8⟩:=hl
 rw [← h1,← h2,← h3,← h4,← h5,← h6,← h7,← h8] at cA ⊢
 clear h1 h2 h3 h4 h5 h6 h7 h8 a b
 go_enter func69,ntmps69
 go_wp2_with fail
 go_region_with (refine (cA _ J1).mono ?_;rintro e w1 ⟨rfl,E1⟩;have E2:=Ext.trans (Ext.drew xr) E1;have X1:Hid (Ext W w1):=Ext.trans J1 E1;have D:=blk_top (b:=W.heap.size+1+1) J65 E2;have D':=D;obtain ⟨b0z,⟨b0_0,b0_1,b0_2,b0_3⟩,b0f0,b0f1,b0f2,b0f3⟩:=D')
 all_goals
   go_wp2_with fail
   exact finB ((D.set _ _ _ _)) rfl ((((X1.out.setCell J6 _).setCell J6 _).setCell J6 _).setCell J6 _) J8 (fun h=>⟨rfl,h⟩)):p:=h
theorem K10 {p:Prop} (h:p:=by
 clear hv
 obtain ⟨vk,vn,vs,ve,hvv⟩:∃ vk vn vs ve,v.k = vk∧v.n = vn∧v.s = vs∧v.e = ve:=⟨_,_,_,_,rfl,rfl,rfl,rfl⟩
 obtain ⟨q1,q2,q3,q4⟩:=hvv
 rw [q1,q2,q3,q4] at cA ⊢
 clear q1 q2 q3 q4 v
 go_enter func37,ntmps37
 go_wp2_with fail
 refine (cA _ ((xr.alloc _).alloc _)).mono ?_
 rintro e w1 ⟨rfl,E1⟩
 have X1:Hid (Ext W w1):=((xr.alloc _).alloc _).trans E1
 have D:=blk_top (b:=W.heap.size+1) J65 E1
 have D':=D
 obtain ⟨b0z,⟨b0_0,b0_1,b0_2,b0_3⟩,b0f0,b0f1,b0f2,b0f3⟩:=D'
 clear E1 cA
 go_wp2_with fail
 exact finB ((D.set _ _ _ _)) rfl ((((X1.out.setCell J65 _).setCell J65 _).setCell J65 _).setCell J65 _) J21 (fun h=>⟨rfl,h⟩)):p:=h
theorem K11 {p:Prop} (h:p:=by
 go_enter func137,ntmps137
 go_wp2_with fail
 refine (c0 _ (xr.alloc _)).mono ?_
 rintro e w1 ⟨rfl,E1⟩
 have B1:Hid (Blk w1 W.heap.size (.int .i64 0) (.int .i64 0) (.string ⟨#[]⟩) (.int .i64 0)∧Ext W w1):=⟨blk_top J65 E1,(xr.alloc _).trans E1⟩
 clear E1
 go_wp2_with fail
 refine (c1 _ B1.out.2).mono ?_
 rintro e w2 ⟨rfl,E2⟩
 have B2:Hid (Blk w2 W.heap.size (.int .i64 0) (.int .i64 0) (.string ⟨#[]⟩) (.int .i64 0)∧Ext W w2):=⟨B1.out.1.ext E2,B1.out.2.trans E2⟩
 clear E2
 obtain ⟨z,⟨b0,b1,b2,b3⟩,f0,f1,f2,f3⟩:=B2.out.1
 go_wp2_with fail
 exact fin4 b0 b1 b2 b3 rfl J65 B2.out.2 J5 (fun W h=>⟨rfl,h⟩)):p:=h
theorem K12 {p:Prop} (h:p:=by
 simp only [V.dat] at c1
 clear ok
 go_enter func96,ntmps96
 go_wp2_with fail
 refine (c0 _ (hN.ext J0)).mono ?_
 rintro r w1 ⟨rfl,E1⟩
 have X1:Ext w w1:=Ext.trans J0 E1
 have B0_1:=blk_top (b:=w.heap.size) J65 ((xr.alloc _).trans E1)
 have B1_1:=blk_top (b:=w.heap.size+1) J65 E1
 have D0:=B0_1
 obtain ⟨b0z,⟨b0_0,b0_1,b0_2,b0_3⟩,b0f0,b0f1,b0f2,b0f3⟩:=D0
 have D1:=B1_1
 obtain ⟨b1z,⟨b1_0,b1_1,b1_2,b1_3⟩,b1f0,b1f1,b1f2,b1f3⟩:=D1
 go_wp2_with fail
 refine (c1 _ (hN.ext J0)).mono ?_
 rintro r w2 ⟨rfl,E2⟩
 have X2:Ext w w2:=Ext.trans J0 E2
 have B1_2:=(B1_1.far (c:=w.heap.size) J65 _ _ _ _).ext E2
 have D1:=B1_2
 obtain ⟨b1z,⟨b1_0,b1_1,b1_2,b1_3⟩,b1f0,b1f1,b1f2,b1f3⟩:=D1
 go_wp2_with fail
 exact finB (B1_2.set _ _ _ _) rfl J0 J24 (fun h=>⟨rfl,h⟩)):p:=h
theorem K13 {p:Prop} (h:p:=by
 generalize w1.heap.size = P2 at *
 generalize hV2:W.heap.size = V2 at *
 clear hV2
 refine wp_region_held_drew (S:=(fun W3=>W3.cell? ⟨b,0,none⟩ = some (.map (some g))∧W3.cell? ⟨P2,0,none⟩ = some (.int .i64 r)∧W3.cell? ⟨P2,1,none⟩ = some (.int .i64 c)∧W3.cell? ⟨V2,0,none⟩ = some (.int .i64 vk)∧W3.cell? ⟨V2,1,none⟩ = some (.int .i64 vn)∧W3.cell? ⟨V2,2,none⟩ = some (.string vs)∧W3.cell? ⟨V2,3,none⟩ = some (.int .i64 ve))) J3 ?_ (fun hHeld0=>?_)
 · (first | exact HA.out | exact HB.out)
 refine tkI (i:=0) (oi:=⟨some 35,.move (.tmp 0),25, "board.go:36",#[],none⟩) ?_
 try go_frame
 refine tkI (i:=1) (oi:=⟨some 36,.nilCheck (.tmp 35),0, "board.go:36",#[⟨0,.data⟩],none⟩) ?_
 try go_frame
 refine tkI (i:=2) (oi:=⟨some 37,.fieldAddr 66 (.tmp 36) 0,0, "board.go:36",#[⟨1,.data⟩],none⟩) ?_
 try go_frame
 refine tkI (i:=3) (oi:=⟨some 38,.load 64 (.tmp 37),64, "board.go:36",#[⟨2,.data⟩],none⟩) ?_
 try go_frame
 refine tkI (i:=4) (oi:=⟨some 39,.load 24 (.tmp 8),24, "board.go:36",#[],none⟩) ?_
 try go_frame
 refine tkI (i:=5) (oi:=⟨some 40,.load 33 (.tmp 7),33, "board.go:36",#[],none⟩) ?_
 try go_frame
 refine wpAnyH_ready (rs:=[6]) J3 J65 ?_
 refine AllReadyH.cons (o:=⟨none,.mapUpdate 64 (.tmp 38) (.tmp 39) (.tmp 40),0, "board.go:36",#[⟨3,.data⟩,⟨4,.data⟩,⟨5,.data⟩,⟨0,.phase⟩,⟨1,.phase⟩,⟨2,.phase⟩,⟨3,.phase⟩,⟨4,.phase⟩,⟨5,.phase⟩],none⟩) rfl (fun K hK=>?_) AllReadyH.nil
 refine step_update rfl _ _ _ _ rfl _ _ _ rfl rfl rfl _ HR2.out ?_
 refine hK.out _ _ ?_ (fun hHeld1=>?_)
 · (try dsimp only);(first | exact HA.out | exact HB.out)
 clear hK K hHeld0
 try simp only [Act.put]
 refine wpAnyH_done J3 ?_ _
 go_wp2_with fail
 refine bodyPost_ret (v:=.tuple #[]) J42 rfl ?_
 exact HQ.out):p:=h
theorem K14 {p:Prop} (h:p:=by
 go_enter func137,ntmps137
 go_wp2_with fail
 refine (c0 _ (xr.alloc _)).mono ?_
 rintro e w1 ⟨rfl,E1⟩
 have B1:Hid (Blk w1 W.heap.size (.int .i64 0) (.int .i64 0) (.string ⟨#[]⟩) (.int .i64 0)∧Ext W w1):=⟨blk_top J65 E1,(xr.alloc _).trans E1⟩
 clear E1
 go_wp2_with fail
 refine (c1 _ B1.out.2).mono ?_
 rintro e w2 ⟨rfl,E2⟩
 have B2:Hid (Blk w2 W.heap.size (.int .i64 0) (.int .i64 0) (.string ⟨#[]⟩) (.int .i64 0)∧Ext W w2):=⟨B1.out.1.ext E2,B1.out.2.trans E2⟩
 clear E2
 go_wp2_with fail
 refine (c2 _ B2.out.2).mono ?_
 rintro e w3 ⟨rfl,E3⟩
 have B3:Hid (Blk w3 W.heap.size (.int .i64 0) (.int .i64 0) (.string ⟨#[]⟩) (.int .i64 0)∧Ext W w3):=⟨B2.out.1.ext E3,B2.out.2.trans E3⟩
 clear E3
 obtain ⟨z,⟨b0,b1,b2,b3⟩,f0,f1,f2,f3⟩:=B3.out.1
 go_wp2_with fail
 exact fin4 b0 b1 b2 b3 rfl J65 B3.out.2 J5 (fun W h=>⟨rfl,h⟩)):p:=h
theorem K15 {p:Prop} (h:p:=by
 go_enter func218,ntmps218
 go_wp2_with fail
 refine (c1 _).mono ?_
 rintro r w1 ⟨rfl,E1⟩
 have X1:Ext w w1:=Ext.trans J0 E1
 have B0_1:=blk_top (b:=w.heap.size) J65 E1
 have D0:=B0_1
 obtain ⟨b0z,⟨b0_0,b0_1,b0_2,b0_3⟩,b0f0,b0f1,b0f2,b0f3⟩:=D0
 go_wp2_with fail
 refine (c2 _ (hN.ext J0)).mono ?_
 rintro r w2 ⟨rfl,E2⟩
 have X2:Ext w w2:=Ext.trans J0 E2
 have B0_2:=B0_1.ext E2
 have D0:=B0_2
 obtain ⟨b0z,⟨b0_0,b0_1,b0_2,b0_3⟩,b0f0,b0f1,b0f2,b0f3⟩:=D0
 go_wp2_with fail
 exact finB (B0_2.set _ _ _ _) rfl J0 J20 (fun h=>⟨by rw [H.out],h⟩)):p:=h
theorem K16 {p:Prop} (h:p:=by
 rintro e w2 ⟨rfl,rfl⟩
 go_wp2_with fail
 refine (c3 _).mono ?_
 rintro e w3 ⟨rfl,E3⟩
 have B3:=blk5_top rfl E3
 have X3:=((Ext.refl w).alloc _).trans E3
 have D3:=B3
 obtain ⟨_,⟨b0,b1,b2,b3,b4⟩,f0,f1,f2,f3,f4⟩:=D3
 clear E3
 go_wp2_with fail
 refine fin5 _ (B3.set _ _ _ _ _) rfl J0 J16 (fun h=>⟨?_,h⟩)
 rw [R0.out]
 exact rfl):p:=h
theorem K17 {p:Prop} (h:p:=by
 go_enter func218,ntmps218
 go_wp2_with fail
 refine (c1 _).mono ?_
 rintro r w1 ⟨rfl,E1⟩
 have X1:Ext w w1:=Ext.trans J0 E1
 have B0_1:=blk_top (b:=w.heap.size) J65 E1
 have D0:=B0_1
 obtain ⟨b0z,⟨b0_0,b0_1,b0_2,b0_3⟩,b0f0,b0f1,b0f2,b0f3⟩:=D0
 go_wp2_with fail
 refine (c3 _ (hN.ext J0)).mono ?_
 rintro r w2 ⟨rfl,E2⟩
 have X2:Ext w w2:=Ext.trans J0 E2
 have B0_2:=B0_1.ext E2
 have D0:=B0_2
 obtain ⟨b0z,⟨b0_0,b0_1,b0_2,b0_3⟩,b0f0,b0f1,b0f2,b0f3⟩:=D0
 go_wp2_with fail
 exact finB (B0_2.set _ _ _ _) rfl J0 J20 (fun h=>⟨rfl,h⟩)):p:=h
theorem K18 {p:Prop} (h:p:=by
 clear ok
 go_enter func243,ntmps243
 go_wp2_with fail
 refine (c0 _ (hN.ext J0)).mono ?_
 rintro r w1 ⟨rfl,E1⟩
 have X1:Ext w w1:=Ext.trans J0 E1
 have B0_1:=blk_top (b:=w.heap.size) J65 ((xr.alloc _).trans E1)
 have B1_1:=blk_top (b:=w.heap.size+1) J65 E1
 have D0:=B0_1
 obtain ⟨b0z,⟨b0_0,b0_1,b0_2,b0_3⟩,b0f0,b0f1,b0f2,b0f3⟩:=D0
 have D1:=B1_1
 obtain ⟨b1z,⟨b1_0,b1_1,b1_2,b1_3⟩,b1f0,b1f1,b1f2,b1f3⟩:=D1
 go_wp2_with fail
 refine (c1 _).mono ?_
 rintro r w2 ⟨rfl,E2⟩
 have X2:Ext w w2:=Ext.trans J0 E2
 have B1_2:=(B1_1.far (c:=w.heap.size) J65 _ _ _ _).ext E2
 have D1:=B1_2
 obtain ⟨b1z,⟨b1_0,b1_1,b1_2,b1_3⟩,b1f0,b1f1,b1f2,b1f3⟩:=D1
 go_wp2_with fail
 exact finB (B1_2.set _ _ _ _) rfl J0 J23 (fun h=>⟨rfl,h⟩)):p:=h
theorem K19 {p:Prop} (h:p:=by
 have cS:=fun W=>signed_mod neg (X) W
 have HF1:Hid (grB X = true→rdV s.data.toList = 0∧rdK s.data.toList = 2):=fin_great HN.out.1 HN.out.2 nrf
 have HF2:Hid (grB X = false→sgnB ((X) % 340282366920938463463374607431768211456) = false→rdV s.data.toList = 0∧rdK s.data.toList = 2):=fin_not HN.out.1 HN.out.2 J2
 have HF3:Hid (grB X = false→sgnB ((X) % 340282366920938463463374607431768211456) = true→rdV s.data.toList = sgnV neg ((X) % 340282366920938463463374607431768211456)∧rdK s.data.toList = 1):=fun h1 h2=>fin_is HN.out.1 HN.out.2 J2 h1 h2 HNeg.out
 generalize sgnV neg ((X) % 340282366920938463463374607431768211456) = V at *
 generalize sgnB ((X) % 340282366920938463463374607431768211456) = B at *
 generalize grB X = G at *
 go_wp2_with fail
 refine (cS _).mono ?_
 rintro e w4 ⟨rfl,E4⟩
 cases G
 · cases B
   · have HFF:=HF2.out rfl rfl
     have HFH:Hid (rdV s.data.toList = 0∧rdK s.data.toList = 2):=HFF
     clear HFF HF1 HF2 HF3
     go_wp2_with fail
     go_ret2
     exact ⟨ret_ii HFH.out.1.symm HFH.out.2.symm,HP.out.1.trans E4⟩
   · have HFF:=HF3.out rfl rfl
     have HFH:Hid (rdV s.data.toList = V∧rdK s.data.toList = 1):=HFF
     clear HFF HF1 HF2 HF3
     go_wp2_with fail
     go_ret2
     exact ⟨ret_ii HFH.out.1.symm HFH.out.2.symm,HP.out.1.trans E4⟩
 · have HFF:=HF1.out rfl
   have HFH:Hid (rdV s.data.toList = 0∧rdK s.data.toList = 2):=HFF
   clear HFF HF1 HF2 HF3
   go_wp2_with fail
   go_ret2
   exact ⟨ret_ii HFH.out.1.symm HFH.out.2.symm,HP.out.1.trans E4⟩):p:=h
theorem K20 {p:Prop} (h:p:=by
 go_wp2_with fail
 go_meet
 case rel =>
   refine ⟨?_,?_,?_,?_⟩
   · ((with_reducible (repeat' (first | assumption | exact xr | apply Ext.alloc | apply Ext.drew | apply Ext.drewN | apply Ext.setCell)));all_goals (first | omega | (simp;done) | (simp;omega)))
   · ((with_reducible (repeat' (first | assumption | apply Blk.set | apply Blk.far | apply Blk.al | apply Blk.dr)));all_goals omega)
   · ((with_reducible (repeat' (first | assumption | apply Blk.set | apply Blk.far | apply Blk.al | apply Blk.dr)));all_goals omega)
   · ((with_reducible (repeat' (first | assumption | apply Blk.set | apply Blk.far | apply Blk.al | apply Blk.dr)));all_goals omega)):p:=h
theorem K21 {p:Prop} (h:p:=by
 go_enter func187,ntmps187
 go_wp2_with fail
 refine (c0 _ (xr.alloc _)).mono ?_
 rintro e w1 ⟨rfl,E1⟩
 have B1:Hid (Blk w1 W.heap.size (.int .i64 0) (.int .i64 0) (.string ⟨#[]⟩) (.int .i64 0)∧Ext W w1):=⟨blk_top J65 E1,(xr.alloc _).trans E1⟩
 clear E1
 go_wp2_with fail
 refine (c1 _ B1.out.2).mono ?_
 rintro e w2 ⟨rfl,E2⟩
 have B2:Hid (Blk w2 W.heap.size (.int .i64 0) (.int .i64 0) (.string ⟨#[]⟩) (.int .i64 0)∧Ext W w2):=⟨B1.out.1.ext E2,B1.out.2.trans E2⟩
 clear E2
 obtain ⟨z,⟨b0,b1,b2,b3⟩,f0,f1,f2,f3⟩:=B2.out.1
 go_wp2_with fail
 exact fin4 b0 b1 b2 b3 rfl J65 B2.out.2 J40 (fun W h=>⟨rfl,h⟩)):p:=h
theorem K22 {p:Prop} (h:p:=by
 go_wp2_with fail
 go_ret3
 exact ⟨rfl,rfl⟩):p:=h
theorem K23 {p:Prop} (h:p:=by
 refine tkI (i:=0) (oi:=⟨some 21,.move (.tmp 0),25, "board.go:30",#[],none⟩) ?_
 try go_frame
 refine tkI (i:=1) (oi:=⟨some 22,.nilCheck (.tmp 21),0, "board.go:30",#[⟨0,.data⟩],none⟩) ?_
 try go_frame
 refine tkI (i:=2) (oi:=⟨some 23,.fieldAddr 66 (.tmp 22) 0,0, "board.go:30",#[⟨1,.data⟩],none⟩) ?_
 try go_frame
 refine tkI (i:=3) (oi:=⟨some 24,.load 64 (.tmp 23),64, "board.go:30",#[⟨2,.data⟩],none⟩) ?_
 try go_frame
 refine tkI (i:=4) (oi:=⟨some 25,.load 24 (.tmp 8),24, "board.go:30",#[],none⟩) ?_
 try go_frame
 refine wpAnyH_ready (rs:=[5]) J3 J65 ?_
 refine AllReadyH.cons (o:=⟨none,.call { callee:=.builtin .delete,args:=#[.tmp 24,.tmp 25],argTypes:=#[64,24] },0, "board.go:30",#[⟨3,.data⟩,⟨4,.data⟩],none⟩) rfl (fun K hK=>?_) AllReadyH.nil
 refine step_delete rfl _ _ _ _ rfl _ _ rfl rfl _ (HR2.out _) ?_
 refine hK.out _ _ ?_ (fun hHeld1=>?_)
 · (try dsimp only);(first | exact HA.out | exact HB.out)
 clear hK K hHeld0
 try simp only [Act.put]
 refine wpAnyH_done J3 ?_ _
 go_wp2_with fail
 refine bodyPost_ret (v:=.tuple #[]) J42 rfl ?_
 exact HQ.out):p:=h
theorem K24 {p:Prop} (h:p:=by
 have HB0:=HB4.out
 obtain ⟨qa,⟨la0,la1,la2,la3,la4,la5,la6,la7,la8,la9,la10,la11,la12⟩,ga0,ga1,ga2,ga3,ga4,ga5,ga6,ga7,ga8,ga9,ga10,ga11,ga12⟩:=HB0
 clear h4 hY
 unfold aggX
 go_wp2_with fail
 show bodyPost Tryz.prog _ _ _ _ (putX w4 W.heap.size x (.slice p l c))
 rw [HXX.out]
 exact endR (HB4.out.put x (.slice p l c)) rfl HY.out.back J14):p:=h
theorem K25 {p:Prop} (h:p:=by
 go_wp2_with fail
 apply finB (b:=w.heap.size+1+1) (w:=w)
 case B=>((with_reducible (repeat' (first | assumption | apply Blk.set | apply Blk.far | apply Blk.al | apply Blk.dr)));all_goals omega)
 case hd=>rfl
 case E=>((with_reducible (repeat' (first | assumption | exact xr | apply Ext.alloc | apply Ext.drew | apply Ext.drewN | apply Ext.setCell)));all_goals (first | omega | (simp;done) | (simp;omega)))
 case hr=>intro g0 g1 g2 g3;simp [results,results98,go_sem,g0,g1,g2,g3]
 case hQ=>exact fun h=>⟨by rw [H.out],h⟩):p:=h
theorem K26 {p:Prop} (h:p:=by
 clear hc hc' hm
 go_enter func226,ntmps226
 go_wp2_with fail
 refine (c _).mono ?_
 rintro e w' ⟨rfl,rfl⟩
 go_wp2_with fail
 refine (c1 _ hT).mono ?_
 rintro e w1 ⟨rfl,k1,os1,rfl⟩
 have E1:=ext_grow w' k1 os1
 generalize Sort.grow (w'.drewN k1) os1 = w1 at *
 go_wp2_with fail
 refine (c2 _ (hT.ext E1)).mono ?_
 rintro e w2 ⟨rfl,k2,os2,rfl⟩
 have E2:=ext_grow w1 k2 os2
 generalize Sort.grow (w1.drewN k2) os2 = w2 at *
 go_wp2_with fail
 refine (c4 _).mono ?_
 rintro e w3 ⟨rfl,rfl⟩
 by_cases hz:fracL (m % 10000) = []
 · have hz1:f.toList.isEmpty = true:=J70
   have HZ:Hid (bodyL m = Lib.decDigits (m / 10000)):=HE1.out hz
   clear hz
   go_wp2_with fail
   go_ret
   exact ⟨ret_s (mkL _ _ (by rw [H.out,HZ.out,app_list,HQ.out];rfl)),E1.trans E2⟩
 · have hz1:f.toList.isEmpty = false:=J70
   have HZ:Hid (bodyL m = Lib.decDigits (m / 10000) ++ 46 :: fracL (m % 10000)):=HE2.out hz
   clear hz
   go_wp2_with fail
   go_ret
   exact ⟨ret_s (mkL _ _ (by rw [H.out,HZ.out,app_list,app_list,app_list,HQ.out,HF.out];simp)),E1.trans E2⟩):p:=h
theorem K27 {p:Prop} (h:p:=by
 go_enter func14,ntmps14
 go_wp2_with fail
 refine (cW _ ((xr.alloc _).alloc _)).mono ?_
 rintro e w1 ⟨rfl,E1⟩
 have X1:Hid (Ext W w1):=((xr.alloc _).alloc _).trans E1
 have D1:=blk_top (b:=W.heap.size+1) J65 E1
 have F1:Hid (Blk13 w1 W.heap.size (.int .i64 t.k) (.int .i64 t.n) (.string (bs t.s)) (.int .i64 t.e) (.int .i64 t.r.1) (.int .i64 t.r.2.1) (.bool t.r.2.2.1) (.bool t.r.2.2.2) (.int .i64 t.q.1) (.int .i64 t.q.2.1) (.bool t.q.2.2.1) (.bool t.q.2.2.2) (.slice pp ln cl)):=(Blk13.al _ (blk13_top rfl xr)).ext E1
 obtain ⟨_,⟨a0,a1,a2,a3,a4,a5,a6,a7,a8,a9,a10,a11,a12⟩,_⟩:=F1.out
 clear E1 cW
 go_wp2_with fail
 refine (cA _ X1.out).mono ?_
 rintro e w2 ⟨rfl,E2⟩
 have X2:Hid (Ext W w2):=X1.out.trans E2
 have D:=D1.ext E2
 have D':=D
 obtain ⟨b0z,⟨b0_0,b0_1,b0_2,b0_3⟩,b0f0,b0f1,b0f2,b0f3⟩:=D'
 clear E2 cA
 go_wp2_with fail
 exact finB ((D.set _ _ _ _)) rfl ((((X2.out.setCell J65 _).setCell J65 _).setCell J65 _).setCell J65 _) J43 (fun h=>⟨rfl,h⟩)):p:=h
theorem K28 {p:Prop} (h:p:=by
 go_wp2_with fail
 refine (c0 _ (xr.alloc _)).mono ?_
 rintro e w1 ⟨rfl,E1⟩
 exact ⟨rfl,rfl,((xr.alloc _)).trans E1⟩):p:=h
theorem K29 {p:Prop} (h:p:=by
 go_wp2_with fail
 go_ret
 exact ⟨rfl,rfl⟩):p:=h
theorem K30 {p:Prop} (h:p:=by
 go_wp2_with fail
 refine (ct _).mono ?_
 rintro e w2 ⟨rfl,E2⟩
 go_wp2_with fail
 refine (cp _).mono ?_
 rintro e w3 ⟨rfl,E3⟩
 have HP3:Hid (Ext wc w3∧Pair w3 wc.heap.size X):=⟨(HP.out.1.trans E2).trans E3,(HP.out.2.ext E2).ext E3⟩
 have HS:Hid (Ext wc ((w3.setCell ⟨wc.heap.size,0,none⟩ (.int .u64 (uhi Y))).setCell ⟨wc.heap.size,1,none⟩ (.int .u64 (loOf Y)))∧Pair ((w3.setCell ⟨wc.heap.size,0,none⟩ (.int .u64 (uhi Y))).setCell ⟨wc.heap.size,1,none⟩ (.int .u64 (loOf Y))) wc.heap.size Y) :=
   ⟨(HP3.out.1.setCell (p:=⟨_,0,none⟩) nrf _).setCell (p:=⟨_,1,none⟩) nrf _,Pair.set HP3.out.2 _⟩
 obtain ⟨z',c0',c1',f0',f1'⟩:=HP3.out.2
 clear z c0 c1 f0 f1
 cases hg:grB X
 all_goals
   rw [hg] at HG2
   go_wp2_with fail
   go_roundw
   case rel=>exact ⟨j+1,by omega,by omega,by go_num,by rw [HX.out,HG2.out];rfl,by rw [HX.out];exact HS⟩
   case measure=>simp [intOf];omega):p:=h
theorem K31 {p:Prop} (h:p:=by
 rintro e w1 ⟨rfl,E1⟩
 exact ⟨rfl,rfl,((xr.alloc _)).trans E1⟩):p:=h
theorem K32 {p:Prop} (h:p:=by
 go_wp2_with fail
 refine (c0 _ (xr.alloc _)).mono ?_
 rintro e w1 ⟨rfl,E1⟩
 have B1:Hid (Blk w1 W.heap.size (.int .i64 0) (.int .i64 0) (.string ⟨#[]⟩) (.int .i64 0)∧Ext W w1):=⟨blk_top J65 E1,(xr.alloc _).trans E1⟩
 clear E1
 go_wp2_with fail
 refine (c1 _ B1.out.2).mono ?_
 rintro e w2 ⟨rfl,E2⟩
 have B2:Hid (Blk w2 W.heap.size (.int .i64 0) (.int .i64 0) (.string ⟨#[]⟩) (.int .i64 0)∧Ext W w2):=⟨B1.out.1.ext E2,B1.out.2.trans E2⟩
 clear E2
 go_wp2_with fail
 refine (c2 _ B2.out.2).mono ?_
 rintro e w3 ⟨rfl,E3⟩
 have B3:Hid (Blk w3 W.heap.size (.int .i64 0) (.int .i64 0) (.string ⟨#[]⟩) (.int .i64 0)∧Ext W w3):=⟨B2.out.1.ext E3,B2.out.2.trans E3⟩
 clear E3
 go_wp2_with fail
 refine (c3 _ B3.out.2).mono ?_
 rintro e w4 ⟨rfl,E4⟩
 exact ⟨rfl,rfl,(B3.out.2).trans E4⟩):p:=h
theorem K33 {p:Prop} (h:p:=by
 have hz:=B.1
 have hb:=h.block g hz (fun e=>hB.far hg e.symm)
 obtain ⟨z,⟨k0,k1,k2,k3,k4,k5,k6,k7,k8,k9,k10,k11,k12⟩,f0,f1,f2,f3,f4,f5,f6,f7,f8,f9,f10,f11,f12⟩:=B
 have k:=fun o=>World.cell?_of_block (a:=⟨g,o,none⟩) hb
 have f:=fun o=>World.frozen?_of_block (a:=⟨g,o,none⟩) hb
 exact ⟨llL z h.size,⟨(k 0).trans k0,(k 1).trans k1,(k 2).trans k2,(k 3).trans k3,(k 4).trans k4,(k 5).trans k5,(k 6).trans k6,(k 7).trans k7,(k 8).trans k8,(k 9).trans k9,(k 10).trans k10,(k 11).trans k11,(k 12).trans k12⟩,(f 0).trans f0,(f 1).trans f1,(f 2).trans f2,(f 3).trans f3,(f 4).trans f4,(f 5).trans f5,(f 6).trans f6,(f 7).trans f7,(f 8).trans f8,(f 9).trans f9,(f 10).trans f10,(f 11).trans f11,(f 12).trans f12⟩):p:=h
theorem K34 {p:Prop} (h:p:=by
 rintro e w2 ⟨rfl,rfl⟩
 go_wp2_with fail
 refine (c3 _).mono ?_
 rintro e w3 ⟨rfl,E3⟩
 have B3:=blk5_top rfl E3
 have X3:=((Ext.refl w).alloc _).trans E3
 have D3:=B3
 obtain ⟨_,⟨b0,b1,b2,b3,b4⟩,f0,f1,f2,f3,f4⟩:=D3
 clear E3
 go_wp2_with fail
 refine fin5 _ (B3.set _ _ _ _ _) rfl J0 J16 (fun h=>⟨?_,h⟩)
 rw [R0.out]
 exact rx_fin (0,[],V,0,numE l) k _ (by rw [HM.out])):p:=h
theorem K35 {p:Prop} (h:p:=by
 go_enter func25,ntmps25
 go_wp2_with fail
 refine (c0 _).mono ?_
 rintro r w1 ⟨rfl,E1⟩
 have X1:Ext w w1:=Ext.trans J0 E1
 have B0_1:=blk_top (b:=w.heap.size) J65 ((xr.alloc _).trans E1)
 have B1_1:=blk_top (b:=w.heap.size+1) J65 E1
 have D0:=B0_1
 obtain ⟨b0z,⟨b0_0,b0_1,b0_2,b0_3⟩,b0f0,b0f1,b0f2,b0f3⟩:=D0
 have D1:=B1_1
 obtain ⟨b1z,⟨b1_0,b1_1,b1_2,b1_3⟩,b1f0,b1f1,b1f2,b1f3⟩:=D1
 go_wp2_with fail
 refine (c1 _).mono ?_
 rintro r w2 ⟨rfl,E2⟩
 have X2:Ext w w2:=Ext.trans J0 E2
 have B1_2:=(B1_1.far (c:=w.heap.size) J65 _ _ _ _).ext E2
 have D1:=B1_2
 obtain ⟨b1z,⟨b1_0,b1_1,b1_2,b1_3⟩,b1f0,b1f1,b1f2,b1f3⟩:=D1
 go_wp2_with fail
 exact finB (B1_2.set _ _ _ _) rfl J0 J25 (fun h=>⟨by rw [H.out];rfl,h⟩)):p:=h
theorem K36 {p:Prop} (h:p:=by
 go_enter func246,ntmps246
 go_wp2_with (go_at_call 219;refine Calls.mono (numbers_2 a b w.heap.size _ J17 J17) ?_;rintro e w' ⟨rfl,rfl⟩)
 go_ret2
 exact ⟨ret_ib H3.out.symm rfl,xr.alloc _⟩):p:=h
theorem K37 {p:Prop} (h:p:=by
 rw [hB] at c1
 have c2:=told_no y (W:=W)
 clear hB
 rw [show (tolR false y).map V.rw = .error 4 from rfl]
 go_enter func137,ntmps137
 go_wp2_with fail
 refine (c0 _ (xr.alloc _)).mono ?_
 rintro e w1 ⟨rfl,E1⟩
 have B1:Hid (Blk w1 W.heap.size (.int .i64 0) (.int .i64 0) (.string ⟨#[]⟩) (.int .i64 0)∧Ext W w1):=⟨blk_top J65 E1,(xr.alloc _).trans E1⟩
 clear E1
 go_wp2_with fail
 refine (c1 _ B1.out.2).mono ?_
 rintro e w2 ⟨rfl,E2⟩
 have B2:Hid (Blk w2 W.heap.size (.int .i64 0) (.int .i64 0) (.string ⟨#[]⟩) (.int .i64 0)∧Ext W w2):=⟨B1.out.1.ext E2,B1.out.2.trans E2⟩
 clear E2
 go_wp2_with fail
 refine (c2 _ B2.out.2).mono ?_
 rintro e w3 ⟨rfl,E3⟩
 exact ⟨rfl,rfl,(B2.out.2).trans E3⟩):p:=h
theorem K38 {p:Prop} (h:p:=by
 clear hr c1 c2
 obtain ⟨q1,hq1⟩:∃ q1,bs x1 = q1:=⟨_,rfl⟩
 obtain ⟨m,hm⟩:∃ m,k+x4 = m:=⟨_,rfl⟩
 rw [hq1,hm] at C
 have HQ:Hid (bs x1 = q1∧k+x4 = m):=⟨hq1,hm⟩
 clear hq1 hm
 go_enter func82,ntmps82
 go_wp2_with fail
 refine (d1 _).mono ?_
 rintro e w1 ⟨rfl,rfl⟩
 go_wp2_with fail
 refine (C _).mono ?_
 rintro e w3 ⟨rfl,E3⟩
 have B3:=blk5_top rfl E3
 have X3:=((Ext.refl w).alloc _).trans E3
 have D3:=B3
 obtain ⟨_,⟨b0,b1,b2,b3,b4⟩,f0,f1,f2,f3,f4⟩:=D3
 clear E3
 go_wp2_with fail
 refine fin5 _ (B3.set _ _ _ _ _) rfl J0 J13 (fun h=>⟨?_,h⟩)
 rw [HN.out,HR.out,← HQ.out.1]
 exact rx_fin (x0,x1,x2,x3,x4) k _ (by rw [← HQ.out.2])):p:=h
theorem K39 {p:Prop} (h:p:=by
 go_wp2_with fail
 refine (c0 _ (xr.alloc _)).mono ?_
 rintro e w1 ⟨rfl,E1⟩
 have B1:Hid (Blk w1 W.heap.size (.int .i64 0) (.int .i64 0) (.string ⟨#[]⟩) (.int .i64 0)∧Ext W w1):=⟨blk_top J65 E1,(xr.alloc _).trans E1⟩
 clear E1
 go_wp2_with fail
 refine (c1 _ B1.out.2).mono ?_
 rintro e w2 ⟨rfl,E2⟩
 exact ⟨rfl,rfl,(B1.out.2).trans E2⟩):p:=h
theorem K40 {p:Prop} (h:p:=by
 rintro r w1 ⟨rfl,E1⟩
 obtain ⟨z,⟨k0,k1,k2,k3⟩,f0,f1,f2,f3⟩:=blk_top (b:=w.heap.size+1) J65 (E1)
 go_wp2_with fail
 exact fin4 k0 k1 k2 k3 rfl J65 (((xr.alloc _).alloc _).trans E1) J31 (fun W h=>⟨by rw [H.out],h⟩)):p:=h
theorem K41 {p:Prop} (h:p:=by
 rintro r w1 ⟨rfl,E1⟩
 obtain ⟨z,⟨k0,k1,k2,k3⟩,f0,f1,f2,f3⟩:=blk_top (b:=w.heap.size+1) J65 (E1)
 go_wp2_with fail
 exact fin4 k0 k1 k2 k3 rfl J65 (((xr.alloc _).alloc _).trans E1) J32 (fun W h=>⟨by rw [H.out],h⟩)):p:=h
theorem K42 {p:Prop} (h:p:=by
 go_wp2_with fail
 go_ret
 exact ⟨ret_bool HX.out.symm,xr.alloc _⟩):p:=h
theorem K43 {p:Prop} (h:p:=by
 go_wp2_with fail
 exact fin4b false k0 k1 k2 k3 rfl nrf X J19 (fun W h=>⟨ret_ref J34 J36,h⟩)):p:=h
theorem K44 {p:Prop} (h:p:=by
 go_wp2_with fail
 go_region
 all_goals
   go_wp2_with fail
   apply finBi 0 (b:=w.heap.size+1+1) (w:=w)
   case B=>((with_reducible (repeat' (first | assumption | apply Blk.set | apply Blk.far | apply Blk.al | apply Blk.dr)));all_goals omega)
   case hd=>rfl
   case E=>((with_reducible (repeat' (first | assumption | exact xr | apply Ext.alloc | apply Ext.drew | apply Ext.drewN | apply Ext.setCell)));all_goals (first | omega | (simp;done) | (simp;omega)))
   case hr=>intro g0 g1 g2 g3;simp [results,results99,go_sem,g0,g1,g2,g3]
   case hQ=>exact fun h=>⟨by rw [H.out],h⟩):p:=h
theorem K45 {p:Prop} (h:p:=by
 clear R10 X10
 have HB0:=H10.out.2.1
 obtain ⟨qa,⟨la0,la1,la2,la3,la4,la5,la6,la7,la8,la9,la10,la11,la12⟩,ga0,ga1,ga2,ga3,ga4,ga5,ga6,ga7,ga8,ga9,ga10,ga11,ga12⟩:=HB0
 go_wp2_with fail
 show bodyPost Tryz.prog _ _ _ _ (putX w10 W.heap.size tz (.slice none 0 0))
 obtain ⟨f,hf⟩:=HXX.out
 obtain ⟨pa',why',z1,z2⟩:=H10.out.2.2
 exact endR (H10.out.2.1.put tz (.slice none 0 0)) rfl (RY.back ⟨putX_B H10.out.1 nrf _ _,.inr ⟨f,ts.tail.tail,d,pa',why',hf,by omega,Int.le_refl _,z1,HNX.out.2.2,putX_R z2 hgW HN.out.2.2 _ _⟩⟩) J14):p:=h
theorem K46 {p:Prop} (h:p:=by
 go_wp2_with (go_at_call 219;refine Calls.mono (numbers_2 a b w.heap.size _ J17 J17) ?_;rintro e w' ⟨rfl,rfl⟩)
 go_ret2
 exact ⟨ret_ib HV.out.symm HC.out.symm,xr.alloc _⟩):p:=h
theorem K47 {p:Prop} (h:p:=by
 go_enter func266,ntmps266
 go_wp2_with fail
 refine (cS _).mono ?_
 rintro e w1 ⟨rfl,E1⟩
 go_wp2_with fail
 refine (cD _).mono ?_
 rintro e w2 ⟨rfl,E2⟩
 go_wp2_with fail
 go_ret2
 exact ⟨ret_ib HS.out.1.symm HS.out.2.symm,((xr.alloc _).trans E1).trans E2⟩):p:=h
theorem K48 {p:Prop} (h:p:=by
 go_wp2
 go_round
 case rel=>exact ⟨q - 1,r+Y1,congrArg (Value.int .u64) J2,congrArg (Value.int .u64) J2,hg',by omega⟩
 case measure=>simp [intOf];omega):p:=h
theorem K49 {p:Prop} (h:p:=by
 have HN:Hid (N = T):=H2.out (by have:=HP.out;omega)
 go_enter func192,ntmps192
 go_wp2_with (first
   | (go_at_call 219;refine Calls.mono (numbers_1 a w.heap.size _ J17) ?_;rintro e w' ⟨rfl,rfl⟩)
   | (go_at_call 244;refine (cP _).mono ?_;rintro e w' ⟨rfl,rfl⟩)
   | (go_at_call 245;refine (c1 _).mono ?_;rintro e w' ⟨rfl,rfl⟩))
 go_ret2
 exact ⟨ret_ib (by rw [ed,HN.out,sgnV_yes _ J2];rfl) (by rw [HN.out,sgnB_yes J2]),xr.alloc _⟩):p:=h
theorem K50 {p:Prop} (h:p:=by
 go_wp2_with fail
 go_meet
 case rel=>exact ⟨by rw [HB.out],rfl⟩):p:=h
theorem K51 {p:Prop} (h:p:=by
 go_enter func115,ntmps115
 go_wp2
 go_ret
 exact ⟨ret_int H.out.symm,rfl⟩):p:=h
theorem K52 {p:Prop} (h:p:=by
 go_enter func272,ntmps272
 go_wp2_with fail
 refine (c1 _).mono ?_
 rintro r w1 ⟨rfl,E1⟩
 have X1:Ext w w1:=Ext.trans J0 E1
 have B0_1:=blk_top (b:=w.heap.size) J65 E1
 have D0:=B0_1
 obtain ⟨b0z,⟨b0_0,b0_1,b0_2,b0_3⟩,b0f0,b0f1,b0f2,b0f3⟩:=D0
 go_wp2_with fail
 exact finBb true (B0_1.set _ _ _ _) rfl J0 (fun g0 g1 g2 g3=>by simp [results,results272,go_sem,g0,g1,g2,g3]) (fun h=>⟨by rw [H.out.1,H.out.2];rfl,h⟩)):p:=h
theorem K53 {p:Prop} (h:p:=by
 clear hr c1 c2
 go_enter func82,ntmps82
 go_wp2_with fail
 refine (d1 _).mono ?_
 rintro e w1 ⟨rfl,rfl⟩
 go_wp2_with fail
 refine (C _).mono ?_
 rintro e w3 ⟨rfl,E3⟩
 have B3:=blk5_top rfl E3
 have X3:=((Ext.refl w).alloc _).trans E3
 have D3:=B3
 obtain ⟨_,⟨b0,b1,b2,b3,b4⟩,f0,f1,f2,f3,f4⟩:=D3
 clear E3
 go_wp2_with fail
 refine fin5 _ (B3.set _ _ _ _ _) rfl J0 J13 (fun h=>⟨?_,h⟩)
 rw [HN.out,HR.out]
 exact rfl):p:=h
theorem K54 {p:Prop} (h:p:=by
 clear ok hT
 go_enter func176,ntmps176
 go_wp2_with fail
 refine (c0 _ (hN.ext J0)).mono ?_
 rintro r w1 ⟨rfl,E1⟩
 have X1:Ext w w1:=Ext.trans J0 E1
 have B0_1:=blk_top (b:=w.heap.size) J65 E1
 have D0:=B0_1
 obtain ⟨b0z,⟨b0_0,b0_1,b0_2,b0_3⟩,b0f0,b0f1,b0f2,b0f3⟩:=D0
 go_wp2_with fail
 refine (c1 _).mono ?_
 rintro r w2 ⟨rfl,E2⟩
 have X2:Ext w w2:=Ext.trans J0 E2
 go_wp2_with fail
 go_ret
 exact ⟨rfl,J0⟩):p:=h
theorem K55 {p:Prop} (h:p:=by
 go_enter func169,ntmps169
 go_wp2_with fail
 refine (c1 _).mono ?_
 rintro e w' ⟨rfl,rfl⟩
 go_wp2_with fail
 refine (c2 _).mono ?_
 rintro e w2 ⟨rfl,n2,rfl⟩
 go_wp2_with fail
 refine (c3 _).mono ?_
 rintro e w3 ⟨rfl,rfl⟩
 go_wp2_with fail
 refine (c4 _).mono ?_
 rintro e w4 ⟨rfl,rfl⟩
 go_wp2_with fail
 refine (c6 _).mono ?_
 rintro e w5 ⟨rfl,E5⟩
 go_wp2_with fail
 go_ret2
 exact ⟨ret_ii rfl rfl,(xr.drewN _).trans E5⟩):p:=h
theorem K56 {p:Prop} (h:p:=by
 go_ret
 exact ⟨ret_int H.out.symm,rfl⟩):p:=h
theorem K57 {p:Prop} (h:p:=by
 go_wp2_with fail
 refine (ce2 _).mono ?_
 rintro e w2 ⟨rfl,rfl⟩
 go_wp2_with fail
 go_ret2
 exact ⟨ret_ii HZ.out.1.symm HZ.out.2.symm,Ext.refl _⟩):p:=h
theorem K58 {p:Prop} (h:p:=by
 clear hx
 simp only [V.dat,numF,if_true]
 go_enter func263,ntmps263
 go_wp2_with fail
 simp [bodyPost,results,results263,go_sem]
 exact X2.out _ _):p:=h
theorem K59 {p:Prop} (h:p:=by
 go_enter func267,ntmps267
 go_wp2_with fail
 refine (c0 _ (hN.ext ((xr.alloc _).alloc _))).mono ?_
 rintro e w1 ⟨rfl,E1⟩
 obtain ⟨z,⟨k0,k1,k2,k3⟩,f0,f1,f2,f3⟩:=blk_top (b:=W.heap.size+1) J65 E1
 go_wp2_with fail
 exact fin4 k0 k1 k2 k3 rfl J65 (((xr.alloc _).alloc _).trans E1) (fun W g0 g1 g2 g3=>by simp [results,results267,go_sem,g0,g1,g2,g3]) (fun W h=>⟨rfl,h⟩)):p:=h
theorem K60 {p:Prop} (h:p:=by
 go_wp2_with fail
 go_region
 go_wp2_with fail
 go_roundw
 case rel =>
   exact ⟨p+1,10 * r+(s[p].toNat - 48),by go_num,by omega,by omega,by omega,HAL.out,HHD.out,HVL.out,by
     have e:((10 * r+(s[p].toNat - 48):Nat):Int) = 10 * (r:Int)+((s[p].toNat:Int) - 48):=J2
     rw [e]
     exact (SS.ext (Ext.drew xr)).set 0 _ (fun b=>b.put0 _)⟩
 case measure=>simp [intOf];omega):p:=h
theorem K61 {p:Prop} (h:p:=by
 go_wp2_with fail
 refine (c6 _).mono ?_
 rintro e w5 ⟨rfl,E5⟩
 go_wp2_with fail
 go_ret2
 exact ⟨ret_ii rfl rfl,(xr.drewN _).trans E5⟩):p:=h
theorem K62 {p:Prop} (h:p:=by
 obtain ⟨d,hd⟩:∃ d,Op.maxDepth = d+1:=⟨_,rfl⟩
 simp only [binOp,Op.equal,hd]
 simp [Op.equalIn,go_sem,run_underlying h]):p:=h
theorem K63 {p:Prop} (h:p:=by
 go_enter func192,ntmps192
 go_wp2_with (go_at_call 219;refine Calls.mono (numbers_1 a w.heap.size _ J17) ?_;rintro e w' ⟨rfl,rfl⟩)
 go_ret2
 exact ⟨ret_ib HV.out.symm HC.out.symm,xr.alloc _⟩):p:=h
theorem K64 {p:Prop} (h:p:=by
 rintro e w1 ⟨rfl,rfl⟩
 go_wp2_with fail
 go_ret
 exact ⟨ret_bool J37,xr.alloc _⟩):p:=h
theorem K65 {p:Prop} (h:p:=by
 rintro e w1 ⟨rfl,rfl⟩
 go_wp2_with fail
 refine fin5 _ (blk5_top rfl xr) rfl (xr.alloc _) J13 (fun h=>⟨?_,h⟩)
 rw [HR.out,HW.out,sub_bs,HD.out]
 exact rx_fin (3,l.take 2,0,0,2) k _ J65):p:=h
theorem K66 {p:Prop} (h:p:=by
 go_wp2_with fail
 go_ret2
 exact ⟨ret_ii HZ.out.1.symm HZ.out.2.symm,Ext.refl _⟩):p:=h
theorem K67 {p:Prop} (h:p:=by
 simp only [V.dat] at c0
 clear ok hT
 go_enter func176,ntmps176
 go_wp2_with fail
 refine (c0 _ (hN.ext J0)).mono ?_
 rintro r w1 ⟨rfl,E1⟩
 have X1:Ext w w1:=Ext.trans J0 E1
 have B0_1:=blk_top (b:=w.heap.size) J65 E1
 have D0:=B0_1
 obtain ⟨b0z,⟨b0_0,b0_1,b0_2,b0_3⟩,b0f0,b0f1,b0f2,b0f3⟩:=D0
 go_wp2_with fail
 go_ret
 exact ⟨rfl,J0⟩):p:=h
theorem K68 {p:Prop} (h:p:=by
 show _ = _
 rw [List.all_eq_false]
 exact ⟨x,List.mem_of_getElem? HX1.out,by rw [HG.out];simp⟩):p:=h
theorem K69 {p:Prop} (h:p:=by
 rintro e w2 ⟨rfl,E2⟩
 have X2:Hid (Ext W w2):=X1.out.trans E2
 clear E2
 go_wp2_with fail
 refine (c2 _).mono ?_
 rintro e w3 ⟨rfl,E3⟩
 exact ⟨rfl,rfl,X2.out.trans E3⟩):p:=h
theorem K70 {p:Prop} (h:p:=by
 go_wp2_with fail
 go_roundw
 case rel=>exact ⟨i+1,by go_num,HI.out,by rw [HA.out.1,HX.out,(at_step HL.out HM.out).1];omega,by rw [HA.out.2.1,HX.out,(at_step HL.out HM.out).2],HA.out.2.2.alloc _⟩
 case measure=>exact (by show n - ((i:Int)+1).toNat < n - ((i:Int)).toNat;have:=HI.out;omega)):p:=h
theorem K71 {p:Prop} (h:p:=by
 refine bodyPost_ret (v:=.tuple #[]) J44 rfl ?_
 obtain ⟨q1,q2,q3,q4⟩:=HVV.out
 have hrw:v.rw = ⟨vk,vn,vs,ve⟩:=by unfold V.rw;rw [q1,q2,q3,q4]
 rw [hrw]
 exact dput_end HD.out.1 H6.out.2 H6.out.1 (by simp only [List.length_append,HL3.out,HLB.out,List.length_cons,List.length_nil]) HS3.out.2):p:=h
theorem K72 {p:Prop} (h:p:=by
 go_wp2_with fail
 refine (c0 _ (xr.alloc _)).mono ?_
 rintro e w1 ⟨rfl,E1⟩
 have X1:Hid (Ext W w1):=(xr.alloc _).trans E1
 clear E1
 go_wp2_with fail
 refine (c1 _ X1.out).mono ?_
 rintro e w2 ⟨rfl,E2⟩
 have X2:Hid (Ext W w2):=X1.out.trans E2
 clear E2
 go_wp2_with fail
 exact ⟨rfl,rfl,X2.out⟩):p:=h
theorem K73 {p:Prop} (h:p:=by
 go_enter func35,ntmps35
 go_wp2_with fail
 refine (cK _).mono ?_
 rintro e w1 ⟨rfl,rfl⟩
 go_wp2_with fail
 go_ret
 exact ⟨ret_bool J46,xr.alloc _⟩):p:=h
theorem K74 {p:Prop} (h:p:=by
 rw [hW2]
 exact ⟨by simp [go_sem],by simp [go_sem],by simp [go_sem],X1.out.size,by simp [go_sem]⟩):p:=h
theorem K75 {p:Prop} (h:p:=by
 induction l with
 | nil=>simp [sumN]
 | cons v l ih =>
   have h1:=h v J65
   have h2:=ih (fun u hu=>h u (by simp [hu]))
   simp only [sumN,List.length_cons]
   have e:((l.length+1:Nat):Int) * c = l.length * c+c:=by rw [Int.natCast_add,Int.add_mul];simp
   rw [e];omega):p:=h
theorem K76 {p:Prop} (h:p:=by
 rintro e w1 ⟨rfl,E1⟩
 have HE:Hid (Ext W w1):=(xr.alloc _).trans E1
 clear E1
 go_wp2_with fail
 go_ret
 exact ⟨ret_bool HX.out.symm,HE.out⟩):p:=h
theorem K77 {p:Prop} (h:p:=by
 go_wp2_with fail
 go_end0
 exact ⟨rfl,HP1.out _ HX.out,(X1.out _ _).trans ((xr.alloc _).mid (Nat.le_trans H0.out.2.size (X1.out _ _).1.size) _)⟩):p:=h
theorem K78 {p:Prop} (h:p:=by
 show _ = _
 have:=HE.out.2
 rw [List.take_of_length_le (by have:=HLN.out;omega)] at this
 exact this):p:=h
theorem K79 {p:Prop} (h:p:=by
 exact ⟨by decide,by decide⟩):p:=h
theorem K80 {p:Prop} (h:p:=by
 go_wp2_with fail
 go_end0
 refine ⟨rfl,?_,?_⟩
 · exact HT.out.mid HE.out.2.2.1 (X2.out.mid HE.out.1.size hi) (by rw [H2.out.1];exact ST.out _ _ _ HT.out.p (by have:=HE.out;omega) (X2.out.env (by have:=HE.out;omega))) H2.out.2
 · exact X2.out.mid HE.out.1.size _):p:=h
theorem K81 {p:Prop} (h:p:=by
 rintro r w2 ⟨rfl,E2⟩
 obtain ⟨z,⟨k0,k1,k2,k3⟩,f0,f1,f2,f3⟩:=blk_top (b:=w.heap.size) J65 (E1.trans E2)
 go_wp2_with fail
 exact fin4b true k0 k1 k2 k3 rfl J65 ((xr.alloc _).trans (E1.trans E2)) J38 (fun W h=>⟨by rw [H.out.1,H.out.2];rfl,h⟩)):p:=h
theorem K82 {p:Prop} (h:p:=by
 generalize bs (errName e) = q at c hz
 clear h
 go_enter func36,ntmps36
 go_wp2_with fail
 refine (c _ (hN.ext (xr.alloc _))).mono ?_
 rintro r w1 ⟨rfl,rfl⟩
 go_wp2_with fail
 simp [bodyPost,results,results36,go_sem]
 exact ⟨by rw [H.out];rfl,xr.alloc _⟩):p:=h
theorem K83 {p:Prop} (h:p:=by
 try go_frame
 refine wpAnyH_done J3 ?_ _
 go_wp2_with fail
 obtain ⟨X3,_,z0,z1,z2,z3,D⟩:=HR3.out
 exact finB ((D.set _ _ _ _)) rfl ((((X3.setCell HNE2.out.2 _).setCell HNE2.out.2 _).setCell HNE2.out.2 _).setCell HNE2.out.2 _) J21 (fun h=>⟨rfl,h⟩)):p:=h
theorem K84 {p:Prop} (h:p:=by
 rw [hW2]
 exact ((((X1.out.setCell J65 _).setCell J65 _).setCell J65 _).setCell J65 _).alloc _):p:=h
theorem K85 {p:Prop} (h:p:=by
 exact ⟨by rw [H.out];rfl,xr.alloc _⟩):p:=h
theorem K86 {p:Prop} (h:p:=by
 rcases h3.2 with ⟨_,h0⟩ | ⟨g,cap,cur,hv,_⟩
 · omega
 · exact ⟨g,cap,hv⟩):p:=h
theorem K87 {p:Prop} (h:p:=by
 go_roundw
 case rel=>exact ⟨j+1,_,_,_,_,by go_num,rfl,HJ.out,by rw [List.map_append,HS.out.2,HT.out,HY.out];rfl,H6.out⟩
 case measure=>exact (by show ln - ((j:Int)+1).toNat < ln - ((j:Int)).toNat;have:=HJ.out;omega)):p:=h
theorem K88 {p:Prop} (h:p:=by
 go_wp2_with (go_at_call 219;refine Calls.mono (numbers_2 a b w.heap.size _ J17 J17) ?_;rintro e w' ⟨rfl,rfl⟩)
 refine (cR _).mono ?_
 rintro e w1 ⟨rfl,E1⟩
 go_wp2
 go_ret2
 exact ⟨ret_ib HV.out.symm HC.out.symm,(xr.alloc _).trans E1⟩):p:=h
theorem K89 {p:Prop} (h:p:=by
 go_wp2_with fail
 refine (e1 _).mono ?_
 rintro e w1 ⟨rfl,rfl⟩
 go_wp2_with fail
 go_roundw
 case rel=>exact ⟨j+1,by omega,by omega,by go_num,by rw [HA.out,HT.out,HP.out];simp;omega,trivial⟩
 case measure=>simp [intOf];omega):p:=h
theorem K90 {p:Prop} (h:p:=by
 go_enter func233,ntmps233
 go_wp2_with fail
 refine (cQ _).mono ?_
 rintro e w1 ⟨rfl,E1⟩
 obtain ⟨hc,hf⟩:=E1.cell
 have k0:=hc W.heap.size 0 J65
 simp [go_sem] at k0
 go_wp2_with fail
 go_ret2
 exact ⟨rfl,(xr.alloc _).trans E1⟩):p:=h
theorem K91 {p:Prop} (h:p:=by
 show opn (frm (O n)) (O n) d ts = _
 have hs:isSg [45] ts = false:=J123
 unfold opn smp one
 rw [hs,tk1_ok hd4]
 simp [hk]):p:=h
theorem K92 {p:Prop} (h:p:=by
 clear E9
 go_wp2_with fail
 go_ret
 exact ⟨rfl,Z9.out⟩):p:=h
theorem K93 {p:Prop} (h:p:=by
 obtain ⟨p,c,h1,_⟩:=h.form
 cases h1;rfl):p:=h
theorem K94 {p:Prop} (h:p:=by
 obtain ⟨_,⟨q0,q1,_⟩,_⟩:=HPK.out.ext e
 exact ⟨q0,q1,(HUU.out.2.2.2.2 V e).1,(HUU.out.2.2.2.2 V e).2⟩):p:=h
theorem K95 {p:Prop} (h:p:=by
 go_enter func139,ntmps139
 go_wp2_with fail
 refine (c1 _).mono ?_
 rintro e w1 ⟨rfl,rfl⟩
 go_wp2_with fail
 refine (c2 _).mono ?_
 rintro e w1 ⟨rfl,rfl⟩
 go_wp2_with fail
 go_ret
 exact ⟨ret_int J58,xr.alloc _⟩):p:=h
theorem K96 {p:Prop} (h:p:=by
 clear HFF HF1 HF2 HF3
 go_wp2_with fail
 go_ret2
 exact ⟨ret_ii HFH.out.1.symm HFH.out.2.symm,HS.out.1.trans E4⟩):p:=h
theorem K97 {p:Prop} (h:p:=by
 go_enter func281,ntmps281
 go_wp2_with fail
 go_region
 go_wp2_with fail
 go_ret2
 exact ⟨rfl,by repeat (first | exact xr | apply Ext.drewN | apply Ext.drew | apply Ext.alloc | refine Ext.setCell ?_ J65 _)⟩):p:=h
theorem K98 {p:Prop} (h:p:=by
 rintro e w2 ⟨rfl,E2⟩
 have X2:Hid (Ext W w2):=X1.out.trans E2
 clear E2
 go_wp2_with fail
 refine (c2 _).mono ?_
 rintro e w3 ⟨rfl,E3⟩
 go_wp2_with fail
 go_ret
 exact ⟨rfl,X2.out.trans E3⟩):p:=h
theorem K99 {p:Prop} (h:p:=by
 obtain ⟨hs,h0,h1,h2,h3,h4,h5⟩:=h
 have k:=fun o=>e.cell.1 0 o hs
 exact ⟨llL hs e.sz,(k 0).trans h0,(k 1).trans h1,(k 2).trans h2,(k 3).trans h3,(k 4).trans h4,(k 5).trans h5⟩):p:=h
theorem K100 {p:Prop} (h:p:=by
 have h:(Tryz.prog.info? 5).map (fun i=>(i.zero,i.size,i.bytes)) = some (some (.int .u8 0),1,1):=J3
 obtain ⟨j,h1,h2⟩:=Option.map_eq_some_iff.1 h
 simp at h2
 exact ⟨j,h1,h2⟩):p:=h
theorem K101 {p:Prop} (h:p:=by
 go_wp2_with fail
 go_meet
 case rel=>exact ⟨rfl,rfl⟩):p:=h
theorem K102 {p:Prop} (h:p:=by
 go_wp2
 go_ret
 exact ⟨rfl,rfl⟩):p:=h
theorem K103 {p:Prop} (h:p:=by
 rcases List.mem_cons.1 hx with rfl | hx
 · exact ha
 · rcases List.mem_cons.1 hx with rfl | hx
   · exact hb
   · rcases List.mem_cons.1 hx with rfl | hx
     · exact hc
     · cases hx):p:=h
theorem K104 {p:Prop} (h:p:=by
 obtain ⟨p,c,h1,h2,_⟩:=h
 exact ⟨p,_,c,h1,rfl,h2⟩):p:=h
theorem K105 {p:Prop} (h:p:=by
 show _ = _
 rw [List.length_take,HD.out.2]
 have h2:=HN.out
 omega):p:=h
theorem K106 {p:Prop} (h:p:=by
 go_wp2_with fail
 go_ret2
 have q1:=HR.out.2.1
 have q2:=HA2.out
 have q3:=HN.out
 exact ⟨a+m,false,rfl,HR.out.1,by omega,by omega,by omega,fun h=>by cases h⟩):p:=h
theorem K107 {p:Prop} (h:p:=by
 go_wp2_with (go_at_call 219;refine Calls.mono (numbers_2 a b w.heap.size _ J17 J17) ?_;rintro e w' ⟨rfl,rfl⟩)
 go_ret2
 exact ⟨ret_ib HV.symm HC.symm,xr.alloc _⟩):p:=h
theorem K108 {p:Prop} (h:p:=by
 go_wp2_with fail
 go_ret2
 refine ⟨_,g,pd,cd,rfl,?_⟩
 rw [← HE.out.1]
 have h9:=HB0.out
 exact ⟨h9.e,h9.br.mono HE.out.2,h9.gl,h9.db,h9.pl,h9.hb,h9.bd⟩):p:=h
theorem K109 {p:Prop} (h:p:=by
 refine bodyPost_ret (v:=.tuple #[]) J44 rfl ?_
 rw [List.append_nil]
 exact dput_end HD.out.1 H6.out.2 H6.out.1 (by rw [List.length_append,HL3.out,HLB.out]) HS3.out.2):p:=h
theorem K110 {p:Prop} (h:p:=by
 simp at hi
 subst hi
 have hl:j < (cellsT x lx).length:=(List.getElem?_eq_some_iff.mp hj).1
 rw [Nat.zero_mul,Nat.zero_add,List.getElem?_append_left hl]
 exact hj):p:=h
theorem K111 {p:Prop} (h:p:=by
 intro hh
 rcases hk with hk | hk
 · have:isSg [45] ts = true:=by unfold isSg;rw [hk,hh];rfl
   rw [hs] at this;cases this
 · rw [hk2.2.2.2 hk] at hh;cases hh):p:=h
theorem K112 {p:Prop} (h:p:=by
 rcases prs_cases ts with ⟨x',ts1,q1,q2,q3⟩ | ⟨x',ts1,q1,q2,_⟩ | ⟨f,q1,q2⟩
 · rw [y2] at q1;cases q1
 · rw [y2] at q1;cases q1
 · exact q2):p:=h
theorem K113 {p:Prop} (h:p:=by
 have h1:=(HD.out.1.ext e).rd
 rw [HD.out.2] at h1
 exact h1):p:=h
theorem K114 {p:Prop} (h:p:=by
 go_wp2_with fail
 go_ret2
 refine ⟨?_,HA.out.2.2.alloc _⟩
 rw [HA.out.1,HA.out.2.1,HX.out,(at_past HL.out HM.out).1,(at_past HL.out HM.out).2]
 rfl):p:=h
theorem K115 {p:Prop} (h:p:=by
 exact ⟨⟨llL h.1 m.1.size,fun r=>h.2 ((RowB.same e).1 r)⟩,fun o=>⟨World.cell?_of_block (w:=w) e,World.frozen?_of_block (w:=w) e⟩⟩):p:=h
theorem K116 {p:Prop} (h:p:=by
 clear hx hN
 simp only [V.dat,truF,if_true]
 go_enter func267,ntmps267
 go_wp2_with fail
 simp [bodyPost,results,results267,go_sem]
 exact X2.out _ _):p:=h
theorem K117 {p:Prop} (h:p:=by
 clear hw
 go_enter func193,ntmps193
 go_wp2_with fail
 refine C.mono ?_
 rintro e w1 ⟨rfl,E1⟩
 go_wp2_with fail
 go_ret
 exact ⟨ret_int HW.out,E1⟩):p:=h
theorem K118 {p:Prop} (h:p:=by
 obtain ⟨_,⟨v0,v1,v2,v3⟩,_⟩:=Z5.out.2.2.ext e
 exact ⟨⟨a0,a1,a2,a3,a4,a5,a6,a7,a8,a9,a10,a11,a12,v0,v1,v2,v3⟩,e⟩):p:=h
theorem K119 {p:Prop} (h:p:=by
 go_enter func132,ntmps132
 go_wp2
 simp [bodyPost,results,results132,go_sem]
 rw [H.out.1,H.out.2]
 exact ⟨⟨rfl,rfl⟩,(xr.alloc _).alloc _⟩):p:=h
theorem K120 {p:Prop} (h:p:=by
 rcases h with ⟨n,rfl,_⟩ | ⟨e,rfl,_⟩
 · rcases g with ⟨m,rfl,_⟩ | ⟨e,rfl,_⟩
   · simp [V.k] at l
   · rfl
 · simp [V.k] at k):p:=h
theorem K121 {p:Prop} (h:p:=by
 show ∀ W,_
 intro W h
 rw [hW0] at h
 exact ⟨blk_top J65 (((xr.alloc _).alloc _).trans h),blk_top J65 ((xr.alloc _).trans h),blk_top J65 h⟩):p:=h
theorem K122 {p:Prop} (h:p:=by
 go_wp2_with fail
 go_end0
 exact ⟨rfl,HP0.out _ HX.out,(X0.out _).trans ((xr.alloc _).mid (Nat.le_trans H0.out.2.size (X0.out _).1.size) _)⟩):p:=h
theorem K123 {p:Prop} (h:p:=by
 go_wp2
 go_meet
 case rel=>exact ⟨rfl,congrArg (Value.int .u64) (by have:=guess_break hg' HUn.out y0 J2;rw [HQ1.out,← this];omega)⟩):p:=h
theorem K124 {p:Prop} (h:p:=by
 go_wp2
 go_meet
 case rel=>exact ⟨rfl,congrArg (Value.int .u64) (by have:=guess_break hg' HUn.out y0 J2;rw [HQ0.out,← this];omega)⟩):p:=h
theorem K125 {p:Prop} (h:p:=by
 rintro e w1 ⟨rfl,E1⟩
 have HE:Hid (Ext W w1):=(xr.alloc _).trans E1
 clear E1
 go_wp2_with fail
 go_ret
 exact ⟨ret_bool J46,HE.out⟩):p:=h
theorem K126 {p:Prop} (h:p:=by
 repeat (rw [rounds_succ];go_wp2_with (go_at_call 72;refine (can_any _ _).mono ?_;rintro e w' ⟨rfl,rfl⟩))
 go_ret
 exact ⟨rfl,rfl⟩):p:=h
theorem K127 {p:Prop} (h:p:=by
 rw [hx] at this
 exact this):p:=h
theorem K128 {p:Prop} (h:p:=by
 rintro pa' why' z1 z2 z3 ⟨f,hf⟩
 exact ⟨f,ts2,d2 - 1,pa',why',hf,by omega,by omega,z1,z3,putX_R z2 hgW HN.out.2.2 _ _⟩):p:=h
theorem K129 {p:Prop} (h:p:=by
 rcases h.2 with ⟨h1,h2⟩ | ⟨g,cap,cur,h1,h2,h3⟩
 · rw [h1];simp [Value.ownBlock]
 · rw [h1];simp [Value.ownBlock];omega):p:=h
theorem K130 {p:Prop} (h:p:=by
 go_wp2_with fail
 go_ret
 exact ⟨ret_int (by rw [HE.out,HS.out]),rfl⟩):p:=h
theorem K131 {p:Prop} (h:p:=by
 have:=congrArg (List.drop ((s.data.toList.drop a).takeWhile p).length) e
 rw [List.drop_left' rfl,List.drop_drop] at this
 exact this):p:=h
theorem K132 {p:Prop} (h:p:=by
 rw [h] at h2 h3
 simp at h2 h3
 exact ⟨i,_,rfl,h2,h3.1,h3.2,rfl⟩):p:=h
theorem K133 {p:Prop} (h:p:=by
 rintro e w2 ⟨rfl,rfl⟩
 go_wp2
 go_ret2
 exact ⟨ret_ib (by rw [← HNN.out,HNe.out];rfl) (by rw [← HNN.out,HNe.out]),E1⟩):p:=h
theorem K134 {p:Prop} (h:p:=by
 rw [wO _ _ _ _ J65];exact k1):p:=h
theorem K135 {p:Prop} (h:p:=by
 rw [wO _ _ _ _ J65];exact k0):p:=h
theorem K136 {p:Prop} (h:p:=by
 intro u hu
 simp [cellsT] at hu
 rcases hu with rfl | rfl | rfl | rfl | rfl | rfl | rfl | rfl | rfl | rfl | rfl | rfl | rfl <;> rfl):p:=h
theorem K137 {p:Prop} (h:p:=by
 rw [rounds_succ]
 go_wp2
 rw [rounds_succ]
 go_wp2
 simp [bodyPost,results,results130,go_sem]
 exact ((xr.alloc _).alloc _).alloc _):p:=h
theorem K138 {p:Prop} (h:p:=by
 exact ra_abc mkS hE hdone ga gb gc y1 X Ga Na Gb Nb Gc Nc Dab Dac Dbc):p:=h
theorem K139 {p:Prop} (h:p:=by
 have:=ih _ _ ts2 ts' s2.1 (by have:=s1.2;have:=s2.2;omega) e
 exact ⟨this.1,by have:=s1.2;have:=s2.2;omega⟩):p:=h
theorem K140 {p:Prop} (h:p:=by
 show _ = _
 simp only [List.length_drop,HD.out.2]):p:=h
theorem K141 {p:Prop} (h:p:=by
 exact ⟨by omega,by omega⟩):p:=h
theorem K142 {p:Prop} (h:p:=by
 rintro e w3 ⟨rfl,E3⟩
 go_wp2
 go_ret2
 exact ⟨ret_ib HV.out HB.out,((xr.alloc _).trans E1).trans (E2.trans E3)⟩):p:=h
theorem K143 {p:Prop} (h:p:=by
 try go_frame
 refine wpAnyH_done J3 ?_ _
 go_wp2_with fail
 go_ret
 exact ⟨rfl,(H2.out _ (Z5.out.1.trans HX3.out)).1⟩):p:=h
theorem K144 {p:Prop} (h:p:=by
 go_wp2_with fail
 refine (c1 _).mono ?_
 rintro e w1 ⟨rfl,rfl⟩
 go_wp2_with fail
 go_ret
 exact ⟨rfl,xr.alloc _⟩):p:=h
theorem K145 {p:Prop} (h:p:=by
 intro k u _ hu e
 cases e
 obtain ⟨es,clock,hb,_⟩:=own
 unfold World.cell? at hu
 simp only [hb] at hu
 cases hu):p:=h
theorem K146 {p:Prop} (h:p:=by
 obtain ⟨k0,k1,k2,k3⟩:=h6 i r hr
 exact ⟨(k _).trans k0,(k _).trans k1,(k _).trans k2,(k _).trans k3⟩):p:=h
theorem K147 {p:Prop} (h:p:=by
 cases p with
 | none=>exact .inl ⟨rfl,rfl⟩
 | some ad=>exact .inr ⟨ad,rfl,fun j u hu=>by simp at hu⟩):p:=h
theorem K148 {p:Prop} (h:p:=by
 rw [wO _ _ _ _ J65];exact k2):p:=h
theorem K149 {p:Prop} (h:p:=by
 rw [wO _ _ _ _ J65];exact k3):p:=h
theorem K150 {p:Prop} (h:p:=by
 rcases HGD.out with ⟨z1,z2,z3,z4,z5,_,z6⟩ | ⟨z1,z2,z3⟩
 · split <;> omega
 · rw [if_neg z1];omega):p:=h
theorem K151 {p:Prop} (h:p:=by
 show opn (frm (O n)) (O n) d ts = _
 unfold opn smp
 rw [hs,if_neg J9,if_neg J2,if_neg J2,if_neg J2,if_neg J2]):p:=h
theorem K152 {p:Prop} (h:p:=by
 clear h h0 h1 h2 h3 h4 h5
 go_enter func65,ntmps65
 go_wp2_with fail
 go_ret
 exact ⟨by rw [H.out];rfl,rfl⟩):p:=h
theorem K153 {p:Prop} (h:p:=by
 have:l = []:=List.eq_nil_of_length_eq_zero h0
 subst this
 exact ⟨none,0,rfl,Nat.le_refl _,.inl rfl⟩):p:=h
theorem K154 {p:Prop} (h:p:=by
 repeat (first | exact xr | apply Ext.drewN | apply Ext.drew | apply Ext.alloc | refine Ext.setCell ?_ J65 _)):p:=h
theorem K155 {p:Prop} (h:p:=by
 have:=(List.getElem?_eq_some_iff.1 hi).1
 simpa using this):p:=h
theorem K156 {p:Prop} (h:p:=by
 go_ret
 exact ⟨ret_bool H.out.symm,rfl⟩):p:=h
theorem K157 {p:Prop} (h:p:=by
 rcases c7 with h | h
 · rw [h] at c8;cases c8
 · exact h):p:=h
theorem K158 {p:Prop} (h:p:=by
 rw [hW0]
 exact ⟨(xr.alloc _).alloc _,Blk13.al _ (blk13_top rfl xr),_,_,_,_,blk_top J65 xr⟩):p:=h
theorem K159 {p:Prop} (h:p:=by
 go_enter func252,ntmps252
 go_wp2_with fail
 go_ret
 exact ⟨ret_s' (by rw [HN.out]),Ext.refl _⟩):p:=h
theorem K160 {p:Prop} (h:p:=by
 have:=rknown_any (bs s) W
 rw [bs_list] at this
 unfold knA knB at this
 rw [h] at this
 exact this):p:=h
theorem K161 {p:Prop} (h:p:=by
 clear h1 h2
 go_enter func24,ntmps24
 go_wp2_with fail
 go_ret
 exact ⟨ret_bool J37,xr.alloc _⟩):p:=h
theorem K162 {p:Prop} (h:p:=by
 go_enter func143,ntmps143
 go_wp2
 go_ret2
 exact ⟨ret_ib H2.out.symm H1.out.symm,xr.alloc _⟩):p:=h
theorem K163 {p:Prop} (h:p:=by
 go_wp2_with fail
 go_ret
 exact ⟨_,rfl,Nat.le_refl _,by simp,by simp [go_sem],xr.alloc _⟩):p:=h
theorem K164 {p:Prop} (h:p:=by
 go_wp2_with fail
 exact fin4 n0 n1 n2 n3 rfl J2 X0 J39 (fun W h=>⟨by rw [HD.out];rfl,h⟩)):p:=h
theorem K165 {p:Prop} (h:p:=by
 go_wp2_with fail
 go_ret
 refine ⟨ret_bool ?_,xr.alloc _⟩
 rw [HX.out,← HB.out]
 simp
 omega):p:=h
theorem K166 {p:Prop} (h:p:=by
 rcases g1 with ⟨h8,_⟩ | ⟨b2,o2,c2,q1,q2,q3,_⟩
 · cases h8
 · cases q1;exact q3):p:=h
theorem K167 {p:Prop} (h:p:=by
 exact (h.block i (llL hi h1.size) (fun e=>hB.far (llL hi h0) e.symm)).trans (h1.block i hi)):p:=h
theorem K168 {p:Prop} (h:p:=by
 rw [← hu]
 refine k2 j ?_
 have:=(List.getElem?_eq_some_iff.1 hu).1
 rw [← k1];exact this):p:=h
theorem K169 {p:Prop} (h:p:=by
 rw [HN.out,hm,sub_bs,HD.out]
 exact rx_fin (2,l.take (run inW l),0,0,run inW l) k _ rfl):p:=h
theorem K170 {p:Prop} (h:p:=by
 have:=hpk hl2
 rw [hu] at this
 exact ⟨hu,this⟩):p:=h
theorem K171 {p:Prop} (h:p:=by
 obtain ⟨j,rfl⟩:∃ j,i = a+j:=⟨i - a,by omega⟩
 exact run_digit l a j J2 h1):p:=h
theorem K172 {p:Prop} (h:p:=by
 split <;> (refine ⟨fun h=>?_,fun h=>?_,fun h=>?_,?_,?_,?_,?_⟩ <;> omega)):p:=h
theorem K173 {p:Prop} (h:p:=by
 rw [W_nil] at h
 cases h
 refine ⟨rfl,by simp,?_⟩
 show W p r = _
 cases W p r <;> rfl):p:=h
theorem K174 {p:Prop} (h:p:=by
 go_wp2_with fail
 go_ret
 exact ⟨ret_bool (by rw [HX.out,HY.out];rfl),xr.alloc _⟩):p:=h
theorem K175 {p:Prop} (h:p:=by
 rcases h with ⟨n,rfl,_⟩ | ⟨e,rfl,_⟩
 · simp [V.k] at k
 · cases b <;> rfl):p:=h
theorem K176 {p:Prop} (h:p:=by
 cases hl:a.g.l with
 | nil=>trivial
 | cons r t=>exact nm_ok _ _ _ _ (this r J57)):p:=h
theorem K177 {p:Prop} (h:p:=by
 rw [hW2]
 exact (B1.set _ _ _ _).al _):p:=h
theorem K178 {p:Prop} (h:p:=by
 go_wp2_with fail
 refine C.mono ?_
 rintro e w1 ⟨rfl,E1⟩
 exact ⟨rfl,rfl,E1⟩):p:=h
theorem K179 {p:Prop} (h:p:=by
 split at h
 · cases h;exact .inl rfl
 · cases h):p:=h
theorem K180 {p:Prop} (h:p:=by
 clear hR h0
 have hl:s.toList = [73,83,69,82,82,79,82]:=J110
 have e0:(s.toList == [83,85,77]) = false:=J111
 have e1:(s.toList == [67,79,85,78,84]) = false:=J111
 have e2:(s.toList == [77,73,78]) = false:=J111
 have e3:(s.toList == [77,65,88]) = false:=J111
 have e4:(s.toList == [65,86,69,82,65,71,69]) = false:=J111
 have e5:(s.toList == [65,78,68]) = false:=J111
 have e6:(s.toList == [79,82]) = false:=J111
 have e7:(s.toList == [67,79,78,67,65,84]) = false:=J111
 have e8:(s.toList == [73,70]) = false:=J111
 have e9:(s.toList == [78,79,84]) = false:=J111
 have e10:(s.toList == [65,66,83]) = false:=J111
 have e11:(s.toList == [82,79,85,78,68]) = false:=J111
 have e12:(s.toList == [77,79,68]) = false:=J111
 have e13:(s.toList == [70,76,79,79,82]) = false:=J111
 have e14:(s.toList == [83,81,82,84]) = false:=J111
 have e15:(s.toList == [76,69,78]) = false:=J111
 have e16:(s.toList == [76,69,70,84]) = false:=J111
 have e17:(s.toList == [73,78,68,69,88]) = false:=J111
 have e18:(s.toList == [73,83,69,82,82,79,82]) = true:=J111
 clear hs hl
 exact K11):p:=h
theorem K181 {p:Prop} (h:p:=by
 clear hs hl
 go_enter func137,ntmps137
 go_wp2_with fail
 refine (c0 _ (xr.alloc _)).mono ?_
 exact K6):p:=h
theorem K182 {p:Prop} (h:p:=by
 go_enter func63,ntmps63
 exact K22):p:=h
theorem K183 {p:Prop} (h:p:=by
 go_enter func54,ntmps54
 exact K22):p:=h
theorem K184 {p:Prop} (h:p:=by
 go_enter func134,ntmps134
 go_wp2_with fail
 refine (c1 _).mono ?_
 rintro e w' ⟨rfl,rfl⟩
 go_wp2_with fail
 refine (c2 _).mono ?_
 rintro e w' ⟨rfl,rfl⟩
 go_wp2_with fail
 exact K56):p:=h
theorem K185 {p:Prop} (h:p:=by
 clear c0
 go_enter func137,ntmps137
 go_wp2_with fail
 refine (C _ (xr.alloc _)).mono ?_
 exact K31):p:=h
theorem K186 {p:Prop} (h:p:=by
 clear c0
 go_enter func137,ntmps137
 go_wp2_with fail
 refine (C _ (xr.alloc _)).mono ?_
 exact K6):p:=h
theorem K187 {p:Prop} (h:p:=by
 rw [HX]
 have c0:=xnumber_no hR.f hR.n h0 ht
 clear HX ht hR h0 o0
 go_enter func137,ntmps137
 exact K28):p:=h
theorem K188 {p:Prop} (h:p:=by
 clear H0 H1 H2 HK
 go_wp2_with fail
 refine (c1 _).mono ?_
 rintro e w1 ⟨rfl,rfl⟩
 go_wp2_with fail
 refine (c2 _).mono ?_
 rintro e w2 ⟨rfl,rfl⟩
 go_wp2_with fail
 refine (c4 _).mono ?_
 rintro e w2 ⟨rfl,rfl⟩
 go_wp2_with fail
 refine (c4 _).mono ?_
 exact K16):p:=h
theorem K189 {p:Prop} (h:p:=by
 go_enter func169,ntmps169
 go_wp2_with fail
 refine (c1 _).mono ?_
 rintro e w' ⟨rfl,rfl⟩
 go_wp2_with fail
 refine (c2 _).mono ?_
 rintro e w2 ⟨rfl,n2,rfl⟩
 go_wp2_with fail
 refine (c3 _).mono ?_
 rintro e w3 ⟨rfl,rfl⟩
 exact K61):p:=h
theorem K190 {p:Prop} (h:p:=by
 go_wp2_with fail
 refine (c _ two_alloc).mono ?_
 rintro r w2 ⟨rfl,E2⟩
 have X2:Ext w w2:=Ext.trans J0 E2
 have R2:=(R.ext (xr.alloc _)).ext E2
 have R3:=R2
 obtain ⟨rz,⟨r0,r1,r2,r3⟩,rf0,rf1,rf2,rf3⟩:=R3
 exact K25):p:=h
theorem K191 {p:Prop} (h:p:=by
 go_enter func62,ntmps62
 exact K29):p:=h
theorem K192 {p:Prop} (h:p:=by
 go_enter func53,ntmps53
 exact K29):p:=h
theorem K193 {p:Prop} (h:p:=by
 clear H0 H1 H2 HK
 go_wp2_with fail
 refine (c1 _).mono ?_
 rintro e w1 ⟨rfl,rfl⟩
 go_wp2_with fail
 refine (c2 _).mono ?_
 rintro e w2 ⟨rfl,rfl⟩
 go_wp2_with fail
 refine (c4 _).mono ?_
 exact K16):p:=h
theorem K194 {p:Prop} (h:p:=by
 go_enter func30,ntmps30
 go_wp2
 refine wp_loop_rounds 4 ?_
 repeat (rw [rounds_succ];go_wp2)
 exact K56):p:=h
theorem K195 {p:Prop} (h:p:=by
 have H:Hid (mkErr e = .err 2):=by show mkErr e = _;unfold mkErr;rw [if_neg J2]
 go_enter func39,ntmps39
 go_wp2_with fail
 simp [bodyPost,results,results39,go_sem]
 exact K85):p:=h
theorem K196 {p:Prop} (h:p:=by
 go_wp2_with fail
 refine c0.mono ?_
 rintro e w1 ⟨rfl,E1⟩
 have X1:Hid (Ext W w1):=E1
 clear E1
 go_wp2_with fail
 refine (c1 _ (HN.out.ext X1.out)).mono ?_
 exact K69):p:=h
theorem K197 {p:Prop} (h:p:=by
 rw [hB] at c1
 have c2:=told_ok y hN
 clear hB
 rw [show (tolR true y).map V.rw = .ok (mkNum y).rw from rfl]
 generalize mkNum y = v at *
 exact K14):p:=h
theorem K198 {p:Prop} (h:p:=by
 go_enter func24,ntmps24
 go_wp2_with fail
 refine (cB _).mono ?_
 exact K64):p:=h
theorem K199 {p:Prop} (h:p:=by
 go_enter func24,ntmps24
 go_wp2_with fail
 refine (cK _).mono ?_
 exact K64):p:=h
theorem K200 {p:Prop} (h:p:=by
 go_enter func100,ntmps100
 exact K29):p:=h
theorem K201 {p:Prop} (h:p:=by
 clear H0 H1 H2 HK
 go_wp2_with fail
 refine (c1 _).mono ?_
 rintro e w1 ⟨rfl,rfl⟩
 go_wp2_with fail
 refine (c2 _).mono ?_
 exact K16):p:=h
theorem K202 {p:Prop} (h:p:=by
 cases c8:((p:Int) == (A:Int))
 · exact K43
 · have c9:((s[p].toNat:Int) == 48) = false:=by
     exact K157
   exact K43):p:=h
theorem K203 {p:Prop} (h:p:=by
 go_enter func35,ntmps35
 exact K42):p:=h
theorem K204 {p:Prop} (h:p:=by
 go_enter func24,ntmps24
 exact K42):p:=h
theorem K205 {p:Prop} (h:p:=by
 have HR:Hid (t.l.all (argT n) = false):=by
   exact K68
 go_wp2_with fail
 go_ret
 exact ⟨ret_bool J47,HE1.out⟩):p:=h
theorem K206 {p:Prop} (h:p:=by
 have c1:=fun W=>vbool_any false W
 simp only [V.dat,Bool.false_eq_true,if_false] at c1
 exact K18):p:=h
theorem K207 {p:Prop} (h:p:=by
 go_simp
 refine hKK.out _ _ (fun h=>absurd h J9) ?_
 clear hKK KK
 refine bar_done J3 ?_ _
 exact K20):p:=h
theorem K208 {p:Prop} (h:p:=by
 by_cases hb:(4294967296:Int)≤(r:Int)+(Y1:Int)
 · exact K123
 · exact K48):p:=h
theorem K209 {p:Prop} (h:p:=by
 by_cases hb:(4294967296:Int)≤(r:Int)+(Y1:Int)
 · exact K124
 · exact K48):p:=h
theorem K210 {p:Prop} (h:p:=by
 have:=xtext_any l i a p n c W' ⟨hF.ext e,hN.ext e,ha⟩ (hT.ext e)
 exact K127):p:=h
end Go.Proofs.YtcfgbiaahangmaaGreatDoor

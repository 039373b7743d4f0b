/-
 EvalChoice is proved: for every three trees and every list of values the call returns true and the arguments read as they did. Its condition: the listed tables lie as the program text lays them (the card ties them).
-/
import Derived.Test.YtcfgbiaahangmaaGreatDoorC32
import Derived.Test.YtcfgbiaahangmaaGreatDoorCards
import Derived.Test.YtcfgbiaahangmaaGreatDoorTie
import Derived.ChangeMaps5
import Derived.SizedLaws
set_option maxHeartbeats 1000000
set_option maxRecDepth 100000
namespace Go.Proofs.YtcfgbiaahangmaaGreatDoor.evalChoice
open Go.Proofs.Tryz
open Go.ChangeShapes Go.WideShapes Go.ChangeAt Go.RowKit
open Go.ChangeMaps (open_string shut_string)
open Go.Joins
theorem own_of {n:Nat} {t:T} (h:Hr n t) (W:World) (pp:Option Addr) (ln cl:Nat) (hI:IsL W (fun _=>True) (.slice pp ln cl) t.l):Calls Tryz.prog 15 #[.agg #[.int .i64 t.k,.int .i64 t.n,.string (bs t.s),.int .i64 t.e,.int .i64 t.r.1,.int .i64 t.r.2.1,.bool t.r.2.2.1,.bool t.r.2.2.2,.int .i64 t.q.1,.int .i64 t.q.2.1,.bool t.q.2.2.1,.bool t.q.2.2.2,.slice pp ln cl]] W fun e w'=>∃ p1 n1 c1,e = .returned (.agg #[.int .i64 t.k,.int .i64 t.n,.string (bs t.s),.int .i64 t.e,.int .i64 t.r.1,.int .i64 t.r.2.1,.bool t.r.2.2.1,.bool t.r.2.2.2,.int .i64 t.q.1,.int .i64 t.q.2.1,.bool t.q.2.2.1,.bool t.q.2.2.2,.slice p1 n1 c1])∧IsL w' (fun _=>True) (.slice p1 n1 c1) t.l∧Ext W w':=by
 refine (own_any n t h W _ pp ln cl hI).mono ?_
 rintro e w' ⟨lv,rfl,hL,hE⟩
 obtain ⟨p1,c1,rfl,_⟩:=hL.form
 exact ⟨p1,_,c1,rfl,hL.mono (fun _ _ _=>trivial),hE⟩
theorem tob_of {v:V} (h:v.ok) (W:World):Calls Tryz.prog 25 #[.agg #[.int .i64 v.k,.int .i64 v.n,.string v.s,.int .i64 v.e]] W fun r w'=>r = .returned (.agg #[.int .i64 v.toBool.k,.int .i64 v.toBool.n,.string v.toBool.s,.int .i64 v.toBool.e])∧Ext W w':=by
 have hn:nm v.k v.n v.s v.e = v:=rw_v v h
 have c:=rtobool_any v.k v.n v.s v.e W (ok_n h)
 rw [hn,dat_eq] at c
 exact c
theorem walk (Ta Tb Tc:T) (pa pb pc:Option Addr) (na nb nc ca cb cc:Nat) (l1:List Kn) (pp1:Option Addr) (ln1 cl1:Nat) (w:World) (La:IsL w (fun _=>True) (.slice pa na ca) Ta.l) (wa:Wf Ta) (Lb:IsL w (fun _=>True) (.slice pb nb cb) Tb.l) (wb:Wf Tb) (Lc:IsL w (fun _=>True) (.slice pc nc cc) Tc.l) (wc:Wf Tc) (rd1:RdKn w (.slice pp1 ln1 cl1) l1) (ki1:KnI l1) (hN:Nm w) (hT:Tab w) :
   Calls Tryz.prog 7 #[.agg #[.int .i64 Ta.k,.int .i64 Ta.n,.string (bs Ta.s),.int .i64 Ta.e,.int .i64 Ta.r.1,.int .i64 Ta.r.2.1,.bool Ta.r.2.2.1,.bool Ta.r.2.2.2,.int .i64 Ta.q.1,.int .i64 Ta.q.2.1,.bool Ta.q.2.2.1,.bool Ta.q.2.2.2,.slice pa na ca,.int .i64 Tb.k,.int .i64 Tb.n,.string (bs Tb.s),.int .i64 Tb.e,.int .i64 Tb.r.1,.int .i64 Tb.r.2.1,.bool Tb.r.2.2.1,.bool Tb.r.2.2.2,.int .i64 Tb.q.1,.int .i64 Tb.q.2.1,.bool Tb.q.2.2.1,.bool Tb.q.2.2.2,.slice pb nb cb,.int .i64 Tc.k,.int .i64 Tc.n,.string (bs Tc.s),.int .i64 Tc.e,.int .i64 Tc.r.1,.int .i64 Tc.r.2.1,.bool Tc.r.2.2.1,.bool Tc.r.2.2.2,.int .i64 Tc.q.1,.int .i64 Tc.q.2.1,.bool Tc.q.2.2.1,.bool Tc.q.2.2.2,.slice pc nc cc],.slice pp1 ln1 cl1] w fun e w'=>e = .returned (.bool true)∧Ext w w':=by
 have cB:=fun V (e:Ext w V)=>boards_any V l1 pp1 ln1 cl1 (rd1.ext e) ki1 (hN.ext e)
 have cV:=fun V (e:Ext w V)=>lives15_any V (hN.ext e) (hT.ext e)
 have sA:=fun V (e:Ext w V)=>small15_any V Ta pa na ca (La.ext e)
 have sB:=fun V (e:Ext w V)=>small15_any V Tb pb nb cb (Lb.ext e)
 have sC:=fun V (e:Ext w V)=>small15_any V Tc pc nc cc (Lc.ext e)
 have HN:Hid ((Nm w∧Tab w)∧(Wf Ta∧Wf Tb∧Wf Tc)∧IsL w (fun _=>True) (.slice pa na ca) Ta.l∧IsL w (fun _=>True) (.slice pb nb cb) Tb.l∧IsL w (fun _=>True) (.slice pc nc cc) Tc.l):=⟨⟨hN,hT⟩,⟨wa,wb,wc⟩,La,Lb,Lc⟩
 clear rd1 ki1 hN hT wa wb wc La Lb Lc
 obtain ⟨W0,hW0⟩:∃ W0,W0 = w.alloc (.cells #[.int .i64 Ta.k,.int .i64 Ta.n,.string (bs Ta.s),.int .i64 Ta.e,.int .i64 Ta.r.1,.int .i64 Ta.r.2.1,.bool Ta.r.2.2.1,.bool Ta.r.2.2.2,.int .i64 Ta.q.1,.int .i64 Ta.q.2.1,.bool Ta.q.2.2.1,.bool Ta.q.2.2.2,.slice pa na ca,.int .i64 Tb.k,.int .i64 Tb.n,.string (bs Tb.s),.int .i64 Tb.e,.int .i64 Tb.r.1,.int .i64 Tb.r.2.1,.bool Tb.r.2.2.1,.bool Tb.r.2.2.2,.int .i64 Tb.q.1,.int .i64 Tb.q.2.1,.bool Tb.q.2.2.1,.bool Tb.q.2.2.2,.slice pb nb cb,.int .i64 Tc.k,.int .i64 Tc.n,.string (bs Tc.s),.int .i64 Tc.e,.int .i64 Tc.r.1,.int .i64 Tc.r.2.1,.bool Tc.r.2.2.1,.bool Tc.r.2.2.2,.int .i64 Tc.q.1,.int .i64 Tc.q.2.1,.bool Tc.q.2.2.1,.bool Tc.q.2.2.2,.slice pc nc cc] 61):=⟨_,rfl⟩
 have H0:Hid (Ext w W0):=by rw [hW0];exact xr.alloc _
 have mkS:Hid (∀ V,Ext W0 V→(fun V=>V.cell? ⟨w.heap.size,0,none⟩ = some (.int .i64 Ta.k)∧V.cell? ⟨w.heap.size,1,none⟩ = some (.int .i64 Ta.n)∧V.cell? ⟨w.heap.size,2,none⟩ = some (.string (bs Ta.s))∧V.cell? ⟨w.heap.size,3,none⟩ = some (.int .i64 Ta.e)∧V.cell? ⟨w.heap.size,4,none⟩ = some (.int .i64 Ta.r.1)∧V.cell? ⟨w.heap.size,5,none⟩ = some (.int .i64 Ta.r.2.1)∧V.cell? ⟨w.heap.size,6,none⟩ = some (.bool Ta.r.2.2.1)∧V.cell? ⟨w.heap.size,7,none⟩ = some (.bool Ta.r.2.2.2)∧V.cell? ⟨w.heap.size,8,none⟩ = some (.int .i64 Ta.q.1)∧V.cell? ⟨w.heap.size,9,none⟩ = some (.int .i64 Ta.q.2.1)∧V.cell? ⟨w.heap.size,10,none⟩ = some (.bool Ta.q.2.2.1)∧V.cell? ⟨w.heap.size,11,none⟩ = some (.bool Ta.q.2.2.2)∧V.cell? ⟨w.heap.size,12,none⟩ = some (.slice pa na ca)∧V.cell? ⟨w.heap.size,13,none⟩ = some (.int .i64 Tb.k)∧V.cell? ⟨w.heap.size,14,none⟩ = some (.int .i64 Tb.n)∧V.cell? ⟨w.heap.size,15,none⟩ = some (.string (bs Tb.s))∧V.cell? ⟨w.heap.size,16,none⟩ = some (.int .i64 Tb.e)∧V.cell? ⟨w.heap.size,17,none⟩ = some (.int .i64 Tb.r.1)∧V.cell? ⟨w.heap.size,18,none⟩ = some (.int .i64 Tb.r.2.1)∧V.cell? ⟨w.heap.size,19,none⟩ = some (.bool Tb.r.2.2.1)∧V.cell? ⟨w.heap.size,20,none⟩ = some (.bool Tb.r.2.2.2)∧V.cell? ⟨w.heap.size,21,none⟩ = some (.int .i64 Tb.q.1)∧V.cell? ⟨w.heap.size,22,none⟩ = some (.int .i64 Tb.q.2.1)∧V.cell? ⟨w.heap.size,23,none⟩ = some (.bool Tb.q.2.2.1)∧V.cell? ⟨w.heap.size,24,none⟩ = some (.bool Tb.q.2.2.2)∧V.cell? ⟨w.heap.size,25,none⟩ = some (.slice pb nb cb)∧V.cell? ⟨w.heap.size,26,none⟩ = some (.int .i64 Tc.k)∧V.cell? ⟨w.heap.size,27,none⟩ = some (.int .i64 Tc.n)∧V.cell? ⟨w.heap.size,28,none⟩ = some (.string (bs Tc.s))∧V.cell? ⟨w.heap.size,29,none⟩ = some (.int .i64 Tc.e)∧V.cell? ⟨w.heap.size,30,none⟩ = some (.int .i64 Tc.r.1)∧V.cell? ⟨w.heap.size,31,none⟩ = some (.int .i64 Tc.r.2.1)∧V.cell? ⟨w.heap.size,32,none⟩ = some (.bool Tc.r.2.2.1)∧V.cell? ⟨w.heap.size,33,none⟩ = some (.bool Tc.r.2.2.2)∧V.cell? ⟨w.heap.size,34,none⟩ = some (.int .i64 Tc.q.1)∧V.cell? ⟨w.heap.size,35,none⟩ = some (.int .i64 Tc.q.2.1)∧V.cell? ⟨w.heap.size,36,none⟩ = some (.bool Tc.q.2.2.1)∧V.cell? ⟨w.heap.size,37,none⟩ = some (.bool Tc.q.2.2.2)∧V.cell? ⟨w.heap.size,38,none⟩ = some (.slice pc nc cc)) V):=by
   intro V e
   have k:=fun o=>e.cell.1 w.heap.size o (by rw [hW0];simp)
   refine ⟨?_,?_,?_,?_,?_,?_,?_,?_,?_,?_,?_,?_,?_,?_,?_,?_,?_,?_,?_,?_,?_,?_,?_,?_,?_,?_,?_,?_,?_,?_,?_,?_,?_,?_,?_,?_,?_,?_,?_⟩ <;> (rw [k,hW0];exact (cell_of_row _ _ _ _ _ (0,0) (new_top w _)))
 go_enter func7,ntmps7
 go_wp2_with fail
 rw [← hW0]
 clear hW0
 refine bar_begin (B:=fun _=>false) (S:=fun V=>V.cell? ⟨w.heap.size,0,none⟩ = some (.int .i64 Ta.k)∧V.cell? ⟨w.heap.size,1,none⟩ = some (.int .i64 Ta.n)∧V.cell? ⟨w.heap.size,2,none⟩ = some (.string (bs Ta.s))∧V.cell? ⟨w.heap.size,3,none⟩ = some (.int .i64 Ta.e)∧V.cell? ⟨w.heap.size,4,none⟩ = some (.int .i64 Ta.r.1)∧V.cell? ⟨w.heap.size,5,none⟩ = some (.int .i64 Ta.r.2.1)∧V.cell? ⟨w.heap.size,6,none⟩ = some (.bool Ta.r.2.2.1)∧V.cell? ⟨w.heap.size,7,none⟩ = some (.bool Ta.r.2.2.2)∧V.cell? ⟨w.heap.size,8,none⟩ = some (.int .i64 Ta.q.1)∧V.cell? ⟨w.heap.size,9,none⟩ = some (.int .i64 Ta.q.2.1)∧V.cell? ⟨w.heap.size,10,none⟩ = some (.bool Ta.q.2.2.1)∧V.cell? ⟨w.heap.size,11,none⟩ = some (.bool Ta.q.2.2.2)∧V.cell? ⟨w.heap.size,12,none⟩ = some (.slice pa na ca)∧V.cell? ⟨w.heap.size,13,none⟩ = some (.int .i64 Tb.k)∧V.cell? ⟨w.heap.size,14,none⟩ = some (.int .i64 Tb.n)∧V.cell? ⟨w.heap.size,15,none⟩ = some (.string (bs Tb.s))∧V.cell? ⟨w.heap.size,16,none⟩ = some (.int .i64 Tb.e)∧V.cell? ⟨w.heap.size,17,none⟩ = some (.int .i64 Tb.r.1)∧V.cell? ⟨w.heap.size,18,none⟩ = some (.int .i64 Tb.r.2.1)∧V.cell? ⟨w.heap.size,19,none⟩ = some (.bool Tb.r.2.2.1)∧V.cell? ⟨w.heap.size,20,none⟩ = some (.bool Tb.r.2.2.2)∧V.cell? ⟨w.heap.size,21,none⟩ = some (.int .i64 Tb.q.1)∧V.cell? ⟨w.heap.size,22,none⟩ = some (.int .i64 Tb.q.2.1)∧V.cell? ⟨w.heap.size,23,none⟩ = some (.bool Tb.q.2.2.1)∧V.cell? ⟨w.heap.size,24,none⟩ = some (.bool Tb.q.2.2.2)∧V.cell? ⟨w.heap.size,25,none⟩ = some (.slice pb nb cb)∧V.cell? ⟨w.heap.size,26,none⟩ = some (.int .i64 Tc.k)∧V.cell? ⟨w.heap.size,27,none⟩ = some (.int .i64 Tc.n)∧V.cell? ⟨w.heap.size,28,none⟩ = some (.string (bs Tc.s))∧V.cell? ⟨w.heap.size,29,none⟩ = some (.int .i64 Tc.e)∧V.cell? ⟨w.heap.size,30,none⟩ = some (.int .i64 Tc.r.1)∧V.cell? ⟨w.heap.size,31,none⟩ = some (.int .i64 Tc.r.2.1)∧V.cell? ⟨w.heap.size,32,none⟩ = some (.bool Tc.r.2.2.1)∧V.cell? ⟨w.heap.size,33,none⟩ = some (.bool Tc.r.2.2.2)∧V.cell? ⟨w.heap.size,34,none⟩ = some (.int .i64 Tc.q.1)∧V.cell? ⟨w.heap.size,35,none⟩ = some (.int .i64 Tc.q.2.1)∧V.cell? ⟨w.heap.size,36,none⟩ = some (.bool Tc.q.2.2.1)∧V.cell? ⟨w.heap.size,37,none⟩ = some (.bool Tc.q.2.2.2)∧V.cell? ⟨w.heap.size,38,none⟩ = some (.slice pc nc cc)) J3 ?_
 obtain ⟨y0,hy0⟩:∃ y0,World.drew W0 = y0:=⟨_,rfl⟩
 have X:Hid (Ext W0 y0):=by show Ext _ _;rw [← hy0];exact xr.drew
 rw [hy0]
 clear hy0
 have hS0:=mkS.out y0 X.out
 refine bar_takeL (i:=0) (v:=?va0) rfl J3 J3 J3 J3 (fun _ _ _ h=>h) (Or.inl ⟨by rfl,?hya0⟩) hS0 ?resta0
 case hya0=>(intro W hSW;(try dsimp only at hSW);go_simp;with_reducible rfl)
 go_frame
 refine bar_takeL (i:=1) (v:=?va1) rfl J3 J3 J3 J3 (fun _ _ _ h=>h) (Or.inl ⟨by rfl,?hya1⟩) hS0 ?resta1
 case hya1=>(intro W hSW;(try dsimp only at hSW);go_simp;with_reducible rfl)
 go_frame
 refine bar_takeL (i:=2) (v:=?va2) rfl J3 J3 J3 J3 (fun _ _ _ h=>h) (Or.inl ⟨by rfl,?hya2⟩) hS0 ?resta2
 case hya2=>(intro W hSW;(try dsimp only at hSW);go_simp;with_reducible rfl)
 go_frame
 refine bar_takeL (i:=3) (v:=?va3) rfl J3 J3 J3 J3 (fun _ _ _ h=>h) (Or.inl ⟨by rfl,?hya3⟩) hS0 ?resta3
 case hya3=>(intro W hSW;(try dsimp only at hSW);go_simp;with_reducible rfl)
 go_frame
 refine bar_takeL (i:=4) (v:=?va4) rfl J3 J3 J3 J3 (fun _ _ _ h=>h) (Or.inl ⟨by rfl,?hya4⟩) hS0 ?resta4
 case hya4=>(intro W hSW;(try dsimp only at hSW);go_simp;with_reducible rfl)
 go_frame
 refine bar_takeL (i:=5) (v:=?va5) rfl J3 J3 J3 J3 (fun _ _ _ h=>h) (Or.inl ⟨by rfl,?hya5⟩) hS0 ?resta5
 case hya5=>(intro W hSW;(try dsimp only at hSW);go_simp;with_reducible rfl)
 go_frame
 clear hS0
 refine bar_cast #[true,true,true,true,true,true,false,false,false,false,false,false] rfl ?_
 refine ra_ mkS (show Hid (raE Ta Tb Tc pa pb pc na ca nb cb nc cc _ _ _) from ⟨rfl,rfl,rfl⟩) ?hdonea y0 X
 case hdonea =>
   intro ga gb gc y X Ga Gb Gc Na Nb Nc Dab Dac Dbc
   have H1:Hid (Ext w y∧BlkX y ga Ta (.slice pa na ca)∧BlkX y gb Tb (.slice pb nb cb)∧BlkX y gc Tc (.slice pc nc cc)):=⟨H0.out.trans X.out,Ga.out,Gb.out,Gc.out⟩
   clear X Ga Gb Gc Na Nb Nc Dab Dac Dbc mkS H0
   go_wp2_with fail
   refine (cB _ H1.out.1).mono ?_
   rintro e w1 ⟨d,g,p,c,rfl,hB⟩
   have HB:Hid (BdI y y.heap.size d g p c 200 (bM (l1.take 200)) (bL (l1.take 200)) w1):=hB
   clear hB cB
   generalize bM (l1.take 200) = M at HB
   generalize bL (l1.take 200) = LL at HB
   generalize y.heap.size = BB at HB ⊢
   have H2:Hid (Ext w w1∧BlkX w1 ga Ta (.slice pa na ca)∧BlkX w1 gb Tb (.slice pb nb cb)∧BlkX w1 gc Tc (.slice pc nc cc)∧Brd w1 BB g 200 M):=⟨H1.out.1.trans HB.out.e,H1.out.2.1.ext HB.out.e,H1.out.2.2.1.ext HB.out.e,H1.out.2.2.2.ext HB.out.e,HB.out.br⟩
   clear HB H1
   replace H2:Hid (∀ V,Ext w1 V→Ext w V∧BlkX V ga Ta (.slice pa na ca)∧BlkX V gb Tb (.slice pb nb cb)∧BlkX V gc Tc (.slice pc nc cc)∧Brd V BB g 200 M):=fun V e=>⟨H2.out.1.trans e,H2.out.2.1.ext e,H2.out.2.2.1.ext e,H2.out.2.2.2.1.ext e,H2.out.2.2.2.2.ext e⟩
   have X0:Hid (Ext w1 w1):=Ext.refl _
   obtain ⟨_,⟨a0,a1,a2,a3,a4,a5,a6,a7,a8,a9,a10,a11,a12⟩,_⟩:=(H2.out _ X0.out).2.1
   go_wp2_with fail
   refine (sA _ (H2.out _ X0.out).1).mono ?_
   rintro e q1 ⟨ok,rfl,E9,hok⟩
   have X1:Hid (Ext w1 q1):=X0.out.trans E9
   clear E9 a0 a1 a2 a3 a4 a5 a6 a7 a8 a9 a10 a11 a12 sA X0
   cases ok
   case false =>
     clear hok
     go_wp2_with fail
     refine (cV _ (H2.out _ X1.out).1).mono ?_
     rintro e v9 ⟨rfl,E9⟩
     have Z9:Hid (Ext w v9):=(H2.out _ X1.out).1.trans E9
     exact K92
   have hHa:=(hok rfl).1
   clear hok
   obtain ⟨_,⟨a0,a1,a2,a3,a4,a5,a6,a7,a8,a9,a10,a11,a12⟩,_⟩:=(H2.out _ X1.out).2.2.1
   go_wp2_with fail
   refine (sB _ (H2.out _ X1.out).1).mono ?_
   rintro e q2 ⟨ok,rfl,E9,hok⟩
   have X2:Hid (Ext w1 q2):=X1.out.trans E9
   clear E9 a0 a1 a2 a3 a4 a5 a6 a7 a8 a9 a10 a11 a12 sB X1
   cases ok
   case false =>
     clear hok
     go_wp2_with fail
     refine (cV _ (H2.out _ X2.out).1).mono ?_
     rintro e v9 ⟨rfl,E9⟩
     have Z9:Hid (Ext w v9):=(H2.out _ X2.out).1.trans E9
     exact K92
   have hHb:=(hok rfl).1
   clear hok
   obtain ⟨_,⟨a0,a1,a2,a3,a4,a5,a6,a7,a8,a9,a10,a11,a12⟩,_⟩:=(H2.out _ X2.out).2.2.2.1
   go_wp2_with fail
   refine (sC _ (H2.out _ X2.out).1).mono ?_
   rintro e q3 ⟨ok,rfl,E9,hok⟩
   have X3:Hid (Ext w1 q3):=X2.out.trans E9
   clear E9 a0 a1 a2 a3 a4 a5 a6 a7 a8 a9 a10 a11 a12 sC X2
   cases ok
   case false =>
     clear hok
     go_wp2_with fail
     refine (cV _ (H2.out _ X3.out).1).mono ?_
     rintro e v9 ⟨rfl,E9⟩
     have Z9:Hid (Ext w v9):=(H2.out _ X3.out).1.trans E9
     exact K92
   have hHc:=(hok rfl).1
   clear hok
   have cAW:=fun V (e:Ext w1 V)=>rwell_any (fun _=>True) 401 Ta hHa V pa na ca (HN.out.2.2.1.ext (H2.out V e).1)
   cases hwa:wellT 401 Ta
   case false =>
     rw [hwa] at cAW
     obtain ⟨_,⟨a0,a1,a2,a3,a4,a5,a6,a7,a8,a9,a10,a11,a12⟩,_⟩:=(H2.out _ X3.out).2.1
     go_wp2_with fail
     refine (cAW _ X3.out).mono ?_
     rintro e q4 ⟨rfl,E9⟩
     have X4:Hid (Ext w1 q4):=X3.out.trans E9
     clear E9 a0 a1 a2 a3 a4 a5 a6 a7 a8 a9 a10 a11 a12 cAW X3
     go_wp2_with fail
     refine (cV _ (H2.out _ X4.out).1).mono ?_
     rintro e v9 ⟨rfl,E9⟩
     have Z9:Hid (Ext w v9):=(H2.out _ X4.out).1.trans E9
     exact K92
   rw [hwa] at cAW
   obtain ⟨_,⟨a0,a1,a2,a3,a4,a5,a6,a7,a8,a9,a10,a11,a12⟩,_⟩:=(H2.out _ X3.out).2.1
   go_wp2_with fail
   refine (cAW _ X3.out).mono ?_
   rintro e q4 ⟨rfl,E9⟩
   have X4:Hid (Ext w1 q4):=X3.out.trans E9
   clear E9 a0 a1 a2 a3 a4 a5 a6 a7 a8 a9 a10 a11 a12 cAW X3
   have cBW:=fun V (e:Ext w1 V)=>rwell_any (fun _=>True) 401 Tb hHb V pb nb cb (HN.out.2.2.2.1.ext (H2.out V e).1)
   cases hwb:wellT 401 Tb
   case false =>
     rw [hwb] at cBW
     obtain ⟨_,⟨a0,a1,a2,a3,a4,a5,a6,a7,a8,a9,a10,a11,a12⟩,_⟩:=(H2.out _ X4.out).2.2.1
     go_wp2_with fail
     refine (cBW _ X4.out).mono ?_
     rintro e q5 ⟨rfl,E9⟩
     have X5:Hid (Ext w1 q5):=X4.out.trans E9
     clear E9 a0 a1 a2 a3 a4 a5 a6 a7 a8 a9 a10 a11 a12 cBW X4
     go_wp2_with fail
     refine (cV _ (H2.out _ X5.out).1).mono ?_
     rintro e v9 ⟨rfl,E9⟩
     have Z9:Hid (Ext w v9):=(H2.out _ X5.out).1.trans E9
     exact K92
   rw [hwb] at cBW
   obtain ⟨_,⟨a0,a1,a2,a3,a4,a5,a6,a7,a8,a9,a10,a11,a12⟩,_⟩:=(H2.out _ X4.out).2.2.1
   go_wp2_with fail
   refine (cBW _ X4.out).mono ?_
   rintro e q5 ⟨rfl,E9⟩
   have X5:Hid (Ext w1 q5):=X4.out.trans E9
   clear E9 a0 a1 a2 a3 a4 a5 a6 a7 a8 a9 a10 a11 a12 cBW X4
   have cCW:=fun V (e:Ext w1 V)=>rwell_any (fun _=>True) 401 Tc hHc V pc nc cc (HN.out.2.2.2.2.ext (H2.out V e).1)
   cases hwc:wellT 401 Tc
   case false =>
     rw [hwc] at cCW
     obtain ⟨_,⟨a0,a1,a2,a3,a4,a5,a6,a7,a8,a9,a10,a11,a12⟩,_⟩:=(H2.out _ X5.out).2.2.2.1
     go_wp2_with fail
     refine (cCW _ X5.out).mono ?_
     rintro e q6 ⟨rfl,E9⟩
     have X6:Hid (Ext w1 q6):=X5.out.trans E9
     clear E9 a0 a1 a2 a3 a4 a5 a6 a7 a8 a9 a10 a11 a12 cCW X5
     go_wp2_with fail
     refine (cV _ (H2.out _ X6.out).1).mono ?_
     rintro e v9 ⟨rfl,E9⟩
     have Z9:Hid (Ext w v9):=(H2.out _ X6.out).1.trans E9
     exact K92
   rw [hwc] at cCW
   obtain ⟨_,⟨a0,a1,a2,a3,a4,a5,a6,a7,a8,a9,a10,a11,a12⟩,_⟩:=(H2.out _ X5.out).2.2.2.1
   go_wp2_with fail
   refine (cCW _ X5.out).mono ?_
   rintro e q6 ⟨rfl,E9⟩
   have X6:Hid (Ext w1 q6):=X5.out.trans E9
   clear E9 a0 a1 a2 a3 a4 a5 a6 a7 a8 a9 a10 a11 a12 cCW X5
   obtain ⟨x,hx⟩:∃ x,expV 402 M (ifT Ta Tb Tc) = x:=⟨_,rfl⟩
   obtain ⟨va,hva⟩:∃ v,expV 401 M Ta = v:=⟨_,rfl⟩
   obtain ⟨vb,hvb⟩:∃ v,expV 401 M Tb = v:=⟨_,rfl⟩
   obtain ⟨vc,hvc⟩:∃ v,expV 401 M Tc = v:=⟨_,rfl⟩
   have hM:BdOk M:=(H2.out w1 xr).2.2.2.2.ok
   have hif:=if_ev hM HN.out.2.1.1 HN.out.2.1.2.1 HN.out.2.1.2.2 hwa hwb hwc
   have cT:=fun V=>tob_of (expV_ok hM 401 Ta HN.out.2.1.1) V
   have ent:∀ V,Ext w1 V→Ent V BB g 200 M:=fun V e=>⟨(H2.out V e).2.2.2.2,HN.out.1.1.ext (H2.out V e).1,HN.out.1.2.ext (H2.out V e).1⟩
   have cEa:=fun V p n c (e:Ext w1 V) hL=>exp_any BB g 200 M hM 401 Ta HN.out.2.1.1 hHa V p n c (ent V e) hL
   have cEb:=fun V p n c (e:Ext w1 V) hL=>exp_any BB g 200 M hM 401 Tb HN.out.2.1.2.1 hHb V p n c (ent V e) hL
   have cEc:=fun V p n c (e:Ext w1 V) hL=>exp_any BB g 200 M hM 401 Tc HN.out.2.1.2.2 hHc V p n c (ent V e) hL
   have cEx:=fun V p n c (e:Ext w1 V) hL=>exp_any BB g 200 M hM 402 (ifT Ta Tb Tc) (if_wf HN.out.2.1.1 HN.out.2.1.2.1 HN.out.2.1.2.2) (if_hr hHa hHb hHc) V p n c (ent V e) hL
   have cOa:=fun V (e:Ext w1 V)=>own_of hHa V pa na ca (HN.out.2.2.1.ext (H2.out V e).1)
   have cOb:=fun V (e:Ext w1 V)=>own_of hHb V pb nb cb (HN.out.2.2.2.1.ext (H2.out V e).1)
   have cOc:=fun V (e:Ext w1 V)=>own_of hHc V pc nc cc (HN.out.2.2.2.2.ext (H2.out V e).1)
   rw [hva] at cT hif
   rw [hvb] at hif
   rw [hvc] at hif
   rw [hx] at hif cEx
   rw [hva] at cEa
   rw [hvb] at cEb
   rw [hvc] at cEc
   obtain ⟨u,hu⟩:∃ u,va.toBool = u:=⟨_,rfl⟩
   rw [hu] at hif cT
   have HIF:Hid ((∃ e,u = .err e∧x = .err e)∨(u = .tf true∧x = vb)∨(u = .tf false∧x = vc)):=hif
   have qE:=eq_val
   have qG:=gd_val
   clear hu hx hva hvb hvc hM hif ent hwa hwb hwc hHa hHb hHc
   obtain ⟨_,⟨a0,a1,a2,a3,a4,a5,a6,a7,a8,a9,a10,a11,a12⟩,_⟩:=(H2.out _ X6.out).2.1
   go_wp2_with fail
   refine (cOa _ X6.out).mono ?_
   rintro e z1 ⟨p1,n1,c1,rfl,L1,E1⟩
   have Z1:Hid (Ext w1 z1∧IsL z1 (fun _=>True) (.slice p1 n1 c1) Ta.l):=⟨X6.out.trans E1,L1⟩
   clear L1 E1 a0 a1 a2 a3 a4 a5 a6 a7 a8 a9 a10 a11 a12
   go_wp2_with fail
   refine (cEa _ p1 n1 c1 Z1.out.1 Z1.out.2).mono ?_
   rintro e z2 ⟨rfl,E2⟩
   have Z2:Hid (Ext w1 z2):=Z1.out.1.trans E2
   clear E2
   go_wp2_with fail
   refine (cT _).mono ?_
   rintro e z3 ⟨rfl,E3⟩
   have Z3:Hid (Ext w1 z3):=Z2.out.trans E3
   clear E3 cT
   obtain ⟨gu,hgu⟩:∃ g,z3.heap.size = g:=⟨_,rfl⟩
   obtain ⟨z4,hz4⟩:∃ z4,z3.alloc (.cells #[.int .i64 u.k,.int .i64 u.n,.string u.s,.int .i64 u.e] 33) = z4:=⟨_,rfl⟩
   have Z4:Hid (Ext w1 z4∧Blk z4 gu (.int .i64 u.k) (.int .i64 u.n) (.string u.s) (.int .i64 u.e)):=by
     rw [← hz4,← hgu]
     exact ⟨Z3.out.alloc _,blk_top rfl xr⟩
   go_wp2_with fail
   try rw [hgu]
   try rw [hz4]
   clear hgu hz4
   have mkS:Hid (∀ V,Ext z4 V→(fun V=>V.cell? ⟨ga,0,none⟩ = some (.int .i64 Ta.k)∧V.cell? ⟨ga,1,none⟩ = some (.int .i64 Ta.n)∧V.cell? ⟨ga,2,none⟩ = some (.string (bs Ta.s))∧V.cell? ⟨ga,3,none⟩ = some (.int .i64 Ta.e)∧V.cell? ⟨ga,4,none⟩ = some (.int .i64 Ta.r.1)∧V.cell? ⟨ga,5,none⟩ = some (.int .i64 Ta.r.2.1)∧V.cell? ⟨ga,6,none⟩ = some (.bool Ta.r.2.2.1)∧V.cell? ⟨ga,7,none⟩ = some (.bool Ta.r.2.2.2)∧V.cell? ⟨ga,8,none⟩ = some (.int .i64 Ta.q.1)∧V.cell? ⟨ga,9,none⟩ = some (.int .i64 Ta.q.2.1)∧V.cell? ⟨ga,10,none⟩ = some (.bool Ta.q.2.2.1)∧V.cell? ⟨ga,11,none⟩ = some (.bool Ta.q.2.2.2)∧V.cell? ⟨ga,12,none⟩ = some (.slice pa na ca)∧V.cell? ⟨gb,0,none⟩ = some (.int .i64 Tb.k)∧V.cell? ⟨gb,1,none⟩ = some (.int .i64 Tb.n)∧V.cell? ⟨gb,2,none⟩ = some (.string (bs Tb.s))∧V.cell? ⟨gb,3,none⟩ = some (.int .i64 Tb.e)∧V.cell? ⟨gb,4,none⟩ = some (.int .i64 Tb.r.1)∧V.cell? ⟨gb,5,none⟩ = some (.int .i64 Tb.r.2.1)∧V.cell? ⟨gb,6,none⟩ = some (.bool Tb.r.2.2.1)∧V.cell? ⟨gb,7,none⟩ = some (.bool Tb.r.2.2.2)∧V.cell? ⟨gb,8,none⟩ = some (.int .i64 Tb.q.1)∧V.cell? ⟨gb,9,none⟩ = some (.int .i64 Tb.q.2.1)∧V.cell? ⟨gb,10,none⟩ = some (.bool Tb.q.2.2.1)∧V.cell? ⟨gb,11,none⟩ = some (.bool Tb.q.2.2.2)∧V.cell? ⟨gb,12,none⟩ = some (.slice pb nb cb)∧V.cell? ⟨gc,0,none⟩ = some (.int .i64 Tc.k)∧V.cell? ⟨gc,1,none⟩ = some (.int .i64 Tc.n)∧V.cell? ⟨gc,2,none⟩ = some (.string (bs Tc.s))∧V.cell? ⟨gc,3,none⟩ = some (.int .i64 Tc.e)∧V.cell? ⟨gc,4,none⟩ = some (.int .i64 Tc.r.1)∧V.cell? ⟨gc,5,none⟩ = some (.int .i64 Tc.r.2.1)∧V.cell? ⟨gc,6,none⟩ = some (.bool Tc.r.2.2.1)∧V.cell? ⟨gc,7,none⟩ = some (.bool Tc.r.2.2.2)∧V.cell? ⟨gc,8,none⟩ = some (.int .i64 Tc.q.1)∧V.cell? ⟨gc,9,none⟩ = some (.int .i64 Tc.q.2.1)∧V.cell? ⟨gc,10,none⟩ = some (.bool Tc.q.2.2.1)∧V.cell? ⟨gc,11,none⟩ = some (.bool Tc.q.2.2.2)∧V.cell? ⟨gc,12,none⟩ = some (.slice pc nc cc)) V):=by
     intro V e
     obtain ⟨_,h1,h2,h3,_⟩:=H2.out V (Z4.out.1.trans e)
     obtain ⟨_,⟨a0,a1,a2,a3,a4,a5,a6,a7,a8,a9,a10,a11,a12⟩,_⟩:=h1
     obtain ⟨_,⟨b0,b1,b2,b3,b4,b5,b6,b7,b8,b9,b10,b11,b12⟩,_⟩:=h2
     obtain ⟨_,⟨c0,c1,c2,c3,c4,c5,c6,c7,c8,c9,c10,c11,c12⟩,_⟩:=h3
     exact ⟨a0,a1,a2,a3,a4,a5,a6,a7,a8,a9,a10,a11,a12,b0,b1,b2,b3,b4,b5,b6,b7,b8,b9,b10,b11,b12,c0,c1,c2,c3,c4,c5,c6,c7,c8,c9,c10,c11,c12⟩
   refine bar_begin (B:=fun _=>false) (S:=fun V=>V.cell? ⟨ga,0,none⟩ = some (.int .i64 Ta.k)∧V.cell? ⟨ga,1,none⟩ = some (.int .i64 Ta.n)∧V.cell? ⟨ga,2,none⟩ = some (.string (bs Ta.s))∧V.cell? ⟨ga,3,none⟩ = some (.int .i64 Ta.e)∧V.cell? ⟨ga,4,none⟩ = some (.int .i64 Ta.r.1)∧V.cell? ⟨ga,5,none⟩ = some (.int .i64 Ta.r.2.1)∧V.cell? ⟨ga,6,none⟩ = some (.bool Ta.r.2.2.1)∧V.cell? ⟨ga,7,none⟩ = some (.bool Ta.r.2.2.2)∧V.cell? ⟨ga,8,none⟩ = some (.int .i64 Ta.q.1)∧V.cell? ⟨ga,9,none⟩ = some (.int .i64 Ta.q.2.1)∧V.cell? ⟨ga,10,none⟩ = some (.bool Ta.q.2.2.1)∧V.cell? ⟨ga,11,none⟩ = some (.bool Ta.q.2.2.2)∧V.cell? ⟨ga,12,none⟩ = some (.slice pa na ca)∧V.cell? ⟨gb,0,none⟩ = some (.int .i64 Tb.k)∧V.cell? ⟨gb,1,none⟩ = some (.int .i64 Tb.n)∧V.cell? ⟨gb,2,none⟩ = some (.string (bs Tb.s))∧V.cell? ⟨gb,3,none⟩ = some (.int .i64 Tb.e)∧V.cell? ⟨gb,4,none⟩ = some (.int .i64 Tb.r.1)∧V.cell? ⟨gb,5,none⟩ = some (.int .i64 Tb.r.2.1)∧V.cell? ⟨gb,6,none⟩ = some (.bool Tb.r.2.2.1)∧V.cell? ⟨gb,7,none⟩ = some (.bool Tb.r.2.2.2)∧V.cell? ⟨gb,8,none⟩ = some (.int .i64 Tb.q.1)∧V.cell? ⟨gb,9,none⟩ = some (.int .i64 Tb.q.2.1)∧V.cell? ⟨gb,10,none⟩ = some (.bool Tb.q.2.2.1)∧V.cell? ⟨gb,11,none⟩ = some (.bool Tb.q.2.2.2)∧V.cell? ⟨gb,12,none⟩ = some (.slice pb nb cb)∧V.cell? ⟨gc,0,none⟩ = some (.int .i64 Tc.k)∧V.cell? ⟨gc,1,none⟩ = some (.int .i64 Tc.n)∧V.cell? ⟨gc,2,none⟩ = some (.string (bs Tc.s))∧V.cell? ⟨gc,3,none⟩ = some (.int .i64 Tc.e)∧V.cell? ⟨gc,4,none⟩ = some (.int .i64 Tc.r.1)∧V.cell? ⟨gc,5,none⟩ = some (.int .i64 Tc.r.2.1)∧V.cell? ⟨gc,6,none⟩ = some (.bool Tc.r.2.2.1)∧V.cell? ⟨gc,7,none⟩ = some (.bool Tc.r.2.2.2)∧V.cell? ⟨gc,8,none⟩ = some (.int .i64 Tc.q.1)∧V.cell? ⟨gc,9,none⟩ = some (.int .i64 Tc.q.2.1)∧V.cell? ⟨gc,10,none⟩ = some (.bool Tc.q.2.2.1)∧V.cell? ⟨gc,11,none⟩ = some (.bool Tc.q.2.2.2)∧V.cell? ⟨gc,12,none⟩ = some (.slice pc nc cc)) J3 ?_
   obtain ⟨y0,hy0⟩:∃ y0,World.drew z4 = y0:=⟨_,rfl⟩
   have X:Hid (Ext z4 y0):=by show Ext _ _;rw [← hy0];exact xr.drew
   rw [hy0]
   clear hy0
   have hS0:=mkS.out y0 X.out
   refine bar_takeL (i:=0) (v:=?vb0) rfl J3 J3 J3 J3 (fun _ _ _ h=>h) (Or.inl ⟨by rfl,?hyb0⟩) hS0 ?restb0
   case hyb0=>(intro W hSW;(try dsimp only at hSW);go_simp;with_reducible rfl)
   go_frame
   refine bar_takeL (i:=2) (v:=?vb2) rfl J3 J3 J3 J3 (fun _ _ _ h=>h) (Or.inl ⟨by rfl,?hyb2⟩) hS0 ?restb2
   case hyb2=>(intro W hSW;(try dsimp only at hSW);go_simp;with_reducible rfl)
   go_frame
   refine bar_takeL (i:=4) (v:=?vb4) rfl J3 J3 J3 J3 (fun _ _ _ h=>h) (Or.inl ⟨by rfl,?hyb4⟩) hS0 ?restb4
   case hyb4=>(intro W hSW;(try dsimp only at hSW);go_simp;with_reducible rfl)
   go_frame
   refine bar_takeL (i:=8) (v:=?vb8) rfl J3 J3 J3 J3 (fun _ _ _ h=>h) (Or.inl ⟨by rfl,?hyb8⟩) hS0 ?restb8
   case hyb8=>(intro W hSW;(try dsimp only at hSW);go_simp;with_reducible rfl)
   go_frame
   clear hS0
   refine bar_cast #[true,false,true,false,true,false,false,false,true,false,false,false] rfl ?_
   refine rb_0 ⟨mkS,fun V e=>cOa V (Z4.out.1.trans e),fun V e=>cOb V (Z4.out.1.trans e),fun V e=>cOc V (Z4.out.1.trans e),fun V gs e hL=>cEx V _ _ _ (Z4.out.1.trans e) hL⟩ ?hdoneb y0 X
   case hdoneb =>
     clear Z1 Z2 Z3
     intro P1 N1 C1 P2 N2 C2 P3 N3 C3 gs gv z5 X G N
     have Z5:Hid (Ext w1 z5∧Blk z5 gu (.int .i64 u.k) (.int .i64 u.n) (.string u.s) (.int .i64 u.e)∧Blk z5 gv (.int .i64 x.k) (.int .i64 x.n) (.string x.s) (.int .i64 x.e)):=⟨Z4.out.1.trans X.out,Z4.out.2.ext X.out,G.out⟩
     clear X G N mkS Z4 cOa cEa cEx
     rcases HIF.out with ⟨e,hu,hx⟩ | ⟨hu,hx⟩ | ⟨hu,hx⟩
     · subst hu hx
       obtain ⟨vk,vn,vs,ve,q1,q2,q3,q4⟩:∃ vk vn vs ve,(V.err e).k = vk∧(V.err e).n = vn∧(V.err e).s = vs∧(V.err e).e = ve:=⟨_,_,_,_,rfl,rfl,rfl,rfl⟩
       rw [q1,q2,q3,q4] at Z5
       try rw [q1,q2,q3,q4]
       have k4:(vk == 4) = true:=by rw [← q1];rfl
       clear q1 q2 q3 q4
       obtain ⟨_,⟨u0,u1,u2,u3⟩,_⟩:=Z5.out.2.1
       obtain ⟨_,⟨v0,v1,v2,v3⟩,_⟩:=Z5.out.2.2
       go_wp2_with fail
       refine (cV _ (H2.out _ Z5.out.1).1).mono ?_
       rintro e z6 ⟨rfl,E6⟩
       have Z6:Hid (Ext w z6):=(H2.out _ Z5.out.1).1.trans E6
       clear E6
       go_wp2_with fail
       go_ret
       exact ⟨rfl,Z6.out⟩
     · subst hu hx
       simp only [V.k,V.n,V.s,V.e,if_true] at Z5
       have mkS:Hid (∀ V,Ext z5 V→(fun V=>(V.cell? ⟨gb,0,none⟩ = some (.int .i64 Tb.k)∧V.cell? ⟨gb,1,none⟩ = some (.int .i64 Tb.n)∧V.cell? ⟨gb,2,none⟩ = some (.string (bs Tb.s))∧V.cell? ⟨gb,3,none⟩ = some (.int .i64 Tb.e)∧V.cell? ⟨gb,4,none⟩ = some (.int .i64 Tb.r.1)∧V.cell? ⟨gb,5,none⟩ = some (.int .i64 Tb.r.2.1)∧V.cell? ⟨gb,6,none⟩ = some (.bool Tb.r.2.2.1)∧V.cell? ⟨gb,7,none⟩ = some (.bool Tb.r.2.2.2)∧V.cell? ⟨gb,8,none⟩ = some (.int .i64 Tb.q.1)∧V.cell? ⟨gb,9,none⟩ = some (.int .i64 Tb.q.2.1)∧V.cell? ⟨gb,10,none⟩ = some (.bool Tb.q.2.2.1)∧V.cell? ⟨gb,11,none⟩ = some (.bool Tb.q.2.2.2)∧V.cell? ⟨gb,12,none⟩ = some (.slice pb nb cb)∧V.cell? ⟨gv,0,none⟩ = some (.int .i64 x.k)∧V.cell? ⟨gv,1,none⟩ = some (.int .i64 x.n)∧V.cell? ⟨gv,2,none⟩ = some (.string x.s)∧V.cell? ⟨gv,3,none⟩ = some (.int .i64 x.e))∧Ext z5 V) V):=by
         intro V e
         obtain ⟨_,⟨a0,a1,a2,a3,a4,a5,a6,a7,a8,a9,a10,a11,a12⟩,_⟩:=(H2.out V (Z5.out.1.trans e)).2.2.1
         exact K118
       obtain ⟨_,⟨u0,u1,u2,u3⟩,_⟩:=Z5.out.2.1
       go_upto_region 12 with fail
       clear u0 u1 u2 u3
       refine wp_region_held_drew (S:=(fun V=>(V.cell? ⟨gb,0,none⟩ = some (.int .i64 Tb.k)∧V.cell? ⟨gb,1,none⟩ = some (.int .i64 Tb.n)∧V.cell? ⟨gb,2,none⟩ = some (.string (bs Tb.s))∧V.cell? ⟨gb,3,none⟩ = some (.int .i64 Tb.e)∧V.cell? ⟨gb,4,none⟩ = some (.int .i64 Tb.r.1)∧V.cell? ⟨gb,5,none⟩ = some (.int .i64 Tb.r.2.1)∧V.cell? ⟨gb,6,none⟩ = some (.bool Tb.r.2.2.1)∧V.cell? ⟨gb,7,none⟩ = some (.bool Tb.r.2.2.2)∧V.cell? ⟨gb,8,none⟩ = some (.int .i64 Tb.q.1)∧V.cell? ⟨gb,9,none⟩ = some (.int .i64 Tb.q.2.1)∧V.cell? ⟨gb,10,none⟩ = some (.bool Tb.q.2.2.1)∧V.cell? ⟨gb,11,none⟩ = some (.bool Tb.q.2.2.2)∧V.cell? ⟨gb,12,none⟩ = some (.slice pb nb cb)∧V.cell? ⟨gv,0,none⟩ = some (.int .i64 x.k)∧V.cell? ⟨gv,1,none⟩ = some (.int .i64 x.n)∧V.cell? ⟨gv,2,none⟩ = some (.string x.s)∧V.cell? ⟨gv,3,none⟩ = some (.int .i64 x.e))∧Ext z5 V)) J3 ?_ (fun hHeld0=>?_)
       · (refine mkS.out _ ?_;((with_reducible (repeat (first | assumption | exact HX1.out | exact HX2.out | exact HX3.out | exact xr | apply Ext.drew)));done))
       refine tkI (i:=0) (oi:=⟨some 81,.load 33 (.tmp 11),33, "law.go:128",#[],none⟩) ?_
       try go_frame
       refine tkI (i:=1) (oi:=⟨some 82,.load 43 (.tmp 6),43, "law.go:128",#[],none⟩) ?_
       try go_frame
       refine tkI (i:=3) (oi:=⟨some 84,.move (.tmp 8),25, "law.go:128",#[],none⟩) ?_
       try go_frame
       refine wpAnyH_ready (rs:=[2]) J3 J65 ?_
       refine AllReadyH.cons (o:=⟨some 83,.call { callee:=.value (.func 15),args:=#[.tmp 82],argTypes:=#[43] },43, "law.go:128",#[⟨1,.data⟩],none⟩) rfl (fun K hK=>?_) AllReadyH.nil
       go_simp
       refine (cOb _ (Z5.out.1.trans (Ext.drew xr))).mono ?_;rintro e x1 ⟨q1,m1,k1,rfl,hL1,G1⟩;have HX1:Hid (Ext z5 x1):=Ext.trans (Ext.drew xr) G1;have HL1:Hid (IsL x1 (fun _=>True) (.slice q1 m1 k1) Tb.l):=hL1;clear G1 hL1
       try go_wp2_with fail
       refine hK.out _ _ ?_ (fun hHeld1=>?_)
       · (try dsimp only);(refine mkS.out _ ?_;((with_reducible (repeat (first | assumption | exact HX1.out | exact HX2.out | exact HX3.out | exact xr | apply Ext.drew)));done))
       clear hK K hHeld0
       try go_frame
       refine wpAnyH_ready (rs:=[4]) J3 J65 ?_
       refine AllReadyH.cons (o:=⟨some 85,.call { callee:=.value (.func 14),args:=#[.tmp 83,.tmp 84],argTypes:=#[43,25] },33, "law.go:128",#[⟨2,.data⟩,⟨3,.data⟩,⟨2,.chain⟩],none⟩) rfl (fun K hK=>?_) AllReadyH.nil
       go_simp
       refine (cEb _ q1 m1 k1 (Z5.out.1.trans HX1.out) HL1.out).mono ?_;rintro e x2 ⟨rfl,G2⟩;have HX2:Hid (Ext z5 x2):=HX1.out.trans G2;clear G2
       try go_wp2_with fail
       refine hK.out _ _ ?_ (fun hHeld2=>?_)
       · (try dsimp only);(refine mkS.out _ ?_;((with_reducible (repeat (first | assumption | exact HX1.out | exact HX2.out | exact HX3.out | exact xr | apply Ext.drew)));done))
       clear hK K hHeld1
       try go_frame
       refine tkI (i:=5) (oi:=⟨some 86,.binOp .eql 33 (.tmp 81) (.tmp 85) 33,4, "law.go:128",#[⟨0,.data⟩,⟨4,.data⟩],none⟩) ?_
       try go_frame
       refine tkI (i:=6) (oi:=⟨some 87,.move (.tmp 86),4, "law.go:128",#[⟨5,.data⟩,⟨4,.chain⟩],none⟩) ?_
       try go_frame
       refine wpAnyH_ready (rs:=[7]) J3 J65 ?_
       refine AllReadyH.cons (o:=⟨some 88,.call { callee:=.value (.func 12),args:=#[],argTypes:=#[] },4, "law.go:128",#[⟨6,.chain⟩,⟨6,.guard⟩],some (6,true)⟩) rfl (fun K hK=>?_) AllReadyH.nil
       go_simp
       refine (cV _ (H2.out _ (Z5.out.1.trans HX2.out)).1).mono ?_;rintro e x3 ⟨rfl,G3⟩;have HX3:Hid (Ext z5 x3):=HX2.out.trans G3;clear G3
       try go_wp2_with fail
       refine hK.out _ _ ?_ (fun hHeld3=>?_)
       · (try dsimp only);(refine mkS.out _ ?_;((with_reducible (repeat (first | assumption | exact HX1.out | exact HX2.out | exact HX3.out | exact xr | apply Ext.drew)));done))
       clear hK K hHeld2
       try go_frame
       refine tkI (i:=8) (oi:=⟨some 89,.pick (.tmp 87) (.tmp 88) (.const (.bool false)),4, "law.go:128",#[⟨6,.data⟩,⟨7,.data⟩],none⟩) ?_
       try go_frame
       refine tkI (i:=9) (oi:=⟨some 4,.assign (.tmp 89),4, "law.go:128",#[⟨8,.data⟩,⟨7,.chain⟩,⟨0,.phase⟩,⟨1,.phase⟩,⟨2,.phase⟩,⟨3,.phase⟩,⟨4,.phase⟩,⟨5,.phase⟩,⟨6,.phase⟩,⟨7,.phase⟩,⟨8,.phase⟩],none⟩) ?_
       exact K143
     · subst hu hx
       simp only [V.k,V.n,V.s,V.e,Bool.false_eq_true,if_false] at Z5
       have mkS:Hid (∀ V,Ext z5 V→(fun V=>(V.cell? ⟨gc,0,none⟩ = some (.int .i64 Tc.k)∧V.cell? ⟨gc,1,none⟩ = some (.int .i64 Tc.n)∧V.cell? ⟨gc,2,none⟩ = some (.string (bs Tc.s))∧V.cell? ⟨gc,3,none⟩ = some (.int .i64 Tc.e)∧V.cell? ⟨gc,4,none⟩ = some (.int .i64 Tc.r.1)∧V.cell? ⟨gc,5,none⟩ = some (.int .i64 Tc.r.2.1)∧V.cell? ⟨gc,6,none⟩ = some (.bool Tc.r.2.2.1)∧V.cell? ⟨gc,7,none⟩ = some (.bool Tc.r.2.2.2)∧V.cell? ⟨gc,8,none⟩ = some (.int .i64 Tc.q.1)∧V.cell? ⟨gc,9,none⟩ = some (.int .i64 Tc.q.2.1)∧V.cell? ⟨gc,10,none⟩ = some (.bool Tc.q.2.2.1)∧V.cell? ⟨gc,11,none⟩ = some (.bool Tc.q.2.2.2)∧V.cell? ⟨gc,12,none⟩ = some (.slice pc nc cc)∧V.cell? ⟨gv,0,none⟩ = some (.int .i64 x.k)∧V.cell? ⟨gv,1,none⟩ = some (.int .i64 x.n)∧V.cell? ⟨gv,2,none⟩ = some (.string x.s)∧V.cell? ⟨gv,3,none⟩ = some (.int .i64 x.e))∧Ext z5 V) V):=by
         intro V e
         obtain ⟨_,⟨a0,a1,a2,a3,a4,a5,a6,a7,a8,a9,a10,a11,a12⟩,_⟩:=(H2.out V (Z5.out.1.trans e)).2.2.2.1
         exact K118
       obtain ⟨_,⟨u0,u1,u2,u3⟩,_⟩:=Z5.out.2.1
       go_upto_region 13 with fail
       clear u0 u1 u2 u3
       refine wp_region_held_drew (S:=(fun V=>(V.cell? ⟨gc,0,none⟩ = some (.int .i64 Tc.k)∧V.cell? ⟨gc,1,none⟩ = some (.int .i64 Tc.n)∧V.cell? ⟨gc,2,none⟩ = some (.string (bs Tc.s))∧V.cell? ⟨gc,3,none⟩ = some (.int .i64 Tc.e)∧V.cell? ⟨gc,4,none⟩ = some (.int .i64 Tc.r.1)∧V.cell? ⟨gc,5,none⟩ = some (.int .i64 Tc.r.2.1)∧V.cell? ⟨gc,6,none⟩ = some (.bool Tc.r.2.2.1)∧V.cell? ⟨gc,7,none⟩ = some (.bool Tc.r.2.2.2)∧V.cell? ⟨gc,8,none⟩ = some (.int .i64 Tc.q.1)∧V.cell? ⟨gc,9,none⟩ = some (.int .i64 Tc.q.2.1)∧V.cell? ⟨gc,10,none⟩ = some (.bool Tc.q.2.2.1)∧V.cell? ⟨gc,11,none⟩ = some (.bool Tc.q.2.2.2)∧V.cell? ⟨gc,12,none⟩ = some (.slice pc nc cc)∧V.cell? ⟨gv,0,none⟩ = some (.int .i64 x.k)∧V.cell? ⟨gv,1,none⟩ = some (.int .i64 x.n)∧V.cell? ⟨gv,2,none⟩ = some (.string x.s)∧V.cell? ⟨gv,3,none⟩ = some (.int .i64 x.e))∧Ext z5 V)) J3 ?_ (fun hHeld0=>?_)
       · (refine mkS.out _ ?_;((with_reducible (repeat (first | assumption | exact HX1.out | exact HX2.out | exact HX3.out | exact xr | apply Ext.drew)));done))
       refine tkI (i:=0) (oi:=⟨some 90,.load 33 (.tmp 11),33, "law.go:130",#[],none⟩) ?_
       try go_frame
       refine tkI (i:=1) (oi:=⟨some 91,.load 43 (.tmp 7),43, "law.go:130",#[],none⟩) ?_
       try go_frame
       refine tkI (i:=3) (oi:=⟨some 93,.move (.tmp 8),25, "law.go:130",#[],none⟩) ?_
       try go_frame
       refine wpAnyH_ready (rs:=[2]) J3 J65 ?_
       refine AllReadyH.cons (o:=⟨some 92,.call { callee:=.value (.func 15),args:=#[.tmp 91],argTypes:=#[43] },43, "law.go:130",#[⟨1,.data⟩],none⟩) rfl (fun K hK=>?_) AllReadyH.nil
       go_simp
       refine (cOc _ (Z5.out.1.trans (Ext.drew xr))).mono ?_;rintro e x1 ⟨q1,m1,k1,rfl,hL1,G1⟩;have HX1:Hid (Ext z5 x1):=Ext.trans (Ext.drew xr) G1;have HL1:Hid (IsL x1 (fun _=>True) (.slice q1 m1 k1) Tc.l):=hL1;clear G1 hL1
       try go_wp2_with fail
       refine hK.out _ _ ?_ (fun hHeld1=>?_)
       · (try dsimp only);(refine mkS.out _ ?_;((with_reducible (repeat (first | assumption | exact HX1.out | exact HX2.out | exact HX3.out | exact xr | apply Ext.drew)));done))
       clear hK K hHeld0
       try go_frame
       refine wpAnyH_ready (rs:=[4]) J3 J65 ?_
       refine AllReadyH.cons (o:=⟨some 94,.call { callee:=.value (.func 14),args:=#[.tmp 92,.tmp 93],argTypes:=#[43,25] },33, "law.go:130",#[⟨2,.data⟩,⟨3,.data⟩,⟨2,.chain⟩],none⟩) rfl (fun K hK=>?_) AllReadyH.nil
       go_simp
       refine (cEc _ q1 m1 k1 (Z5.out.1.trans HX1.out) HL1.out).mono ?_;rintro e x2 ⟨rfl,G2⟩;have HX2:Hid (Ext z5 x2):=HX1.out.trans G2;clear G2
       try go_wp2_with fail
       refine hK.out _ _ ?_ (fun hHeld2=>?_)
       · (try dsimp only);(refine mkS.out _ ?_;((with_reducible (repeat (first | assumption | exact HX1.out | exact HX2.out | exact HX3.out | exact xr | apply Ext.drew)));done))
       clear hK K hHeld1
       try go_frame
       refine tkI (i:=5) (oi:=⟨some 95,.binOp .eql 33 (.tmp 90) (.tmp 94) 33,4, "law.go:130",#[⟨0,.data⟩,⟨4,.data⟩],none⟩) ?_
       try go_frame
       refine tkI (i:=6) (oi:=⟨some 96,.move (.tmp 95),4, "law.go:130",#[⟨5,.data⟩,⟨4,.chain⟩],none⟩) ?_
       try go_frame
       refine wpAnyH_ready (rs:=[7]) J3 J65 ?_
       refine AllReadyH.cons (o:=⟨some 97,.call { callee:=.value (.func 12),args:=#[],argTypes:=#[] },4, "law.go:130",#[⟨6,.chain⟩,⟨6,.guard⟩],some (6,true)⟩) rfl (fun K hK=>?_) AllReadyH.nil
       go_simp
       refine (cV _ (H2.out _ (Z5.out.1.trans HX2.out)).1).mono ?_;rintro e x3 ⟨rfl,G3⟩;have HX3:Hid (Ext z5 x3):=HX2.out.trans G3;clear G3
       try go_wp2_with fail
       refine hK.out _ _ ?_ (fun hHeld3=>?_)
       · (try dsimp only);(refine mkS.out _ ?_;((with_reducible (repeat (first | assumption | exact HX1.out | exact HX2.out | exact HX3.out | exact xr | apply Ext.drew)));done))
       clear hK K hHeld2
       try go_frame
       refine tkI (i:=8) (oi:=⟨some 98,.pick (.tmp 96) (.tmp 97) (.const (.bool false)),4, "law.go:130",#[⟨6,.data⟩,⟨7,.data⟩],none⟩) ?_
       try go_frame
       refine tkI (i:=9) (oi:=⟨some 4,.assign (.tmp 98),4, "law.go:130",#[⟨8,.data⟩,⟨7,.chain⟩,⟨0,.phase⟩,⟨1,.phase⟩,⟨2,.phase⟩,⟨3,.phase⟩,⟨4,.phase⟩,⟨5,.phase⟩,⟨6,.phase⟩,⟨7,.phase⟩,⟨8,.phase⟩],none⟩) ?_
       exact K143
def z13:List Value:=[.int .i64 0,.int .i64 0,.string ⟨#[]⟩,.int .i64 0,.int .i64 0,.int .i64 0,.bool false,.bool false,.int .i64 0,.int .i64 0,.bool false,.bool false,.slice none 0 0]
def w3:Value:=.agg (z13 ++ (z13 ++ z13)).toArray
theorem laidOut:laidOutB Tryz.prog = true:=J3
theorem contract (H:Type) (enc:TypeId × Value→H) (W:World) (base:Nat) (args:Array Value) (ds gs:List (DataW H)) (before:List MemPlace)
   (hval0:∀ (j:Nat) t v,Tryz.f7.params[j]? = some t→args[j]? = some v→Value.okWide Tryz.prog W .any base t v)
   (hW:DataW.Whole enc Tryz.prog Tryz.f7.params.toList Rows.evalChoiceSpec.vars false W args.toList ds gs before) (hL:laidMetH Tryz.prog Rows.evalChoiceRow.laid W) :
   Calls Tryz.prog 7 args W fun e W'=>∃ v,e = .returned v∧Rows.evalChoiceSpec.post enc Tryz.prog Tryz.f7 false true false false W args v W':=by
 have hval:=hval0
 have hW':=hW
 obtain ⟨p,q,hA0,hV,rfl,hfz,hnd⟩:=hW'
 have hA:DataW.TrodAll enc Tryz.prog W 0 (fun _=>true) true Tryz.f7.params.toList args.toList ds p:=hA0
 rw [Tryz.params7] at hA hval
 obtain ⟨v0,vs0,d0,ds0,p0,q0,hargs,rfl,rfl,h0,r0⟩:=trodAll_cons hA
 obtain ⟨v1,vs1,d1,ds1,p1,q1,rfl,rfl,rfl,h1,r1⟩:=trodAll_cons r0
 obtain ⟨rfl,rfl,rfl⟩:=trodAll_nil r1
 obtain rfl:args = #[v0,v1]:=by cases args;simp_all
 obtain ⟨rfl,rfl⟩:=trodVars_none hV
 have j0:=h0
 have lt0:∀ x ∈ p0,x.block < W.heap.size:=by obtain ⟨m,hm⟩:=j0;exact DataW.trod_lt m _ _ _ hm
 obtain ⟨Ta0,Tb0,Tc0,pa0,pb0,pc0,na0,nb0,nc0,ca0,cb0,cc0,rfl,⟨La0,wa0⟩,⟨Lb0,wb0⟩,⟨Lc0,wc0⟩⟩:=open_exps3 (hval 0 61 v0 rfl rfl) h0
 have j1:=h1
 have lt1:∀ x ∈ p1,x.block < W.heap.size:=by obtain ⟨m,hm⟩:=j1;exact DataW.trod_lt m _ _ _ hm
 obtain ⟨pp1,ln1,cl1,rfl⟩:=okWide_slice Tryz.underlying22 (hval 1 22 v1 rfl rfl)
 obtain ⟨l1,rd1,ki1⟩:∃ l,RdKn W (.slice pp1 ln1 cl1) l∧KnI l:=by
   obtain ⟨fuel,hf⟩:=h1
   obtain ⟨l,g1,g2,_⟩:=open_kns hf
   exact ⟨l,g1,g2⟩
 clear hA0 hval0
 refine (walk Ta0 Tb0 Tc0 pa0 pb0 pc0 na0 nb0 nc0 ca0 cb0 cc0 l1 pp1 ln1 cl1 W La0 wa0 Lb0 wb0 Lc0 wc0 rd1 ki1 (nm_ofE hL) (tab_ofE hL)).mono fun e W' ⟨he,bel⟩=>?_
 subst he
 exact ⟨_,rfl,_,_,_,[],_,[],hW,trodAll_mk1 (shut_bool Tryz.underlying4 _),(trodAll_cons_mk (Below.trod laidOut J3 (of_decide_eq_true J3) j0 bel lt0) (trodAll_cons_mk (Below.trod laidOut J3 (of_decide_eq_true J3) j1 bel lt1) trodAll_mk0)),rfl,Below.frame bel _,fun h=>by cases h⟩
theorem laid_met (os:Os):laidMet Tryz.prog Rows.evalChoiceRow.laid ((laidWorldE os).forCall (fun _ _=>0) ⟨#[],#[w3,.slice none 0 0],[]⟩).memory :=
 laidMet_of_run' 8 J3 J3
theorem reads (os:Os) {H:Type} (enc:TypeId × Value→H):∃ places,DataW.whole enc Tryz.prog ((laidWorldE os).forCall (fun _ _=>0) ⟨#[],#[w3,.slice none 0 0],[]⟩).memory Tryz.f7.params.toList Rows.evalChoiceSpec.vars false (#[w3,.slice none 0 0]:Array Value).toList 8 = some ([.agg [.agg [.lit (.int .i64 0),.lit (.int .i64 0),.lit (.string []),.lit (.int .i64 0),.agg [.lit (.int .i64 0),.lit (.int .i64 0),.lit (.bool false),.lit (.bool false)],.agg [.lit (.int .i64 0),.lit (.int .i64 0),.lit (.bool false),.lit (.bool false)],.nil],.agg [.lit (.int .i64 0),.lit (.int .i64 0),.lit (.string []),.lit (.int .i64 0),.agg [.lit (.int .i64 0),.lit (.int .i64 0),.lit (.bool false),.lit (.bool false)],.agg [.lit (.int .i64 0),.lit (.int .i64 0),.lit (.bool false),.lit (.bool false)],.nil],.agg [.lit (.int .i64 0),.lit (.int .i64 0),.lit (.string []),.lit (.int .i64 0),.agg [.lit (.int .i64 0),.lit (.int .i64 0),.lit (.bool false),.lit (.bool false)],.agg [.lit (.int .i64 0),.lit (.int .i64 0),.lit (.bool false),.lit (.bool false)],.nil]],.nil],[],places) :=
 ⟨[],by kernel_rfl⟩
theorem lifted (os:Os) (started:os.Started) (H:Type) (enc:TypeId × Value→H) (F:Stop.Interp) :
   ReturnsInHanded {} Tryz.checked os 7 .any ((OpenSpec.ofChange Rows.evalChoiceSpec).preRow enc Tryz.prog Tryz.f7 Rows.evalChoiceRow.domain false Rows.evalChoiceRow.laid) (((OpenSpec.ofChange Rows.evalChoiceSpec).at F).post enc Tryz.prog Tryz.f7 false true false false):=by
 obtain ⟨places,hx⟩:=reads os enc
 refine returnsInHanded_of_row (C:=Tryz.checked) (s:=(OpenSpec.ofChange Rows.evalChoiceSpec)) ownK started J3 func7
   (witness_row_at (enc:=enc) (C:=Tryz.checked) false (laidWorldE os) #[w3,.slice none 0 0] rfl J3 J3 J3
     (OpenSpec.preRow_of_cond 8 hx J3 (fun k hk=>by cases hk) J3 (by
       rw [MakeChecks.laidMetH_plain _ _ _ J3]
       exact laid_met os))) ?_
 intro W base args ds gs before hval hW _ _ _ hL _ _
 exact contract H enc W base args ds gs before hval hW hL
theorem said:Rows.EvalChoiceSaid :=
 OpenClaim.holds_of_cond 7 Tryz.f7 rfl rfl rfl rfl rfl rfl rfl ⟨rfl,rfl,rfl,rfl,rfl⟩ rfl rfl rfl rfl rfl J3 func7 J3
   (of_decide_eq_true J3) (by unfold Func.isWrapper;first | (rw [if_pos (by decide +kernel)];kernel_rfl) | (rw [if_neg (by decide +kernel)];exact ⟨rfl,rfl⟩))
   (fun os started H enc _ F=>by rw [OpenClaim.pre_eq_preRow];exact lifted os started H enc F)
theorem plain (f:FuncId) (fn:Func) (hf:Tryz.pinned.checked.prog.funcNamed Rows.evalChoiceRow.func = some f) (hfn:Tryz.pinned.checked.prog.funcs[f]? = some fn) :
   true = Tryz.pinned.checked.prog.looks []∧∀ (j:Nat) t,fn.params[j]? = some t→Tryz.pinned.checked.prog.wantsStandIn t = false:=by
 obtain rfl:f = 7:=Option.some.inj ((show Tryz.prog.funcNamed Rows.evalChoiceRow.func = some 7 by kernel_rfl).symm.trans hf) |>.symm
 obtain rfl:fn = Tryz.f7:=(Option.some.inj (Tryz.func7.symm.trans hfn)).symm
 refine ⟨by kernel_rfl,fun j t ht=>?_⟩
 rw [Tryz.params7] at ht
 have hm:t ∈ [61,22]:=by simpa using Array.mem_of_getElem? ht
 have hall:([61,22].all fun u=>!Tryz.prog.wantsStandIn u) = true:=J3
 exact (show Tryz.prog.wantsStandIn t = false by simpa using List.all_eq_true.1 hall t hm)
theorem card:Rows.EvalChoiceCardSaid :=
 Claim7.holds_tied_plain_at .later [] _ _ _ _ said (fun _ h=>by cases h) J3 (fun _ h=>by cases h) evalChoice_row_tie rfl ⟨rfl,rfl⟩ J3 rfl plain J3
end Go.Proofs.YtcfgbiaahangmaaGreatDoor.evalChoice
namespace Go.Proofs.YtcfgbiaahangmaaGreatDoor
theorem evalChoice_card:Rows.EvalChoiceCardSaid:=evalChoice.card
end Go.Proofs.YtcfgbiaahangmaaGreatDoor

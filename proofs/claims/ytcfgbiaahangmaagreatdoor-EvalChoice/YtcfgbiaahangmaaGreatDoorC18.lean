import Derived.Test.YtcfgbiaahangmaaGreatDoorC17
import Derived.Recover
import Derived.Lib.AppendZeros
set_option maxHeartbeats 2000000
set_option maxRecDepth 100000
namespace Go.Proofs.YtcfgbiaahangmaaGreatDoor
open Go.Proofs.Tryz
open Go.RowKit
theorem FitB.fit {W:World} {v:Value} {l:List Bg} (h:FitB W v l):Fit W v (gsOf l):=⟨h.rd.toA,h.i,h.s,by have:=h.z;simpa [gsOf] using this⟩
structure Rdy (W:World) (v:Value) (l:List Bg):Prop where
 f:FitB W v l
 n:Nm W
 t:Tab W
theorem Rdy.ext {W W':World} {v:Value} {l:List Bg} (h:Rdy W v l) (e:Ext W W'):Rdy W' v l:=⟨h.f.ext e,h.n.ext e,h.t.ext e⟩
theorem root_at (a:Int) (ha:I64 a) {W:World} (W':World) (_:Ext W W'):Calls Tryz.prog 196 #[.int .i64 a] W' fun e w'=>e = .returned (.tuple #[.int .i64 (rootV a),.bool (rootB a)])∧Ext W' w':=by
 unfold rootV rootB
 by_cases h:0≤a
 · obtain ⟨m,rfl⟩:∃ m:Nat,a = (m:Int):=⟨a.toNat,by omega⟩
   rw [if_pos h]
   refine (root_any m (by have:=ha.2;omega) W').mono ?_
   rintro e w' ⟨⟨r,rfl,hr,_⟩,E⟩
   have h2:r = rtN (m * 10000):=hr.one (rt_is _)
   refine ⟨?_,E⟩
   rw [h2]
   simp
 · rw [if_neg h]
   refine (root_no a J2 W').mono ?_
   rintro e w' ⟨rfl,E⟩
   refine ⟨?_,E⟩
   simp [h]
theorem round_at (a d:Int) (ha:I64 a) {W:World} (W':World) (_:Ext W W'):Calls Tryz.prog 192 #[.int .i64 a,.int .i64 d] W' fun e w'=>e = .returned (.tuple #[.int .i64 (rndV a d),.bool (rndB a d)])∧Ext W' w':=round_any a d ha W'
theorem floor_at (a:Int) (ha:I64 a) {W:World} (W':World) (_:Ext W W'):Calls Tryz.prog 195 #[.int .i64 a] W' fun e w'=>e = .returned (.tuple #[.int .i64 (floorV a),.bool (floorB a)])∧Ext W' w':=floor_any a ha W'
theorem num_at (n:Int) {W:World} (hN:Nm W) (W':World) (e:Ext W W'):Calls Tryz.prog 38 #[.int .i64 n] W' fun r w'=>r = .returned (.agg #[.int .i64 (mkNum n).k,.int .i64 (mkNum n).n,.string (mkNum n).s,.int .i64 (mkNum n).e])∧Ext W' w':=by
 have:=vnum_any n W' (hN.ext e)
 rwa [dat_eq] at this
theorem size_at (n:Int) (hn:I64 n) (hc:canB n = true) {W:World} (W':World) (_:Ext W W'):Calls Tryz.prog 189 #[.int .i64 n] W' fun r w'=>r = .returned (.int .i64 (szN n))∧Ext W' w':=(xsize_any n hn hc W').mono (fun e w' h=>⟨h.1,by rw [h.2];exact xr⟩)
theorem xc_SUM (s:ByteArray) (hs:s.data.toList = [83,85,77]) (l:List Bg) (p:Option Addr) (n c:Nat) (W:World) (hR:Rdy W (.slice p n c) l) :
   Calls Tryz.prog 137 #[.slice p n c,.string s] W fun e w'=>RzQ Rw.dat (xCall [83,85,77] l) e∧Ext W w':=by
 have HX:xCall [83,85,77] l = .ok (fSum (gsOf l)).rw:=rfl
 rw [HX]
 clear HX
 have c0:∀ W',Ext W W'→Calls Tryz.prog 179 #[.slice p n c] W' fun e w'=>e = .returned (.agg #[.int .i64 (fSum (gsOf l)).k,.int .i64 (fSum (gsOf l)).n,.string (fSum (gsOf l)).s,.int .i64 (fSum (gsOf l)).e])∧Ext W' w':=fun W' e=>by
   have:=fsum_any (gsOf l) W' p n c (hR.f.ext e).fit (hR.n.ext e)
   rwa [dat_eq] at this
 generalize fSum (gsOf l) = v at *
 clear hR
 have hl:s.toList = [83,85,77]:=J110
 have e0:(s.toList == [83,85,77]) = true:=J111
 exact K181
theorem xc_COUNT (s:ByteArray) (hs:s.data.toList = [67,79,85,78,84]) (l:List Bg) (p:Option Addr) (n c:Nat) (W:World) (hR:Rdy W (.slice p n c) l) :
   Calls Tryz.prog 137 #[.slice p n c,.string s] W fun e w'=>RzQ Rw.dat (xCall [67,79,85,78,84] l) e∧Ext W w':=by
 have HX:xCall [67,79,85,78,84] l = .ok (fCount (gsOf l)).rw:=rfl
 rw [HX]
 clear HX
 have c0:∀ W',Ext W W'→Calls Tryz.prog 180 #[.slice p n c] W' fun e w'=>e = .returned (.agg #[.int .i64 (fCount (gsOf l)).k,.int .i64 (fCount (gsOf l)).n,.string (fCount (gsOf l)).s,.int .i64 (fCount (gsOf l)).e])∧Ext W' w':=fun W' e=>by
   have:=fcount_any (gsOf l) W' p n c (hR.f.ext e).fit (hR.n.ext e)
   rwa [dat_eq] at this
 generalize fCount (gsOf l) = v at *
 clear hR
 have hl:s.toList = [67,79,85,78,84]:=J110
 have e0:(s.toList == [83,85,77]) = false:=J111
 have e1:(s.toList == [67,79,85,78,84]) = true:=J111
 exact K181
theorem xc_MIN (s:ByteArray) (hs:s.data.toList = [77,73,78]) (l:List Bg) (p:Option Addr) (n c:Nat) (W:World) (hR:Rdy W (.slice p n c) l) :
   Calls Tryz.prog 137 #[.slice p n c,.string s] W fun e w'=>RzQ Rw.dat (xCall [77,73,78] l) e∧Ext W w':=by
 have HX:xCall [77,73,78] l = .ok (fBest ltB (gsOf l)).rw:=rfl
 rw [HX]
 clear HX
 have c0:∀ W',Ext W W'→Calls Tryz.prog 181 #[.slice p n c] W' fun e w'=>e = .returned (.agg #[.int .i64 (fBest ltB (gsOf l)).k,.int .i64 (fBest ltB (gsOf l)).n,.string (fBest ltB (gsOf l)).s,.int .i64 (fBest ltB (gsOf l)).e])∧Ext W' w':=fun W' e=>by
   have:=fmin_any (gsOf l) W' p n c (hR.f.ext e).fit (hR.n.ext e)
   rwa [dat_eq] at this
 generalize fBest ltB (gsOf l) = v at *
 clear hR
 have hl:s.toList = [77,73,78]:=J110
 have e0:(s.toList == [83,85,77]) = false:=J111
 have e1:(s.toList == [67,79,85,78,84]) = false:=J111
 have e2:(s.toList == [77,73,78]) = true:=J111
 exact K181
theorem xc_MAX (s:ByteArray) (hs:s.data.toList = [77,65,88]) (l:List Bg) (p:Option Addr) (n c:Nat) (W:World) (hR:Rdy W (.slice p n c) l) :
   Calls Tryz.prog 137 #[.slice p n c,.string s] W fun e w'=>RzQ Rw.dat (xCall [77,65,88] l) e∧Ext W w':=by
 have HX:xCall [77,65,88] l = .ok (fBest gtB (gsOf l)).rw:=rfl
 rw [HX]
 clear HX
 have c0:∀ W',Ext W W'→Calls Tryz.prog 182 #[.slice p n c] W' fun e w'=>e = .returned (.agg #[.int .i64 (fBest gtB (gsOf l)).k,.int .i64 (fBest gtB (gsOf l)).n,.string (fBest gtB (gsOf l)).s,.int .i64 (fBest gtB (gsOf l)).e])∧Ext W' w':=fun W' e=>by
   have:=fmax_any (gsOf l) W' p n c (hR.f.ext e).fit (hR.n.ext e)
   rwa [dat_eq] at this
 generalize fBest gtB (gsOf l) = v at *
 clear hR
 have hl:s.toList = [77,65,88]:=J110
 have e0:(s.toList == [83,85,77]) = false:=J111
 have e1:(s.toList == [67,79,85,78,84]) = false:=J111
 have e2:(s.toList == [77,73,78]) = false:=J111
 have e3:(s.toList == [77,65,88]) = true:=J111
 exact K181
theorem xc_AVERAGE (s:ByteArray) (hs:s.data.toList = [65,86,69,82,65,71,69]) (l:List Bg) (p:Option Addr) (n c:Nat) (W:World) (hR:Rdy W (.slice p n c) l) :
   Calls Tryz.prog 137 #[.slice p n c,.string s] W fun e w'=>RzQ Rw.dat (xCall [65,86,69,82,65,71,69] l) e∧Ext W w':=by
 have HX:xCall [65,86,69,82,65,71,69] l = .ok (fMean (gsOf l)).rw:=rfl
 rw [HX]
 clear HX
 have c0:∀ W',Ext W W'→Calls Tryz.prog 183 #[.slice p n c] W' fun e w'=>e = .returned (.agg #[.int .i64 (fMean (gsOf l)).k,.int .i64 (fMean (gsOf l)).n,.string (fMean (gsOf l)).s,.int .i64 (fMean (gsOf l)).e])∧Ext W' w':=fun W' e=>by
   have:=favg_any (gsOf l) W' p n c (hR.f.ext e).fit (hR.n.ext e)
   rwa [dat_eq] at this
 generalize fMean (gsOf l) = v at *
 clear hR
 have hl:s.toList = [65,86,69,82,65,71,69]:=J110
 have e0:(s.toList == [83,85,77]) = false:=J111
 have e1:(s.toList == [67,79,85,78,84]) = false:=J111
 have e2:(s.toList == [77,73,78]) = false:=J111
 have e3:(s.toList == [77,65,88]) = false:=J111
 have e4:(s.toList == [65,86,69,82,65,71,69]) = true:=J111
 exact K181
theorem xc_AND (s:ByteArray) (hs:s.data.toList = [65,78,68]) (l:List Bg) (p:Option Addr) (n c:Nat) (W:World) (hR:Rdy W (.slice p n c) l) :
   Calls Tryz.prog 137 #[.slice p n c,.string s] W fun e w'=>RzQ Rw.dat (xCall [65,78,68] l) e∧Ext W w':=by
 have HX:xCall [65,78,68] l = .ok (fAnd (gsOf l)).rw:=rfl
 rw [HX]
 clear HX
 have c0:∀ W',Ext W W'→Calls Tryz.prog 184 #[.slice p n c] W' fun e w'=>e = .returned (.agg #[.int .i64 (fAnd (gsOf l)).k,.int .i64 (fAnd (gsOf l)).n,.string (fAnd (gsOf l)).s,.int .i64 (fAnd (gsOf l)).e])∧Ext W' w':=fun W' e=>by
   have:=fand_any (gsOf l) W' p n c (hR.f.ext e).fit (hR.n.ext e)
   rwa [dat_eq] at this
 generalize fAnd (gsOf l) = v at *
 clear hR
 have hl:s.toList = [65,78,68]:=J110
 have e0:(s.toList == [83,85,77]) = false:=J111
 have e1:(s.toList == [67,79,85,78,84]) = false:=J111
 have e2:(s.toList == [77,73,78]) = false:=J111
 have e3:(s.toList == [77,65,88]) = false:=J111
 have e4:(s.toList == [65,86,69,82,65,71,69]) = false:=J111
 have e5:(s.toList == [65,78,68]) = true:=J111
 exact K181
theorem xc_OR (s:ByteArray) (hs:s.data.toList = [79,82]) (l:List Bg) (p:Option Addr) (n c:Nat) (W:World) (hR:Rdy W (.slice p n c) l) :
   Calls Tryz.prog 137 #[.slice p n c,.string s] W fun e w'=>RzQ Rw.dat (xCall [79,82] l) e∧Ext W w':=by
 have HX:xCall [79,82] l = .ok (fOr (gsOf l)).rw:=rfl
 rw [HX]
 clear HX
 have c0:∀ W',Ext W W'→Calls Tryz.prog 185 #[.slice p n c] W' fun e w'=>e = .returned (.agg #[.int .i64 (fOr (gsOf l)).k,.int .i64 (fOr (gsOf l)).n,.string (fOr (gsOf l)).s,.int .i64 (fOr (gsOf l)).e])∧Ext W' w':=fun W' e=>by
   have:=for_any (gsOf l) W' p n c (hR.f.ext e).fit (hR.n.ext e)
   rwa [dat_eq] at this
 generalize fOr (gsOf l) = v at *
 clear hR
 have hl:s.toList = [79,82]:=J110
 have e0:(s.toList == [83,85,77]) = false:=J111
 have e1:(s.toList == [67,79,85,78,84]) = false:=J111
 have e2:(s.toList == [77,73,78]) = false:=J111
 have e3:(s.toList == [77,65,88]) = false:=J111
 have e4:(s.toList == [65,86,69,82,65,71,69]) = false:=J111
 have e5:(s.toList == [65,78,68]) = false:=J111
 have e6:(s.toList == [79,82]) = true:=J111
 exact K181
theorem xc_CONCAT (s:ByteArray) (hs:s.data.toList = [67,79,78,67,65,84]) (l:List Bg) (p:Option Addr) (n c:Nat) (W:World) (hR:Rdy W (.slice p n c) l) :
   Calls Tryz.prog 137 #[.slice p n c,.string s] W fun e w'=>RzQ Rw.dat (xCall [67,79,78,67,65,84] l) e∧Ext W w':=by
 have HX:xCall [67,79,78,67,65,84] l = .ok (fCat (gsOf l)).rw:=rfl
 rw [HX]
 clear HX
 have c0:∀ W',Ext W W'→Calls Tryz.prog 186 #[.slice p n c] W' fun e w'=>e = .returned (.agg #[.int .i64 (fCat (gsOf l)).k,.int .i64 (fCat (gsOf l)).n,.string (fCat (gsOf l)).s,.int .i64 (fCat (gsOf l)).e])∧Ext W' w':=fun W' e=>by
   have:=fcat_any (gsOf l) W' p n c (hR.f.ext e).fit (hR.t.ext e) (hR.n.ext e)
   rwa [dat_eq] at this
 generalize fCat (gsOf l) = v at *
 clear hR
 have hl:s.toList = [67,79,78,67,65,84]:=J110
 have e0:(s.toList == [83,85,77]) = false:=J111
 have e1:(s.toList == [67,79,85,78,84]) = false:=J111
 have e2:(s.toList == [77,73,78]) = false:=J111
 have e3:(s.toList == [77,65,88]) = false:=J111
 have e4:(s.toList == [65,86,69,82,65,71,69]) = false:=J111
 have e5:(s.toList == [65,78,68]) = false:=J111
 have e6:(s.toList == [79,82]) = false:=J111
 have e7:(s.toList == [67,79,78,67,65,84]) = true:=J111
 exact K181
theorem xc_IF (s:ByteArray) (hs:s.data.toList = [73,70]) (l:List Bg) (a0:Bg) (h0:l[0]? = some a0) (a1:Bg) (h1:l[1]? = some a1) (p:Option Addr) (n c:Nat) (W:World) (hR:Rdy W (.slice p n c) l) :
   Calls Tryz.prog 137 #[.slice p n c,.string s] W fun e w'=>RzQ Rw.dat (xCall [73,70] l) e∧Ext W w':=by
 have HX:xCall [73,70] l = xIf l:=rfl
 rw [HX]
 clear HX
 have c0:∀ W',Ext W W'→Calls Tryz.prog 187 #[.slice p n c] W' fun e w'=>RzQ Rw.dat (xIf l) e∧Ext W' w':=fun W' e=>xchosen_any l a0 a1 h0 h1 p n c W' (hR.f.ext e) (hR.n.ext e)
 generalize xIf l = r at *
 clear hR h0 h1
 have hl:s.toList = [73,70]:=J110
 have e0:(s.toList == [83,85,77]) = false:=J111
 have e1:(s.toList == [67,79,85,78,84]) = false:=J111
 have e2:(s.toList == [77,73,78]) = false:=J111
 have e3:(s.toList == [77,65,88]) = false:=J111
 have e4:(s.toList == [65,86,69,82,65,71,69]) = false:=J111
 have e5:(s.toList == [65,78,68]) = false:=J111
 have e6:(s.toList == [79,82]) = false:=J111
 have e7:(s.toList == [67,79,78,67,65,84]) = false:=J111
 have e8:(s.toList == [73,70]) = true:=J111
 clear hs hl
 cases r with
 | ok r =>
   have C:∀ W',Ext W W'→Calls Tryz.prog 187 #[.slice p n c] W' fun e w'=>e = .returned (.agg #[.int .i64 r.k,.int .i64 r.n,.string r.s,.int .i64 r.e])∧Ext W' w':=c0
   exact K186
 | error x =>
   have C:∀ W',Ext W W'→Calls Tryz.prog 187 #[.slice p n c] W' fun e w'=>e = pan x∧Ext W' w':=c0
   exact K185
theorem xc_NOT (s:ByteArray) (hs:s.data.toList = [78,79,84]) (l:List Bg) (a0:Bg) (h0:l[0]? = some a0) (p:Option Addr) (n c:Nat) (W:World) (hR:Rdy W (.slice p n c) l) :
   Calls Tryz.prog 137 #[.slice p n c,.string s] W fun e w'=>RzQ Rw.dat (xCall [78,79,84] l) e∧Ext W w':=by
 have hl:s.toList = [78,79,84]:=J110
 have e0:(s.toList == [83,85,77]) = false:=J111
 have e1:(s.toList == [67,79,85,78,84]) = false:=J111
 have e2:(s.toList == [77,73,78]) = false:=J111
 have e3:(s.toList == [77,65,88]) = false:=J111
 have e4:(s.toList == [65,86,69,82,65,71,69]) = false:=J111
 have e5:(s.toList == [65,78,68]) = false:=J111
 have e6:(s.toList == [79,82]) = false:=J111
 have e7:(s.toList == [67,79,78,67,65,84]) = false:=J111
 have e8:(s.toList == [73,70]) = false:=J111
 have e9:(s.toList == [78,79,84]) = true:=J111
 clear hs hl
 cases ht:trR (sgl a0) with
 | error x =>
   have HX:xCall [78,79,84] l = .error x:=by show xNot l = _;unfold xNot;rw [sg_of h0,ht]
   rw [HX]
   have c0:=xtruth_no hR.f hR.n h0 ht
   clear HX ht hR h0
   go_enter func137,ntmps137
   exact K28
 | ok t =>
   have HX:xCall [78,79,84] l = .ok (V.tf (!t)).rw:=by show xNot l = _;unfold xNot;rw [sg_of h0,ht]
   rw [HX]
   have c0:=xtruth_ok hR.f hR.n h0 ht
   clear HX ht hR h0
   cases t with
   | true =>
     have c1:∀ W',Ext W W'→Calls Tryz.prog 67 #[.bool false] W' fun r w'=>r = .returned (.agg #[.int .i64 1,.int .i64 0,.string ⟨#[]⟩,.int .i64 0])∧Ext W' w':=fun W' e=>bool_at (W:=W) false W' e
     exact K11
   | false =>
     have c1:∀ W',Ext W W'→Calls Tryz.prog 67 #[.bool true] W' fun r w'=>r = .returned (.agg #[.int .i64 1,.int .i64 1,.string ⟨#[]⟩,.int .i64 0])∧Ext W' w':=fun W' e=>bool_at (W:=W) true W' e
     exact K11
theorem xc_ABS (s:ByteArray) (hs:s.data.toList = [65,66,83]) (l:List Bg) (a0:Bg) (h0:l[0]? = some a0) (p:Option Addr) (n c:Nat) (W:World) (hR:Rdy W (.slice p n c) l) :
   Calls Tryz.prog 137 #[.slice p n c,.string s] W fun e w'=>RzQ Rw.dat (xCall [65,66,83] l) e∧Ext W w':=by
 have hl:s.toList = [65,66,83]:=J110
 have e0:(s.toList == [83,85,77]) = false:=J111
 have e1:(s.toList == [67,79,85,78,84]) = false:=J111
 have e2:(s.toList == [77,73,78]) = false:=J111
 have e3:(s.toList == [77,65,88]) = false:=J111
 have e4:(s.toList == [65,86,69,82,65,71,69]) = false:=J111
 have e5:(s.toList == [65,78,68]) = false:=J111
 have e6:(s.toList == [79,82]) = false:=J111
 have e7:(s.toList == [67,79,78,67,65,84]) = false:=J111
 have e8:(s.toList == [73,70]) = false:=J111
 have e9:(s.toList == [78,79,84]) = false:=J111
 have e10:(s.toList == [65,66,83]) = true:=J111
 clear hs hl
 have o0:=(At.mk hR.f hR.n h0).ok
 cases ht:nuR (sgl a0) with
 | error x =>
   have HX:xCall [65,66,83] l = .error x:=by show xAbs l = _;unfold xAbs;rw [sg_of h0,ht]
   exact K187
 | ok a =>
   have HX:xCall [65,66,83] l = .ok (mkNum (szN a)).rw:=by show xAbs l = _;unfold xAbs;rw [sg_of h0,ht]
   rw [HX]
   obtain ⟨i1,i2⟩:=nuR_can o0 ht
   have c0:=xnumber_ok hR.f hR.n h0 ht
   have c1:=size_at a i1 i2 (W:=W)
   have c2:=num_at (szN a) hR.n
   generalize mkNum (szN a) = v at *
   generalize szN a = y at *
   clear HX ht hR h0 o0 i1 i2
   exact K14
theorem xc_ROUND (s:ByteArray) (hs:s.data.toList = [82,79,85,78,68]) (l:List Bg) (a0:Bg) (h0:l[0]? = some a0) (a1:Bg) (h1:l[1]? = some a1) (p:Option Addr) (n c:Nat) (W:World) (hR:Rdy W (.slice p n c) l) :
   Calls Tryz.prog 137 #[.slice p n c,.string s] W fun e w'=>RzQ Rw.dat (xCall [82,79,85,78,68] l) e∧Ext W w':=by
 have hl:s.toList = [82,79,85,78,68]:=J110
 have e0:(s.toList == [83,85,77]) = false:=J111
 have e1:(s.toList == [67,79,85,78,84]) = false:=J111
 have e2:(s.toList == [77,73,78]) = false:=J111
 have e3:(s.toList == [77,65,88]) = false:=J111
 have e4:(s.toList == [65,86,69,82,65,71,69]) = false:=J111
 have e5:(s.toList == [65,78,68]) = false:=J111
 have e6:(s.toList == [79,82]) = false:=J111
 have e7:(s.toList == [67,79,78,67,65,84]) = false:=J111
 have e8:(s.toList == [73,70]) = false:=J111
 have e9:(s.toList == [78,79,84]) = false:=J111
 have e10:(s.toList == [65,66,83]) = false:=J111
 have e11:(s.toList == [82,79,85,78,68]) = true:=J111
 clear hs hl
 have o0:=(At.mk hR.f hR.n h0).ok
 cases ht:nuR (sgl a0) with
 | error x =>
   have HX:xCall [82,79,85,78,68] l = .error x:=by show xRound l = _;unfold xRound;rw [sg_of h0,ht]
   exact K187
 | ok a =>
   obtain ⟨i1,i2⟩:=nuR_can o0 ht
   have c0:=xnumber_ok hR.f hR.n h0 ht
   cases hu:whR (sgl a1) with
   | error x =>
     have HX:xCall [82,79,85,78,68] l = .error x:=J112
     rw [HX]
     have c1:=xwhole_no hR.f hR.n h1 hu
     clear HX ht hR h0 o0 hu h1
     go_enter func137,ntmps137
     exact K39
   | ok d =>
     have HX:xCall [82,79,85,78,68] l = (tolR (rndB a d) (rndV a d)).map V.rw:=J112
     rw [HX]
     have c1:=xwhole_ok hR.f hR.n h1 hu
     have c2:=round_at a d i1 (W:=W)
     have hN:=hR.n
     clear HX ht hR h0 o0 i1 i2 hu h1
     generalize rndV a d = y at *
     cases hB:rndB a d with
     | false =>
       rw [hB] at c2
       have c3:=told_no y (W:=W)
       clear hB
       rw [show (tolR false y).map V.rw = .error 4 from rfl]
       go_enter func137,ntmps137
       exact K32
     | true =>
       rw [hB] at c2
       have c3:=told_ok y hN
       clear hB
       rw [show (tolR true y).map V.rw = .ok (mkNum y).rw from rfl]
       generalize mkNum y = v at *
       go_enter func137,ntmps137
       go_wp2_with fail
       refine (c0 _ (xr.alloc _)).mono ?_
       rintro e w1 ⟨rfl,E1⟩
       have B1:Hid (Blk w1 W.heap.size (.int .i64 0) (.int .i64 0) (.string ⟨#[]⟩) (.int .i64 0)∧Ext W w1):=⟨blk_top J65 E1,(xr.alloc _).trans E1⟩
       clear E1
       go_wp2_with fail
       refine (c1 _ B1.out.2).mono ?_
       rintro e w2 ⟨rfl,E2⟩
       have B2:Hid (Blk w2 W.heap.size (.int .i64 0) (.int .i64 0) (.string ⟨#[]⟩) (.int .i64 0)∧Ext W w2):=⟨B1.out.1.ext E2,B1.out.2.trans E2⟩
       clear E2
       go_wp2_with fail
       refine (c2 _ B2.out.2).mono ?_
       rintro e w3 ⟨rfl,E3⟩
       have B3:Hid (Blk w3 W.heap.size (.int .i64 0) (.int .i64 0) (.string ⟨#[]⟩) (.int .i64 0)∧Ext W w3):=⟨B2.out.1.ext E3,B2.out.2.trans E3⟩
       clear E3
       go_wp2_with fail
       refine (c3 _ B3.out.2).mono ?_
       rintro e w4 ⟨rfl,E4⟩
       have B4:Hid (Blk w4 W.heap.size (.int .i64 0) (.int .i64 0) (.string ⟨#[]⟩) (.int .i64 0)∧Ext W w4):=⟨B3.out.1.ext E4,B3.out.2.trans E4⟩
       clear E4
       obtain ⟨z,⟨b0,b1,b2,b3⟩,f0,f1,f2,f3⟩:=B4.out.1
       go_wp2_with fail
       exact fin4 b0 b1 b2 b3 rfl J65 B4.out.2 J5 (fun W h=>⟨rfl,h⟩)
theorem xc_MOD (s:ByteArray) (hs:s.data.toList = [77,79,68]) (l:List Bg) (a0:Bg) (h0:l[0]? = some a0) (a1:Bg) (h1:l[1]? = some a1) (p:Option Addr) (n c:Nat) (W:World) (hR:Rdy W (.slice p n c) l) :
   Calls Tryz.prog 137 #[.slice p n c,.string s] W fun e w'=>RzQ Rw.dat (xCall [77,79,68] l) e∧Ext W w':=by
 have HX:xCall [77,79,68] l = xMod l:=rfl
 rw [HX]
 clear HX
 have c0:∀ W',Ext W W'→Calls Tryz.prog 194 #[.slice p n c] W' fun e w'=>RzQ Rw.dat (xMod l) e∧Ext W' w':=fun W' e=>xrest_any l a0 a1 h0 h1 p n c W' (hR.f.ext e) (hR.n.ext e)
 generalize xMod l = r at *
 clear hR h0 h1
 have hl:s.toList = [77,79,68]:=J110
 have e0:(s.toList == [83,85,77]) = false:=J111
 have e1:(s.toList == [67,79,85,78,84]) = false:=J111
 have e2:(s.toList == [77,73,78]) = false:=J111
 have e3:(s.toList == [77,65,88]) = false:=J111
 have e4:(s.toList == [65,86,69,82,65,71,69]) = false:=J111
 have e5:(s.toList == [65,78,68]) = false:=J111
 have e6:(s.toList == [79,82]) = false:=J111
 have e7:(s.toList == [67,79,78,67,65,84]) = false:=J111
 have e8:(s.toList == [73,70]) = false:=J111
 have e9:(s.toList == [78,79,84]) = false:=J111
 have e10:(s.toList == [65,66,83]) = false:=J111
 have e11:(s.toList == [82,79,85,78,68]) = false:=J111
 have e12:(s.toList == [77,79,68]) = true:=J111
 clear hs hl
 cases r with
 | ok r =>
   have C:∀ W',Ext W W'→Calls Tryz.prog 194 #[.slice p n c] W' fun e w'=>e = .returned (.agg #[.int .i64 r.k,.int .i64 r.n,.string r.s,.int .i64 r.e])∧Ext W' w':=c0
   exact K186
 | error x =>
   have C:∀ W',Ext W W'→Calls Tryz.prog 194 #[.slice p n c] W' fun e w'=>e = pan x∧Ext W' w':=c0
   exact K185
theorem xc_FLOOR (s:ByteArray) (hs:s.data.toList = [70,76,79,79,82]) (l:List Bg) (a0:Bg) (h0:l[0]? = some a0) (p:Option Addr) (n c:Nat) (W:World) (hR:Rdy W (.slice p n c) l) :
   Calls Tryz.prog 137 #[.slice p n c,.string s] W fun e w'=>RzQ Rw.dat (xCall [70,76,79,79,82] l) e∧Ext W w':=by
 have hl:s.toList = [70,76,79,79,82]:=J110
 have e0:(s.toList == [83,85,77]) = false:=J111
 have e1:(s.toList == [67,79,85,78,84]) = false:=J111
 have e2:(s.toList == [77,73,78]) = false:=J111
 have e3:(s.toList == [77,65,88]) = false:=J111
 have e4:(s.toList == [65,86,69,82,65,71,69]) = false:=J111
 have e5:(s.toList == [65,78,68]) = false:=J111
 have e6:(s.toList == [79,82]) = false:=J111
 have e7:(s.toList == [67,79,78,67,65,84]) = false:=J111
 have e8:(s.toList == [73,70]) = false:=J111
 have e9:(s.toList == [78,79,84]) = false:=J111
 have e10:(s.toList == [65,66,83]) = false:=J111
 have e11:(s.toList == [82,79,85,78,68]) = false:=J111
 have e12:(s.toList == [77,79,68]) = false:=J111
 have e13:(s.toList == [70,76,79,79,82]) = true:=J111
 clear hs hl
 have o0:=(At.mk hR.f hR.n h0).ok
 cases ht:nuR (sgl a0) with
 | error x =>
   have HX:xCall [70,76,79,79,82] l = .error x:=by show xFloor l = _;unfold xFloor;rw [sg_of h0,ht]
   exact K187
 | ok a =>
   have HX:xCall [70,76,79,79,82] l = (tolR (floorB a) (floorV a)).map V.rw:=by show xFloor l = _;unfold xFloor;rw [sg_of h0,ht]
   rw [HX]
   obtain ⟨i1,i2⟩:=nuR_can o0 ht
   have c0:=xnumber_ok hR.f hR.n h0 ht
   have c1:=floor_at a i1 (W:=W)
   have hN:=hR.n
   clear HX ht hR h0 o0 i1 i2
   generalize floorV a = y at *
   cases hB:floorB a with
   | false =>
     exact K37
   | true =>
     exact K197
theorem xc_SQRT (s:ByteArray) (hs:s.data.toList = [83,81,82,84]) (l:List Bg) (a0:Bg) (h0:l[0]? = some a0) (p:Option Addr) (n c:Nat) (W:World) (hR:Rdy W (.slice p n c) l) :
   Calls Tryz.prog 137 #[.slice p n c,.string s] W fun e w'=>RzQ Rw.dat (xCall [83,81,82,84] l) e∧Ext W w':=by
 have hl:s.toList = [83,81,82,84]:=J110
 have e0:(s.toList == [83,85,77]) = false:=J111
 have e1:(s.toList == [67,79,85,78,84]) = false:=J111
 have e2:(s.toList == [77,73,78]) = false:=J111
 have e3:(s.toList == [77,65,88]) = false:=J111
 have e4:(s.toList == [65,86,69,82,65,71,69]) = false:=J111
 have e5:(s.toList == [65,78,68]) = false:=J111
 have e6:(s.toList == [79,82]) = false:=J111
 have e7:(s.toList == [67,79,78,67,65,84]) = false:=J111
 have e8:(s.toList == [73,70]) = false:=J111
 have e9:(s.toList == [78,79,84]) = false:=J111
 have e10:(s.toList == [65,66,83]) = false:=J111
 have e11:(s.toList == [82,79,85,78,68]) = false:=J111
 have e12:(s.toList == [77,79,68]) = false:=J111
 have e13:(s.toList == [70,76,79,79,82]) = false:=J111
 have e14:(s.toList == [83,81,82,84]) = true:=J111
 clear hs hl
 have o0:=(At.mk hR.f hR.n h0).ok
 cases ht:nuR (sgl a0) with
 | error x =>
   have HX:xCall [83,81,82,84] l = .error x:=by show xSqrt l = _;unfold xSqrt;rw [sg_of h0,ht]
   exact K187
 | ok a =>
   have HX:xCall [83,81,82,84] l = (tolR (rootB a) (rootV a)).map V.rw:=by show xSqrt l = _;unfold xSqrt;rw [sg_of h0,ht]
   rw [HX]
   obtain ⟨i1,i2⟩:=nuR_can o0 ht
   have c0:=xnumber_ok hR.f hR.n h0 ht
   have c1:=root_at a i1 (W:=W)
   have hN:=hR.n
   clear HX ht hR h0 o0 i1 i2
   generalize rootV a = y at *
   cases hB:rootB a with
   | false =>
     exact K37
   | true =>
     exact K197
theorem xc_LEN (s:ByteArray) (hs:s.data.toList = [76,69,78]) (l:List Bg) (a0:Bg) (h0:l[0]? = some a0) (p:Option Addr) (n c:Nat) (W:World) (hR:Rdy W (.slice p n c) l) :
   Calls Tryz.prog 137 #[.slice p n c,.string s] W fun e w'=>RzQ Rw.dat (xCall [76,69,78] l) e∧Ext W w':=by
 have hl:s.toList = [76,69,78]:=J110
 have e0:(s.toList == [83,85,77]) = false:=J111
 have e1:(s.toList == [67,79,85,78,84]) = false:=J111
 have e2:(s.toList == [77,73,78]) = false:=J111
 have e3:(s.toList == [77,65,88]) = false:=J111
 have e4:(s.toList == [65,86,69,82,65,71,69]) = false:=J111
 have e5:(s.toList == [65,78,68]) = false:=J111
 have e6:(s.toList == [79,82]) = false:=J111
 have e7:(s.toList == [67,79,78,67,65,84]) = false:=J111
 have e8:(s.toList == [73,70]) = false:=J111
 have e9:(s.toList == [78,79,84]) = false:=J111
 have e10:(s.toList == [65,66,83]) = false:=J111
 have e11:(s.toList == [82,79,85,78,68]) = false:=J111
 have e12:(s.toList == [77,79,68]) = false:=J111
 have e13:(s.toList == [70,76,79,79,82]) = false:=J111
 have e14:(s.toList == [83,81,82,84]) = false:=J111
 have e15:(s.toList == [76,69,78]) = true:=J111
 clear hs hl
 have o0:=(At.mk hR.f hR.n h0).ok
 cases ht:teR (sgl a0) with
 | error x =>
   have HX:xCall [76,69,78] l = .error x:=by show xLen l = _;unfold xLen;rw [sg_of h0,ht]
   rw [HX]
   have c0:=xtext_no hR.f hR.n hR.t h0 ht
   clear HX ht hR h0 o0
   go_enter func137,ntmps137
   exact K28
 | ok q =>
   have HX:xCall [76,69,78] l = .ok (mkNum ((q.size:Int) * 10000)).rw:=by show xLen l = _;unfold xLen;rw [sg_of h0,ht]
   rw [HX]
   have hq:=teR_le o0 ht
   have hqI:(q.size:Int)≤300:=J2
   have c0:=xtext_ok hR.f hR.n hR.t h0 ht
   have c1:=num_at ((q.size:Int) * 10000) hR.n
   clear HX ht hR h0 o0 hq
   generalize mkNum ((q.size:Int) * 10000) = v at *
   exact K11
theorem xc_LEFT (s:ByteArray) (hs:s.data.toList = [76,69,70,84]) (l:List Bg) (a0:Bg) (h0:l[0]? = some a0) (p:Option Addr) (n c:Nat) (W:World) (hR:Rdy W (.slice p n c) l) :
   Calls Tryz.prog 137 #[.slice p n c,.string s] W fun e w'=>RzQ Rw.dat (xCall [76,69,70,84] l) e∧Ext W w':=by
 have HX:xCall [76,69,70,84] l = xLeft l:=rfl
 rw [HX]
 clear HX
 have c0:∀ W',Ext W W'→Calls Tryz.prog 198 #[.slice p n c] W' fun e w'=>RzQ Rw.dat (xLeft l) e∧Ext W' w':=fun W' e=>xleft_any l a0 h0 p n c W' (hR.f.ext e) (hR.n.ext e) (hR.t.ext e)
 generalize xLeft l = r at *
 clear hR h0
 have hl:s.toList = [76,69,70,84]:=J110
 have e0:(s.toList == [83,85,77]) = false:=J111
 have e1:(s.toList == [67,79,85,78,84]) = false:=J111
 have e2:(s.toList == [77,73,78]) = false:=J111
 have e3:(s.toList == [77,65,88]) = false:=J111
 have e4:(s.toList == [65,86,69,82,65,71,69]) = false:=J111
 have e5:(s.toList == [65,78,68]) = false:=J111
 have e6:(s.toList == [79,82]) = false:=J111
 have e7:(s.toList == [67,79,78,67,65,84]) = false:=J111
 have e8:(s.toList == [73,70]) = false:=J111
 have e9:(s.toList == [78,79,84]) = false:=J111
 have e10:(s.toList == [65,66,83]) = false:=J111
 have e11:(s.toList == [82,79,85,78,68]) = false:=J111
 have e12:(s.toList == [77,79,68]) = false:=J111
 have e13:(s.toList == [70,76,79,79,82]) = false:=J111
 have e14:(s.toList == [83,81,82,84]) = false:=J111
 have e15:(s.toList == [76,69,78]) = false:=J111
 have e16:(s.toList == [76,69,70,84]) = true:=J111
 clear hs hl
 cases r with
 | ok r =>
   have C:∀ W',Ext W W'→Calls Tryz.prog 198 #[.slice p n c] W' fun e w'=>e = .returned (.agg #[.int .i64 r.k,.int .i64 r.n,.string r.s,.int .i64 r.e])∧Ext W' w':=c0
   exact K186
 | error x =>
   have C:∀ W',Ext W W'→Calls Tryz.prog 198 #[.slice p n c] W' fun e w'=>e = pan x∧Ext W' w':=c0
   exact K185
theorem xc_INDEX (s:ByteArray) (hs:s.data.toList = [73,78,68,69,88]) (l:List Bg) (a0:Bg) (h0:l[0]? = some a0) (a1:Bg) (h1:l[1]? = some a1) (p:Option Addr) (n c:Nat) (W:World) (hR:Rdy W (.slice p n c) l) :
   Calls Tryz.prog 137 #[.slice p n c,.string s] W fun e w'=>RzQ Rw.dat (xCall [73,78,68,69,88] l) e∧Ext W w':=by
 have HX:xCall [73,78,68,69,88] l = xIndex l:=rfl
 rw [HX]
 clear HX
 have c0:∀ W',Ext W W'→Calls Tryz.prog 199 #[.slice p n c] W' fun e w'=>RzQ Rw.dat (xIndex l) e∧Ext W' w':=fun W' e=>xpicked_any l a0 a1 h0 h1 p n c W' (hR.f.ext e) (hR.n.ext e)
 generalize xIndex l = r at *
 clear hR h0 h1
 have hl:s.toList = [73,78,68,69,88]:=J110
 have e0:(s.toList == [83,85,77]) = false:=J111
 have e1:(s.toList == [67,79,85,78,84]) = false:=J111
 have e2:(s.toList == [77,73,78]) = false:=J111
 have e3:(s.toList == [77,65,88]) = false:=J111
 have e4:(s.toList == [65,86,69,82,65,71,69]) = false:=J111
 have e5:(s.toList == [65,78,68]) = false:=J111
 have e6:(s.toList == [79,82]) = false:=J111
 have e7:(s.toList == [67,79,78,67,65,84]) = false:=J111
 have e8:(s.toList == [73,70]) = false:=J111
 have e9:(s.toList == [78,79,84]) = false:=J111
 have e10:(s.toList == [65,66,83]) = false:=J111
 have e11:(s.toList == [82,79,85,78,68]) = false:=J111
 have e12:(s.toList == [77,79,68]) = false:=J111
 have e13:(s.toList == [70,76,79,79,82]) = false:=J111
 have e14:(s.toList == [83,81,82,84]) = false:=J111
 have e15:(s.toList == [76,69,78]) = false:=J111
 have e16:(s.toList == [76,69,70,84]) = false:=J111
 have e17:(s.toList == [73,78,68,69,88]) = true:=J111
 clear hs hl
 cases r with
 | ok r =>
   have C:∀ W',Ext W W'→Calls Tryz.prog 199 #[.slice p n c] W' fun e w'=>e = .returned (.agg #[.int .i64 r.k,.int .i64 r.n,.string r.s,.int .i64 r.e])∧Ext W' w':=c0
   exact K186
 | error x =>
   have C:∀ W',Ext W W'→Calls Tryz.prog 199 #[.slice p n c] W' fun e w'=>e = pan x∧Ext W' w':=c0
   exact K185
theorem xc_ISERROR (s:ByteArray) (hs:s.data.toList = [73,83,69,82,82,79,82]) (l:List Bg) (a0:Bg) (h0:l[0]? = some a0) (p:Option Addr) (n c:Nat) (W:World) (hR:Rdy W (.slice p n c) l) :
   Calls Tryz.prog 137 #[.slice p n c,.string s] W fun e w'=>RzQ Rw.dat (xCall [73,83,69,82,82,79,82] l) e∧Ext W w':=by
 have HX:xCall [73,83,69,82,82,79,82] l = .ok (V.tf ((sgl a0).k == 4)).rw:=by show xIsErr l = _;unfold xIsErr;rw [sg_of h0]
 rw [HX]
 clear HX
 have c0:=xsingle_at hR.f hR.n h0
 have hf:=fld_k
 generalize sgl a0 = v at *
 cases hk:(v.k == 4) with
 | true =>
   have c1:∀ W',Ext W W'→Calls Tryz.prog 67 #[.bool true] W' fun r w'=>r = .returned (.agg #[.int .i64 1,.int .i64 1,.string ⟨#[]⟩,.int .i64 0])∧Ext W' w':=fun W' e=>bool_at (W:=W) true W' e
   exact K180
 | false =>
   have c1:∀ W',Ext W W'→Calls Tryz.prog 67 #[.bool false] W' fun r w'=>r = .returned (.agg #[.int .i64 1,.int .i64 0,.string ⟨#[]⟩,.int .i64 0])∧Ext W' w':=fun W' e=>bool_at (W:=W) false W' e
   exact K180
theorem xc_IFERROR (s:ByteArray) (hs:s.data.toList = [73,70,69,82,82,79,82]) (l:List Bg) (a0:Bg) (h0:l[0]? = some a0) (a1:Bg) (h1:l[1]? = some a1) (p:Option Addr) (n c:Nat) (W:World) (hR:Rdy W (.slice p n c) l) :
   Calls Tryz.prog 137 #[.slice p n c,.string s] W fun e w'=>RzQ Rw.dat (xCall [73,70,69,82,82,79,82] l) e∧Ext W w':=by
 have HX:xCall [73,70,69,82,82,79,82] l = xIfErr l:=rfl
 rw [HX]
 clear HX
 have c0:∀ W',Ext W W'→Calls Tryz.prog 201 #[.slice p n c] W' fun e w'=>RzQ Rw.dat (xIfErr l) e∧Ext W' w':=fun W' e=>xsound_any l a0 a1 h0 h1 p n c W' (hR.f.ext e) (hR.n.ext e)
 generalize xIfErr l = r at *
 clear hR h0 h1
 have hl:s.toList = [73,70,69,82,82,79,82]:=J110
 have e0:(s.toList == [83,85,77]) = false:=J111
 have e1:(s.toList == [67,79,85,78,84]) = false:=J111
 have e2:(s.toList == [77,73,78]) = false:=J111
 have e3:(s.toList == [77,65,88]) = false:=J111
 have e4:(s.toList == [65,86,69,82,65,71,69]) = false:=J111
 have e5:(s.toList == [65,78,68]) = false:=J111
 have e6:(s.toList == [79,82]) = false:=J111
 have e7:(s.toList == [67,79,78,67,65,84]) = false:=J111
 have e8:(s.toList == [73,70]) = false:=J111
 have e9:(s.toList == [78,79,84]) = false:=J111
 have e10:(s.toList == [65,66,83]) = false:=J111
 have e11:(s.toList == [82,79,85,78,68]) = false:=J111
 have e12:(s.toList == [77,79,68]) = false:=J111
 have e13:(s.toList == [70,76,79,79,82]) = false:=J111
 have e14:(s.toList == [83,81,82,84]) = false:=J111
 have e15:(s.toList == [76,69,78]) = false:=J111
 have e16:(s.toList == [76,69,70,84]) = false:=J111
 have e17:(s.toList == [73,78,68,69,88]) = false:=J111
 have e18:(s.toList == [73,83,69,82,82,79,82]) = false:=J111
 have e19:(s.toList == [73,70,69,82,82,79,82]) = true:=J111
 clear hs hl
 cases r with
 | ok r =>
   have C:∀ W',Ext W W'→Calls Tryz.prog 201 #[.slice p n c] W' fun e w'=>e = .returned (.agg #[.int .i64 r.k,.int .i64 r.n,.string r.s,.int .i64 r.e])∧Ext W' w':=c0
   exact K186
 | error x =>
   have C:∀ W',Ext W W'→Calls Tryz.prog 201 #[.slice p n c] W' fun e w'=>e = pan x∧Ext W' w':=c0
   exact K185
theorem xcatch_idle (p:Addr) (w:World) :
   CallsD Tryz.prog 136 #[.pointer (some p)] .returning w fun e u' w'=>e = .returned (.tuple #[])∧u' = .returning∧w' = w:=by
 refine callsD_of_wpS func136 rfl fun c₀ cs hu=>?_
 apply wpS_seq
 apply wpS_region
 simp [wpOpsS,go_sem,recoverD,hu,ntmps136,Exit.thenS]
 refine wpS_of_wp ?_
 simp only [Array.replicate_succ,Array.replicate_zero,List.push_toArray,List.append_toArray,List.nil_append,List.cons_append,List.setIfInBounds_toArray,List.set_cons_zero,List.set_cons_succ]
 go_wp2
 cases c₀
 simp_all [bodyPostS,results,results136]
theorem xassert (x:Int) (W:World):(Instr.typeAssert (.iface 162 (.int .i64 x)) 20 162 false).run Tryz.prog W = .ok (.int .i64 x) W:=J3
theorem xcatch_fault (b:Nat) (x:Int) (w0 w:World) (hE:Ext w0 w) (hb:w0.heap.size≤b) (B:Blk w b (.int .i64 0) (.int .i64 0) (.string ⟨#[]⟩) (.int .i64 0)) (hN:Nm w) :
   CallsD Tryz.prog 136 #[.pointer (some ⟨b,0,none⟩)] (.panicking [{ v:=.iface 162 (.int .i64 x),recovered:=false }]) w fun e u' w'=>e = .returned (.tuple #[])∧u' = .panicking [{ v:=.iface 162 (.int .i64 x),recovered:=true }]∧Ext w0 w'∧Blk w' b (.int .i64 (mkErr x).k) (.int .i64 (mkErr x).n) (.string (mkErr x).s) (.int .i64 (mkErr x).e):=by
 have HE:Hid (Ext w0 w∧w0.heap.size≤b∧Nm w∧Blk w b (.int .i64 0) (.int .i64 0) (.string ⟨#[]⟩) (.int .i64 0)):=⟨hE,hb,hN,B⟩
 have c0:=fun W h=>err_any x W h
 rw [dat_eq] at c0
 generalize mkErr x = v at *
 clear hE hb hN B
 have hta:=xassert x
 refine callsD_of_wpS func136 rfl fun c₀ cs hu=>?_
 apply wpS_seq
 apply wpS_region
 simp [wpOpsS,go_sem,recoverD,hu,ntmps136,Exit.thenS]
 refine wpS_of_wp ?_
 simp only [Array.replicate_succ,Array.replicate_zero,List.push_toArray,List.append_toArray,List.nil_append,List.cons_append,List.setIfInBounds_toArray,List.set_cons_zero,List.set_cons_succ]
 go_wp2_with fail
 refine (c0 _ HE.out.2.2.1).mono ?_
 rintro e w1 ⟨rfl,E1⟩
 have HB:Hid (Blk w1 b (.int .i64 0) (.int .i64 0) (.string ⟨#[]⟩) (.int .i64 0)∧Ext w0 w1):=⟨HE.out.2.2.2.ext E1,HE.out.1.trans E1⟩
 clear E1
 obtain ⟨z,⟨b0,b1,b2,b3⟩,f0,f1,f2,f3⟩:=HB.out.1
 go_wp2_with fail
 exact ⟨rfl,_,rfl,.tuple #[],results_none rfl _ _ _,rfl,rfl,(((HB.out.2.setCell HE.out.2.1 _).setCell HE.out.2.1 _).setCell HE.out.2.1 _).setCell HE.out.2.1 _,HB.out.1.set _ _ _ _⟩
def ansW:R Rw→Rw
 | .ok r=>r
 | .error x=>(mkErr x).rw
theorem xanswer_any (s:ByteArray) (p:Option Addr) (n c:Nat) (W:World) (hN:Nm W) (r:R Rw)
   (hC:∀ W',Ext W W'→Calls Tryz.prog 137 #[.slice p n c,.string s] W' fun e w'=>RzQ Rw.dat r e∧Ext W' w') :
   Calls Tryz.prog 101 #[.string s,.slice p n c] W fun e w'=>e = .returned (ansW r).dat∧Ext W w':=by
 have hmf:∀ (fn:Fn) (first cap:Array Value) (w:World),(Instr.makeFunc fn first cap).run Tryz.prog w = .ok (.func fn first cap) w:=fun _ _ _ _=>rfl
 have HN:Hid (Nm W):=hN
 clear hN
 cases r with
 | error x =>
   have C:∀ W',Ext W W'→Calls Tryz.prog 137 #[.slice p n c,.string s] W' fun e w'=>e = pan x∧Ext W' w':=hC
   clear hC
   go_enter_defers func101,ntmps101
   go_wp2_with fail
   refine (C _ (xr.alloc _)).mono ?_
   rintro e w1 ⟨rfl,E1⟩
   have B1:=blk_top (b:=W.heap.size) J65 E1
   have X1:Ext W w1:=(xr.alloc _).trans E1
   refine leaves_cons (f:=136) (args:=#[.pointer (some ⟨W.heap.size,0,none⟩)]) J65 J17 ?_
   refine (xcatch_fault W.heap.size x W w1 X1 nrf B1 (HN.out.ext X1)).mono ?_
   rintro e u' w2 ⟨rfl,rfl,E2,B2⟩
   obtain ⟨z,⟨d0,d1,d2,d3⟩,_⟩:=B2
   simp [Leaves,settle,results,results101,go_sem,d0,d1,d2,d3]
   exact ⟨rfl,E2⟩
 | ok q =>
   have C:∀ W',Ext W W'→Calls Tryz.prog 137 #[.slice p n c,.string s] W' fun e w'=>e = .returned (.agg #[.int .i64 q.k,.int .i64 q.n,.string q.s,.int .i64 q.e])∧Ext W' w':=hC
   clear hC
   go_enter_defers func101,ntmps101
   go_wp2_with fail
   refine (C _ (xr.alloc _)).mono ?_
   rintro e w1 ⟨rfl,E1⟩
   have B1:Hid (Blk w1 W.heap.size (.int .i64 0) (.int .i64 0) (.string ⟨#[]⟩) (.int .i64 0)∧Ext W w1):=⟨blk_top J65 E1,(xr.alloc _).trans E1⟩
   clear E1
   obtain ⟨z,⟨b0,b1,b2,b3⟩,f0,f1,f2,f3⟩:=B1.out.1
   go_wp2_with fail
   have X2:Ext W ((((w1.setCell ⟨W.heap.size,0,none⟩ (.int .i64 q.k)).setCell ⟨W.heap.size,1,none⟩ (.int .i64 q.n)).setCell ⟨W.heap.size,2,none⟩ (.string q.s)).setCell ⟨W.heap.size,3,none⟩ (.int .i64 q.e)):=(((B1.out.2.setCell nrf _).setCell nrf _).setCell nrf _).setCell nrf _
   have B2:=B1.out.1.set (.int .i64 q.k) (.int .i64 q.n) (.string q.s) (.int .i64 q.e)
   generalize (((w1.setCell ⟨W.heap.size,0,none⟩ (.int .i64 q.k)).setCell ⟨W.heap.size,1,none⟩ (.int .i64 q.n)).setCell ⟨W.heap.size,2,none⟩ (.string q.s)).setCell ⟨W.heap.size,3,none⟩ (.int .i64 q.e) = w2 at *
   refine leaves_cons (f:=136) (args:=#[.pointer (some ⟨W.heap.size,0,none⟩)]) J65 J17 ?_
   refine (xcatch_idle ⟨W.heap.size,0,none⟩ w2).mono ?_
   rintro e u' w3 ⟨rfl,rfl,rfl⟩
   obtain ⟨z',⟨d0,d1,d2,d3⟩,_⟩:=B2
   simp [Leaves,settle,results,results101,go_sem,d0,d1,d2,d3]
   exact ⟨rfl,X2⟩
theorem okN_is {q:List UInt8} {n:Nat} (h:okN q n = true):(kno q).isSome = true∧knA q≤n∧(n:Int)≤knB q:=by
 unfold okN at h
 simp at h
 exact ⟨h.1.1,h.1.2,h.2⟩
theorem at_some {l:List Bg} {i:Nat} (h:i < l.length):∃ a,l[i]? = some a:=⟨_,gEq h⟩
theorem xdisp (s:ByteArray) (q:List UInt8) (hq:s.data.toList = q) (l:List Bg) (hk:okN q l.length = true) (p:Option Addr) (n c:Nat) (W:World) (hR:Rdy W (.slice p n c) l) :
   ∀ W',Ext W W'→Calls Tryz.prog 137 #[.slice p n c,.string s] W' fun e w'=>RzQ Rw.dat (xCall q l) e∧Ext W' w':=by
 intro W' e
 have hR':=hR.ext e
 obtain ⟨k1,k2,k3⟩:=okN_is hk
 by_cases e0:q = [83,85,77]
 · subst e0
   exact xc_SUM s hq l p n c W' hR'
 by_cases e1:q = [67,79,85,78,84]
 · subst e1
   exact xc_COUNT s hq l p n c W' hR'
 by_cases e2:q = [77,73,78]
 · subst e2
   exact xc_MIN s hq l p n c W' hR'
 by_cases e3:q = [77,65,88]
 · subst e3
   exact xc_MAX s hq l p n c W' hR'
 by_cases e4:q = [65,86,69,82,65,71,69]
 · subst e4
   exact xc_AVERAGE s hq l p n c W' hR'
 by_cases e5:q = [65,78,68]
 · subst e5
   exact xc_AND s hq l p n c W' hR'
 by_cases e6:q = [79,82]
 · subst e6
   exact xc_OR s hq l p n c W' hR'
 by_cases e7:q = [67,79,78,67,65,84]
 · subst e7
   exact xc_CONCAT s hq l p n c W' hR'
 by_cases e8:q = [73,70]
 · subst e8
   have hk2:knA [73,70] = 2:=rfl
   rw [hk2] at k2
   obtain ⟨a0,h0⟩:=at_some (l:=l) (i:=0) J2
   obtain ⟨a1,h1⟩:=at_some (l:=l) (i:=1) J2
   exact xc_IF s hq l a0 h0 a1 h1 p n c W' hR'
 by_cases e9:q = [78,79,84]
 · subst e9
   have hk2:knA [78,79,84] = 1:=rfl
   rw [hk2] at k2
   obtain ⟨a0,h0⟩:=at_some (l:=l) (i:=0) J2
   exact xc_NOT s hq l a0 h0 p n c W' hR'
 by_cases e10:q = [65,66,83]
 · subst e10
   have hk2:knA [65,66,83] = 1:=rfl
   rw [hk2] at k2
   obtain ⟨a0,h0⟩:=at_some (l:=l) (i:=0) J2
   exact xc_ABS s hq l a0 h0 p n c W' hR'
 by_cases e11:q = [82,79,85,78,68]
 · subst e11
   have hk2:knA [82,79,85,78,68] = 2:=rfl
   rw [hk2] at k2
   obtain ⟨a0,h0⟩:=at_some (l:=l) (i:=0) J2
   obtain ⟨a1,h1⟩:=at_some (l:=l) (i:=1) J2
   exact xc_ROUND s hq l a0 h0 a1 h1 p n c W' hR'
 by_cases e12:q = [77,79,68]
 · subst e12
   have hk2:knA [77,79,68] = 2:=rfl
   rw [hk2] at k2
   obtain ⟨a0,h0⟩:=at_some (l:=l) (i:=0) J2
   obtain ⟨a1,h1⟩:=at_some (l:=l) (i:=1) J2
   exact xc_MOD s hq l a0 h0 a1 h1 p n c W' hR'
 by_cases e13:q = [70,76,79,79,82]
 · subst e13
   have hk2:knA [70,76,79,79,82] = 1:=rfl
   rw [hk2] at k2
   obtain ⟨a0,h0⟩:=at_some (l:=l) (i:=0) J2
   exact xc_FLOOR s hq l a0 h0 p n c W' hR'
 by_cases e14:q = [83,81,82,84]
 · subst e14
   have hk2:knA [83,81,82,84] = 1:=rfl
   rw [hk2] at k2
   obtain ⟨a0,h0⟩:=at_some (l:=l) (i:=0) J2
   exact xc_SQRT s hq l a0 h0 p n c W' hR'
 by_cases e15:q = [76,69,78]
 · subst e15
   have hk2:knA [76,69,78] = 1:=rfl
   rw [hk2] at k2
   obtain ⟨a0,h0⟩:=at_some (l:=l) (i:=0) J2
   exact xc_LEN s hq l a0 h0 p n c W' hR'
 by_cases e16:q = [76,69,70,84]
 · subst e16
   have hk2:knA [76,69,70,84] = 1:=rfl
   rw [hk2] at k2
   obtain ⟨a0,h0⟩:=at_some (l:=l) (i:=0) J2
   exact xc_LEFT s hq l a0 h0 p n c W' hR'
 by_cases e17:q = [73,78,68,69,88]
 · subst e17
   have hk2:knA [73,78,68,69,88] = 2:=rfl
   rw [hk2] at k2
   obtain ⟨a0,h0⟩:=at_some (l:=l) (i:=0) J2
   obtain ⟨a1,h1⟩:=at_some (l:=l) (i:=1) J2
   exact xc_INDEX s hq l a0 h0 a1 h1 p n c W' hR'
 by_cases e18:q = [73,83,69,82,82,79,82]
 · subst e18
   have hk2:knA [73,83,69,82,82,79,82] = 1:=rfl
   rw [hk2] at k2
   obtain ⟨a0,h0⟩:=at_some (l:=l) (i:=0) J2
   exact xc_ISERROR s hq l a0 h0 p n c W' hR'
 by_cases e19:q = [73,70,69,82,82,79,82]
 · subst e19
   have hk2:knA [73,70,69,82,82,79,82] = 2:=rfl
   rw [hk2] at k2
   obtain ⟨a0,h0⟩:=at_some (l:=l) (i:=0) J2
   obtain ⟨a1,h1⟩:=at_some (l:=l) (i:=1) J2
   exact xc_IFERROR s hq l a0 h0 a1 h1 p n c W' hR'
 exact absurd k1 (by simp [kno,kn1,kn2,kn3,kn4,kn5,e0,e1,e2,e3,e4,e5,e6,e7,e8,e9,e10,e11,e12,e13,e14,e15,e16,e17,e18,e19])
theorem ansW_v (r:R Rw):nm (ansW r).k (ansW r).n (ansW r).s (ansW r).e = ansV r:=by
 cases r with
 | ok q=>rfl
 | error x=>exact (nm_of (mkErr x) (mkErr_ok x)).1
theorem fnV_no {q:List UInt8} {l:List Bg} (h:okN q l.length = false):fnV q l = .err 2:=by unfold fnV;rw [h];rfl
theorem fnV_ok {q:List UInt8} {l:List Bg} (h:okN q l.length = true):fnV q l = ansV (xCall q l):=by unfold fnV;rw [h];rfl
theorem xcall_any (s:ByteArray) (l:List Bg) (p:Option Addr) (n c:Nat) (W:World) (hR:Rdy W (.slice p n c) l) :
   Calls Tryz.prog 70 #[.string s,.slice p n c] W fun e w'=>e = .returned (fnV s.data.toList l).dat∧Ext W w':=by
 have c0:=fun W=>known_any s W
 have cE:=fun W h=>err_any 2 W h
 rw [mkErr_is ⟨by decide,by decide⟩] at cE
 simp only [V.dat] at cE
 have hn:=hR.f.rd.len
 have hz:=hR.f.z
 have nI:(n:Int)≤10000000000:=J2
 have HN:Hid (Nm W):=hR.n
 obtain ⟨q,hq⟩:∃ q,s.data.toList = q:=⟨_,rfl⟩
 rw [hq] at c0 ⊢
 cases hok:okN q l.length with
 | true =>
   obtain ⟨t1,t2,t3⟩:=okN_is hok
   have cA:∀ W',Ext W W'→Calls Tryz.prog 101 #[.string s,.slice p n c] W' fun e w'=>e = .returned (ansW (xCall q l)).dat∧Ext W' w':=fun W' e =>
     xanswer_any s p n c W' (hR.n.ext e) (xCall q l) (fun W'' e'=>xdisp s q hq l hok p n c W' (hR.ext e) W'' e')
   rw [fnV_ok hok,← ansW_v]
   generalize ansW (xCall q l) = r at *
   have cA':∀ W',Ext W W'→Calls Tryz.prog 101 #[.string s,.slice p n c] W' fun e w'=>e = .returned (.agg #[.int .i64 r.k,.int .i64 r.n,.string r.s,.int .i64 r.e])∧Ext W' w':=cA
   have cN:=fun W h=>vnormal_any r.k r.n r.s r.e W h
   rw [dat_eq] at cN ⊢
   generalize nm r.k r.n r.s r.e = v at *
   rw [t1] at c0
   have d2:¬ (n:Int) < knA q:=J2
   have d3:¬ (n:Int) > knB q:=J2
   generalize knA q = ka at *
   generalize knB q = kb at *
   clear cA cE hR hok t1 t2 t3 hq hn hz
   go_enter func70,ntmps70
   go_wp2_with fail
   refine (c0 _).mono ?_
   rintro e w1 ⟨rfl,rfl⟩
   go_wp2_with fail
   refine (cA' _ (xr.alloc _)).mono ?_
   rintro e w2 ⟨rfl,E2⟩
   have B2:Hid (Blk w2 W.heap.size (.int .i64 0) (.int .i64 0) (.string ⟨#[]⟩) (.int .i64 0)∧Ext W w2):=⟨blk_top J65 E2,(xr.alloc _).trans E2⟩
   clear E2
   go_wp2_with fail
   refine (cN _ (HN.out.ext B2.out.2)).mono ?_
   rintro e w3 ⟨rfl,E3⟩
   have B3:Hid (Blk w3 W.heap.size (.int .i64 0) (.int .i64 0) (.string ⟨#[]⟩) (.int .i64 0)∧Ext W w3):=⟨B2.out.1.ext E3,B2.out.2.trans E3⟩
   clear E3
   obtain ⟨z,⟨b0,b1,b2,b3⟩,f0,f1,f2,f3⟩:=B3.out.1
   go_wp2_with fail
   exact fin4 b0 b1 b2 b3 rfl J65 B3.out.2 (fun W g0 g1 g2 g3=>by simp [results,results70,go_sem,g0,g1,g2,g3]) (fun W h=>⟨rfl,h⟩)
 | false =>
   rw [fnV_no hok]
   have hbad:(kno q).isSome = false∨((kno q).isSome = true∧(n:Int) < knA q)∨((kno q).isSome = true∧¬ (n:Int) < knA q∧(n:Int) > knB q):=by
     cases h1:(kno q).isSome
     · exact .inl rfl
     · unfold okN at hok
       rw [h1] at hok
       simp at hok
       by_cases h2:(n:Int) < knA q
       · exact .inr (.inl ⟨rfl,h2⟩)
       · have:=hok J2
         exact .inr (.inr ⟨rfl,h2,by omega⟩)
   generalize knA q = ka at *
   generalize knB q = kb at *
   generalize (kno q).isSome = kb0 at *
   clear hR hok hq hn hz
   rcases hbad with rfl | ⟨rfl,d2⟩ | ⟨rfl,d2,d3⟩
   all_goals
     go_enter func70,ntmps70
     go_wp2_with fail
     refine (c0 _).mono ?_
     rintro e w1 ⟨rfl,rfl⟩
     go_wp2_with fail
     refine (cE _ (HN.out.ext (xr.alloc _))).mono ?_
     rintro e w2 ⟨rfl,E2⟩
     have B2:Hid (Blk w2 W.heap.size (.int .i64 0) (.int .i64 0) (.string ⟨#[]⟩) (.int .i64 0)∧Ext W w2):=⟨blk_top J65 E2,(xr.alloc _).trans E2⟩
     clear E2
     obtain ⟨z,⟨b0,b1,b2,b3⟩,f0,f1,f2,f3⟩:=B2.out.1
     go_wp2_with fail
     exact fin4 b0 b1 b2 b3 rfl J65 B2.out.2 (fun W g0 g1 g2 g3=>by simp [results,results70,go_sem,g0,g1,g2,g3]) (fun W h=>⟨rfl,h⟩)
structure Elt (TS T:TypeId) (k bytes:Nat):Prop where
 u:Tryz.prog.underlying TS = some (.slice T)
 i:∃ i z,Tryz.prog.info? T = some i∧i.zero = some z∧i.size = k∧i.bytes = bytes∧z.cells.size = k
 k0:0 < k
theorem ownsRow_ext {w w':World} {base:Nat} {T:TypeId} {k n:Nat} {v:Value} {xs:List Value} (h:w.ownsRow base T k v n xs) (e:Ext w w'):w'.ownsRow base T k v n xs:=by
 refine ⟨h.1,?_⟩
 rcases h.2 with h | ⟨g,cap,cur,h1,h2,h3,h4⟩
 · exact .inl h
 · exact .inr ⟨g,cap,cur,h1,h2,(e.block g (Array.getElem?_eq_some_iff.1 h3).1).trans h3,h4⟩
theorem ext_grownG {w W W':World} {base:Nat} {T:TypeId} {k n:Nat} {v:Value} {xs:List Value} (hB:W.ownsRow base T k v n xs) (hb:w.heap.size≤base) (hE:Ext w W) (hg:W.grownBy W' v.ownBlock):Ext w W':=by
 refine ⟨hg.os.trans hE.os,hg.tape.trans hE.tape,hg.output.trans hE.output,Nat.le_trans hE.size hg.size,fun q hq=>?_⟩
 refine (hg.block q (llL hq hE.size) ?_).trans (hE.block q hq)
 intro e
 have:=(hB.lt q e.symm).1
 omega
def RowC (W:World) (v:Value) (m:Nat) (k:Nat) (news:List Value):Prop:=news.length = m * k∧∃ p c,v = .slice p m c∧((p = none∧m = 0)∨∃ ad,p = some ad∧∀ j u,news[j]? = some u→W.cell? (ad.add j) = some u)
theorem run_append_noneG {TS T:TypeId} {k bytes:Nat} (hT:Elt TS T k bytes) (w:World) (ty:TypeId) (p:Option Addr) (n cap c:Nat) (h:n≤cap) :
   (Builtin.append_ #[TS,TS] ty #[.slice p n cap,.slice none 0 c]).run Tryz.prog w = .ok (.slice p n cap) w:=by
 obtain ⟨i,z,hi,hz,h1,h2,h3⟩:=hT.i
 cases p with
 | none=>simp [Builtin.append_,run_underlying hT.u,sizeOf,typeInfo,hi,Builtin.lenOf,Builtin.firstCells,h]
 | some a=>simp [Builtin.append_,run_underlying hT.u,sizeOf,typeInfo,hi,Builtin.lenOf,Builtin.firstCells,loadCells,h,storeCells]
theorem own_app {TS T:TypeId} {k bytes:Nat} (hT:Elt TS T k bytes) {ops:Array Oper} {rest:List Oper} {o:Oper} {a:Act} {Q:Exit→Act→World→Prop} (W w:World) (s x:Operand) (v va:Value) (n m:Nat) (xs news:List Value) (base:Nat) (hgd:o.guard = none)
   (ho:o.op = .call { callee:=.builtin .append,args:=#[s,x],argTypes:=#[TS,TS] })
   (hs:a.eval s = v) (hx:a.eval x = va) (hB:W.ownsRow base T k v n xs) (hR:RowC W va m k news) (h1c:∀ u ∈ news,u.oneCell' = true) (hm:n+m≤maxLen) (hby:(n+m) * bytes≤140737488355328) (hE:Ext w W) (hb:w.heap.size≤base) (hb2:base≤W.heap.size)
   (h:∀ v' W',W'.ownsRow base T k v' (n+m) (xs ++ news)→Ext w W'→W.grownBy W' v.ownBlock→wpList Tryz.prog ops Q rest (a.put o.dst v') W'):wpList Tryz.prog ops Q (o :: rest) a W:=by
 obtain ⟨hl,p,c,rfl,hR⟩:=hR
 obtain ⟨i,z,hi,hz,h1,h2,h3⟩:=hT.i
 rcases hR with ⟨rfl,rfl⟩ | ⟨ad,rfl,hR⟩
 · have hn:news = []:=List.eq_nil_of_length_eq_zero J50
   subst hn
   obtain ⟨p,cap,rfl,hc⟩:∃ p cap,v = .slice p n cap∧n≤cap:=by
     rcases hB.2 with ⟨h,h0⟩ | ⟨g,cap,cur,h,_,_,h4,_⟩
     · exact ⟨none,0,by rw [h,h0],by omega⟩
     · exact ⟨_,_,h,h4⟩
   refine Lib.wpList_append_run W hgd s x _ _ ho _ _ hs hx _ _ (run_append_noneG hT W o.type p n cap c hc) ?_
   exact h _ W (by simpa using hB) hE ⟨rfl,rfl,rfl,Nat.le_refl _,fun _ _ _=>rfl⟩
 · refine wpList_append_own_at W hgd s x TS ho base T i z k bytes hT.u hi hz h1 h2 h3 hT.k0 v n xs hs hB ad m c news hx hl hR h1c hm hby hb2 ?_
   intro v' W' h3 h4 _ _
   exact h v' W' h3 (ext_grownG hB hb hE h4) h4
theorem own_form {W:World} {base:Nat} {T:TypeId} {k n:Nat} {v:Value} {xs:List Value} (h:W.ownsRow base T k v n xs):∃ p c,v = .slice p n c∧n≤c:=by
 rcases h.2 with ⟨h,h0⟩ | ⟨g,cap,cur,h,_,_,h4,_⟩
 · exact ⟨none,0,by rw [h,h0],by omega⟩
 · exact ⟨_,_,h,h4⟩
theorem own_new {T:TypeId} {k:Nat} (w W:World) (h:w.heap.size≤W.heap.size):(W.alloc (.cells #[] T)).ownsRow w.heap.size T k (.slice (some ⟨W.heap.size,0,none⟩) 0 0) 0 [] :=
 ⟨by simp,.inr ⟨W.heap.size,0,#[],rfl,h,by show (W.heap.push _)[W.heap.size]? = _;rw [Array.getElem?_push_size],Nat.le_refl _,by simp,by simp,by simp⟩⟩
open Go.ChangeShapes Go.WideShapes Go.RowKit
open Go.Joins (trod_struct4)
open Go.Deep (choose_lt)
theorem qc_value:Tryz.prog.cellsOf 33 = 4:=J3
theorem qc_int:Tryz.prog.cellsOf 3 = 1:=J3
theorem qc_int64:Tryz.prog.cellsOf 2 = 1:=J3
theorem qc_string:Tryz.prog.cellsOf 9 = 1:=J3
section
variable {H:Type} {enc:TypeId × Value→H} {w:World} {base:Nat} {sp:Nat→Bool} {hd:Bool}
instance : Inhabited Rw := ⟨⟨0, 0, ⟨#[]⟩, 0⟩⟩
instance : Inhabited Ag := ⟨⟨false, []⟩⟩
theorem open_val {fuel:Nat} {cs:List Value} {x:DataW H × List MemPlace} (hl:cs.length = 4) (h:DataW.trod enc Tryz.prog w base sp hd fuel 33 cs = some x) :
   ∃ r:Rw,cs = [.int .i64 r.k,.int .i64 r.n,.string r.s,.int .i64 r.e]∧I64 r.n:=by
 match cs,hl with
 | [c0,c1,c2,c3],_ =>
   obtain ⟨y0,y1,y2,y3,n,_,_,h0,h1,h2,h3⟩:=trod_struct4 Tryz.underlying33 h
   simp [qc_int,qc_int64,qc_string] at h0 h1 h2 h3
   obtain ⟨a0,e0,_,w0⟩:=DataW.trod_int Tryz.underlying3 h0
   obtain ⟨a1,e1,_,w1⟩:=DataW.trod_int Tryz.underlying2 h1
   obtain ⟨a2,e2,_,w2⟩:=DataW.trod_string Tryz.underlying9 h2
   obtain ⟨a3,e3,_,w3⟩:=DataW.trod_int Tryz.underlying3 h3
   simp only [List.cons.injEq,and_true] at e0 e1 e2 e3
   exact ⟨⟨a0,a1,a2,a3⟩,by rw [e0,e1,e2,e3],i64_of_wf w1⟩
end
open Go.RowKit
theorem fm_len {α:Type} (c:α→List Value) (k:Nat) (hc:∀ x,(c x).length = k) (l:List α):(l.flatMap c).length = l.length * k:=by
 induction l with
 | nil=>simp
 | cons x l ih=>rw [List.flatMap_cons,List.length_append,hc,ih,List.length_cons,Nat.succ_mul];omega
theorem fm_at {α:Type} (c:α→List Value) (k:Nat) (hc:∀ x,(c x).length = k):∀ (l:List α) (i:Nat) (x:α) (j:Nat),l[i]? = some x→j < k→(l.flatMap c)[i * k+j]? = (c x)[j]?
 | [],i,x,j,h,_=>by simp at h
 | y :: l,0,x,j,h,hj=>by
   simp at h;subst h
   rw [List.flatMap_cons,Nat.zero_mul,Nat.zero_add,List.getElem?_append_left (by rw [hc];exact hj)]
 | y :: l,i+1,x,j,h,hj=>by
   have ih:=fm_at c k hc l i x j J61 hj
   rw [List.flatMap_cons,List.getElem?_append_right (by rw [hc,Nat.succ_mul];omega),hc,← ih]
   congr 1
   rw [Nat.succ_mul];omega
theorem fm_get {α:Type} (c:α→List Value) (k:Nat) (hc:∀ x,(c x).length = k) (hk:0 < k) (l:List α) (j:Nat) (u:Value) (h:(l.flatMap c)[j]? = some u):∃ x,l[j / k]? = some x∧(c x)[j % k]? = some u:=by
 have hj:j < l.length * k:=by rw [← fm_len c k hc];exact (List.getElem?_eq_some_iff.1 h).1
 have hi:j / k < l.length:=by rw [Nat.div_lt_iff_lt_mul hk];exact hj
 refine ⟨l[j / k],gEq hi,?_⟩
 rw [← fm_at c k hc l (j / k) _ (j % k) (gEq hi) (Nat.mod_lt _ hk),Nat.mul_comm,Nat.div_add_mod]
 exact h
def cV (r:Rw):List Value:=[.int .i64 r.k,.int .i64 r.n,.string r.s,.int .i64 r.e]
def cA (q:Ag × Int × Int × Value):List Value:=[.bool q.1.area,.int .i64 q.2.1,.int .i64 q.2.2.1,q.2.2.2]
theorem cV_len (r:Rw):(cV r).length = 4:=rfl
theorem eltV:Elt 111 33 4 40:=by
 refine ⟨Tryz.underlying111,?_,by decide⟩
 have h1:(Tryz.prog.info? 33).isSome = true:=J3
 have h2:(Tryz.prog.info? 33).bind (fun i=>i.zero) = some (.agg #[.int .i64 0,.int .i64 0,.string ⟨#[]⟩,.int .i64 0]):=J3
 have h3:(Tryz.prog.info? 33).map (fun i=>(i.size,i.bytes)) = some (4,40):=J3
 cases h:Tryz.prog.info? 33 with
 | none=>rw [h] at h1;cases h1
 | some i =>
   exact K132
theorem eltA:Elt 107 113 4 48:=by
 refine ⟨Tryz.underlying107,?_,by decide⟩
 have h1:(Tryz.prog.info? 113).isSome = true:=J3
 have h2:(Tryz.prog.info? 113).bind (fun i=>i.zero) = some (.agg #[.bool false,.int .i64 0,.int .i64 0,.slice none 0 0]):=J3
 have h3:(Tryz.prog.info? 113).map (fun i=>(i.size,i.bytes)) = some (4,48):=J3
 cases h:Tryz.prog.info? 113 with
 | none=>rw [h] at h1;cases h1
 | some i =>
   exact K132
theorem RdV.row {B:Nat} {W:World} {v:Value} {l:List Rw} (h:RdV B W v l):RowC W v l.length 4 (l.flatMap cV):=by
 obtain ⟨p,c,h1,h2,h3⟩:=h
 refine ⟨fm_len cV 4 cV_len l,p,c,h1,?_⟩
 rcases h3 with rfl | ⟨b,off,rfl,_,_,h6⟩
 · exact K147
 · refine .inr ⟨_,rfl,fun j u hu=>?_⟩
   obtain ⟨r,hr,hu⟩:=fm_get cV 4 cV_len J9 l j u hu
   obtain ⟨k0,k1,k2,k3⟩:=h6 _ r hr
   rw [Addr.add_lit]
   have hj:=Nat.div_add_mod j 4
   have hm:=Nat.mod_lt j (show 0 < 4 by decide)
   match hmm:j % 4,hu with
   | 0,hu=>simp [cV] at hu;subst hu;rw [show off+j = off+j / 4 * 4 by omega];exact k0
   | 1,hu=>simp [cV] at hu;subst hu;rw [show off+j = off+j / 4 * 4+1 by omega];exact k1
   | 2,hu=>simp [cV] at hu;subst hu;rw [show off+j = off+j / 4 * 4+2 by omega];exact k2
   | 3,hu=>simp [cV] at hu;subst hu;rw [show off+j = off+j / 4 * 4+3 by omega];exact k3
   | q+4,_=>omega
theorem own_rdV {W:World} {base:Nat} {v:Value} {l:List Rw} (h:W.ownsRow base 33 4 v l.length (l.flatMap cV)):RdV W.heap.size W v l:=by
 rcases h.2 with ⟨rfl,h0⟩ | ⟨g,cap,cur,rfl,h2,h3,h4,h5⟩
 · exact K153
 · have hg:g < W.heap.size:=(Array.getElem?_eq_some_iff.1 h3).1
   refine ⟨_,cap,rfl,h4,.inr ⟨g,0,rfl,hg,hg,fun i r hr=>?_⟩⟩
   have k:=fun j (hj:j < 4) u (hu:(cV r)[j]? = some u)=>h.cells (g:=g) rfl (i * 4+j) u (by rw [fm_at cV 4 cV_len l i r j hr hj];exact hu)
   simp only [Addr.add_lit] at k
   exact ⟨k 0 J9 _ rfl,k 1 J9 _ rfl,k 2 J9 _ rfl,k 3 J9 _ rfl⟩
theorem rtobool_any (k n:Int) (s:ByteArray) (e:Int) (w:World) (hn:I64 n) :
   Calls Tryz.prog 25 #[.agg #[.int .i64 k,.int .i64 n,.string s,.int .i64 e]] w fun r w'=>r = .returned ((nm k n s e).toBool.dat)∧Ext w w':=by
 have c0:=fun W=>rnormal_any k n s e W
 have ok:=nm_ok k n s e hn
 clear hn
 generalize nm k n s e = v at c0 ok ⊢
 cases v with
 | blank =>
   simp only [V.dat] at c0
   have c1:=fun W=>rbool_any false W
   simp only [V.dat,Bool.false_eq_true,if_false] at c1
   clear ok
   go_enter func25,ntmps25
   go_wp2_with fail
   refine (c0 _).mono ?_
   rintro r w1 ⟨rfl,E1⟩
   have X1:Ext w w1:=Ext.trans J0 E1
   have B0_1:=blk_top (b:=w.heap.size) J65 ((xr.alloc _).trans E1)
   have B1_1:=blk_top (b:=w.heap.size+1) J65 E1
   have D0:=B0_1
   obtain ⟨b0z,⟨b0_0,b0_1,b0_2,b0_3⟩,b0f0,b0f1,b0f2,b0f3⟩:=D0
   have D1:=B1_1
   obtain ⟨b1z,⟨b1_0,b1_1,b1_2,b1_3⟩,b1f0,b1f1,b1f2,b1f3⟩:=D1
   go_wp2_with fail
   refine (c1 _).mono ?_
   rintro r w2 ⟨rfl,E2⟩
   have X2:Ext w w2:=Ext.trans J0 E2
   have B1_2:=(B1_1.far (c:=w.heap.size) J65 _ _ _ _).ext E2
   have D1:=B1_2
   obtain ⟨b1z,⟨b1_0,b1_1,b1_2,b1_3⟩,b1f0,b1f1,b1f2,b1f3⟩:=D1
   go_wp2_with fail
   exact finB (B1_2.set _ _ _ _) rfl J0 J25 (fun h=>⟨rfl,h⟩)
 | tf b =>
   simp only [V.dat] at c0
   clear ok
   have H:Hid ((V.tf b).toBool.dat = .agg #[.int .i64 1,.int .i64 (if b = true then 1 else 0),.string ⟨#[]⟩,.int .i64 0]):=rfl
   generalize (if b = true then (1:Int) else 0) = m at *
   go_enter func25,ntmps25
   go_wp2_with fail
   refine (c0 _).mono ?_
   rintro r w1 ⟨rfl,E1⟩
   have X1:Ext w w1:=Ext.trans J0 E1
   have B0_1:=blk_top (b:=w.heap.size) J65 ((xr.alloc _).trans E1)
   have B1_1:=blk_top (b:=w.heap.size+1) J65 E1
   have D0:=B0_1
   obtain ⟨b0z,⟨b0_0,b0_1,b0_2,b0_3⟩,b0f0,b0f1,b0f2,b0f3⟩:=D0
   have D1:=B1_1
   obtain ⟨b1z,⟨b1_0,b1_1,b1_2,b1_3⟩,b1f0,b1f1,b1f2,b1f3⟩:=D1
   go_wp2_with fail
   exact finB ((B1_1.far (c:=w.heap.size) J65 _ _ _ _).set _ _ _ _) rfl J0 J25 (fun h=>⟨by rw [H.out],h⟩)
 | num n =>
   simp only [V.dat] at c0
   obtain ⟨q0,q1,q2,q3,hq⟩:=dat4 (V.tf (n != 0))
   have c1:=fun W=>rbool_any (n != 0) W
   rw [hq] at c1
   have H:Hid ((V.num n).toBool.dat = .agg #[.int .i64 q0,.int .i64 q1,.string q2,.int .i64 q3]):=hq
   clear hq ok
   go_enter func25,ntmps25
   go_wp2_with fail
   refine (c0 _).mono ?_
   rintro r w1 ⟨rfl,E1⟩
   have X1:Ext w w1:=Ext.trans J0 E1
   have B0_1:=blk_top (b:=w.heap.size) J65 ((xr.alloc _).trans E1)
   have B1_1:=blk_top (b:=w.heap.size+1) J65 E1
   have D0:=B0_1
   obtain ⟨b0z,⟨b0_0,b0_1,b0_2,b0_3⟩,b0f0,b0f1,b0f2,b0f3⟩:=D0
   have D1:=B1_1
   obtain ⟨b1z,⟨b1_0,b1_1,b1_2,b1_3⟩,b1f0,b1f1,b1f2,b1f3⟩:=D1
   go_wp2_with fail
   refine (c1 _).mono ?_
   rintro r w2 ⟨rfl,E2⟩
   have X2:Ext w w2:=Ext.trans J0 E2
   have B1_2:=(B1_1.far (c:=w.heap.size) J65 _ _ _ _).ext E2
   have D1:=B1_2
   obtain ⟨b1z,⟨b1_0,b1_1,b1_2,b1_3⟩,b1f0,b1f1,b1f2,b1f3⟩:=D1
   go_wp2_with fail
   exact finB (B1_2.set _ _ _ _) rfl J0 J25 (fun h=>⟨by rw [H.out],h⟩)
 | text s =>
   simp only [V.dat] at c0
   by_cases h:s.data.toList = trueL
   · have H:Hid ((V.text s).toBool = .tf true):=by show _ = _;unfold V.toBool;exact if_pos h
     have h1:(s.toList != [84,82,85,69]) = false:=J99
     have h2:(s.toList == [84,82,85,69]) = true:=J99
     have c1:=fun W=>rbool_any true W
     simp only [V.dat,if_true] at c1
     clear ok h
     exact K35
   · by_cases g:s.data.toList = falseL
     · have H:Hid ((V.text s).toBool = .tf false):=by show _ = _;unfold V.toBool;exact (if_neg h).trans (if_pos g)
       have h1:(s.toList != [84,82,85,69]) = true:=J100
       have h2:(s.toList == [84,82,85,69]) = false:=J100
       have h3:(s.toList != [70,65,76,83,69]) = false:=J101
       have h4:(s.toList == [70,65,76,83,69]) = true:=J101
       have c1:=fun W=>rbool_any false W
       simp only [V.dat,Bool.false_eq_true,if_false] at c1
       clear ok h g
       exact K35
     · have H:Hid ((V.text s).toBool = .err 2):=by show _ = _;unfold V.toBool;exact (if_neg h).trans (if_neg g)
       have h1:(s.toList != [84,82,85,69]) = true:=J100
       have h2:(s.toList == [84,82,85,69]) = false:=J100
       have h3:(s.toList != [70,65,76,83,69]) = true:=J102
       have h4:(s.toList == [70,65,76,83,69]) = false:=J102
       have c2:=fun W=>rerr_any 2 W
       rw [mkErr_is ⟨by decide,by decide⟩] at c2
       simp only [V.dat] at c2
       clear ok h g
       go_enter func25,ntmps25
       go_wp2_with fail
       refine (c0 _).mono ?_
       rintro r w1 ⟨rfl,E1⟩
       have X1:Ext w w1:=Ext.trans J0 E1
       have B0_1:=blk_top (b:=w.heap.size) J65 ((xr.alloc _).trans E1)
       have B1_1:=blk_top (b:=w.heap.size+1) J65 E1
       have D0:=B0_1
       obtain ⟨b0z,⟨b0_0,b0_1,b0_2,b0_3⟩,b0f0,b0f1,b0f2,b0f3⟩:=D0
       have D1:=B1_1
       obtain ⟨b1z,⟨b1_0,b1_1,b1_2,b1_3⟩,b1f0,b1f1,b1f2,b1f3⟩:=D1
       go_wp2_with fail
       refine (c2 _).mono ?_
       rintro r w2 ⟨rfl,E2⟩
       have X2:Ext w w2:=Ext.trans J0 E2
       have B1_2:=(B1_1.far (c:=w.heap.size) J65 _ _ _ _).ext E2
       have D1:=B1_2
       obtain ⟨b1z,⟨b1_0,b1_1,b1_2,b1_3⟩,b1f0,b1f1,b1f2,b1f3⟩:=D1
       go_wp2_with fail
       exact finB (B1_2.set _ _ _ _) rfl J0 J25 (fun h=>⟨by rw [H.out];rfl,h⟩)
 | err e =>
   simp only [V.dat] at c0
   clear ok
   go_enter func25,ntmps25
   go_wp2_with fail
   refine (c0 _).mono ?_
   rintro r w1 ⟨rfl,E1⟩
   have X1:Ext w w1:=Ext.trans J0 E1
   have B0_1:=blk_top (b:=w.heap.size) J65 ((xr.alloc _).trans E1)
   have B1_1:=blk_top (b:=w.heap.size+1) J65 E1
   have D0:=B0_1
   obtain ⟨b0z,⟨b0_0,b0_1,b0_2,b0_3⟩,b0f0,b0f1,b0f2,b0f3⟩:=D0
   have D1:=B1_1
   obtain ⟨b1z,⟨b1_0,b1_1,b1_2,b1_3⟩,b1f0,b1f1,b1f2,b1f3⟩:=D1
   go_wp2_with fail
   exact finB ((B1_1.far (c:=w.heap.size) J65 _ _ _ _).set _ _ _ _) rfl J0 J25 (fun h=>⟨rfl,h⟩)
def cI (v:V):List Value:=[.int .i64 v.n]
theorem cI_len (v:V):(cI v).length = 1:=rfl
theorem own_app2 {TS T:TypeId} {k bytes:Nat} (hT:Elt TS T k bytes) {ops:Array Oper} {rest:List Oper} {o:Oper} {a:Act} {Q:Exit→Act→World→Prop} (W w:World) (s x:Operand) (v va:Value) (n m:Nat) (xs news:List Value) (base:Nat) (hgd:o.guard = none)
   (ho:o.op = .call { callee:=.builtin .append,args:=#[s,x],argTypes:=#[TS,TS] })
   (hs:a.eval s = v) (hx:a.eval x = va) (hB:W.ownsRow base T k v n xs) (hR:RowC W va m k news) (h1c:∀ u ∈ news,u.oneCell' = true) (hm:n+m≤maxLen) (hby:(n+m) * bytes≤140737488355328) (hE:Ext w W) (hb:w.heap.size≤base) (hb2:base≤W.heap.size)
   (h:∀ v' W',W'.ownsRow base T k v' (n+m) (xs ++ news)→Ext w W'→W.grownBy W' v.ownBlock→(v'.ownBlock = v.ownBlock∨v'.ownBlock = some W.heap.size)→wpList Tryz.prog ops Q rest (a.put o.dst v') W'):wpList Tryz.prog ops Q (o :: rest) a W:=by
 obtain ⟨hl,p,c,rfl,hR⟩:=hR
 obtain ⟨i,z,hi,hz,h1,h2,h3⟩:=hT.i
 rcases hR with ⟨rfl,rfl⟩ | ⟨ad,rfl,hR⟩
 · have hn:news = []:=List.eq_nil_of_length_eq_zero J50
   subst hn
   obtain ⟨p,cap,rfl,hc⟩:=own_form hB
   refine Lib.wpList_append_run W hgd s x _ _ ho _ _ hs hx _ _ (run_append_noneG hT W o.type p n cap c hc) ?_
   exact h _ W (by simpa using hB) hE ⟨rfl,rfl,rfl,Nat.le_refl _,fun _ _ _=>rfl⟩ (.inl rfl)
 · refine wpList_append_own_at W hgd s x TS ho base T i z k bytes hT.u hi hz h1 h2 h3 hT.k0 v n xs hs hB ad m c news hx hl hR h1c hm hby hb2 ?_
   intro v' W' h3 h4 _ h5
   exact h v' W' h3 (ext_grownG hB hb hE h4) h4 h5
theorem Blk.grown {W W':World} {q:Nat} {x0 x1 x2 x3:Value} {row:Option Nat} (B:Blk W q x0 x1 x2 x3) (hg:W.grownBy W' row) (hq:row≠some q):Blk W' q x0 x1 x2 x3:=by
 have e:=hg.block q B.1 (fun h=>hq h.symm)
 exact B.cells hg.size (fun o=>⟨World.cell?_of_block (w:=W) e,World.frozen?_of_block (w:=W) e⟩)
def RdO (B:Nat) (V:World) (v:Value) (l:List Rw) (i:Nat):Prop:=(∃ p c,v = .slice p l.length c)∧(RdV B V v l∨(l.length = 1∧i = 0∧RdV V.heap.size V v l)∨i = l.length)
theorem RdO.next {B i:Nat} {V V':World} {v:Value} {l:List Rw} (h:RdO B V v l i) (hi:i < l.length) (e:Below B V V'):RdO B V' v l (i+1):=by
 refine ⟨h.1,?_⟩
 rcases h.2 with h | ⟨h1,h2,_⟩ | h
 · exact .inl (h.low e)
 · exact .inr (.inr J2)
 · omega
theorem RdO.at {B i n c:Nat} {V:World} {p:Option Addr} {l:List Rw} (h:RdO B V (.slice p n c) l i) (hi:i < l.length) :
   ∃ b off r,p = some ⟨b,off,none⟩∧l[i]? = some r∧b < V.heap.size ∧
     V.cell? ⟨b,off+i * 4,none⟩ = some (.int .i64 r.k)∧V.cell? ⟨b,off+i * 4+1,none⟩ = some (.int .i64 r.n)∧V.cell? ⟨b,off+i * 4+2,none⟩ = some (.string r.s)∧V.cell? ⟨b,off+i * 4+3,none⟩ = some (.int .i64 r.e):=by
 rcases h.2 with h | ⟨_,_,h⟩ | h
 · obtain ⟨b,off,r,h1,h2,_,h3⟩:=h.at hi
   exact ⟨b,off,r,h1,h2,h3⟩
 · obtain ⟨b,off,r,h1,h2,_,h3⟩:=h.at hi
   exact ⟨b,off,r,h1,h2,h3⟩
 · omega
theorem RdO.of {B:Nat} {V:World} {p:Option Addr} {n c:Nat} {l:List Rw} (h:RdV B V (.slice p n c) l∨(l.length = 1∧RdV V.heap.size V (.slice p n c) l)):RdO B V (.slice p n c) l 0∧n = l.length:=by
 rcases h with h | ⟨h1,h⟩
 · have:=h.len;subst this;exact ⟨⟨⟨_,_,rfl⟩,.inl h⟩,rfl⟩
 · have:=h.len;subst this;exact ⟨⟨⟨_,_,rfl⟩,.inr (.inl ⟨h1,rfl,h⟩)⟩,rfl⟩
structure Nums (W:World) (s:List (V × Bool)) (ov:Value) (V':World):Prop where
 e:Ext W V'
 o:V'.ownsRow W.heap.size 2 1 ov (got numF s).length ((got numF s).flatMap cI)
 q:ov.ownBlock≠some (W.heap.size+2)
 r:ov.ownBlock≠some W.heap.size
 w:Blk V' (W.heap.size+2) (.int .i64 (bad numF s).k) (.int .i64 (bad numF s).n) (.string (bad numF s).s) (.int .i64 (bad numF s).e)
 z:Blk V' W.heap.size (.int .i64 0) (.int .i64 0) (.string ⟨#[]⟩) (.int .i64 0)
theorem Nums.ext {W:World} {s:List (V × Bool)} {ov:Value} {V1 V2:World} (h:Nums W s ov V1) (e:Ext V1 V2):Nums W s ov V2 :=
 ⟨h.e.trans e,ownsRow_ext h.o e,h.q,h.r,h.w.ext e,h.z.ext e⟩
theorem got_s (s:List (V × Bool)) (x:V × Bool):got numF (s ++ [x]) = if goes (numF x.1 x.2) then got numF s ++ [numF x.1 x.2] else got numF s:=by
 rw [got_app]
 show got numF s ++ (if goes (numF x.1 x.2) then [numF x.1 x.2] else []) = _
 split
 · rfl
 · simp
theorem bad_s (s:List (V × Bool)) (x:V × Bool):bad numF (s ++ [x]) = if (bad numF s).k = 4 then bad numF s else if (numF x.1 x.2).k = 4 then numF x.1 x.2 else .blank:=bad_app numF s [x]
theorem bad_keep (s:List (V × Bool)) (x:V × Bool) (h:(numF x.1 x.2).k≠4∨(bad numF s).k = 4):bad numF (s ++ [x]) = bad numF s:=by
 rw [bad_s]
 rcases bad_kind numF s with k | k
 · rcases h with h | h
   · rw [k,if_neg J9,if_neg h]
   · rw [if_pos h]
 · rw [if_pos k]
theorem Nums.more {W:World} {s:List (V × Bool)} {ov:Value} {V1 WA W':World} {v':Value} (h:Nums W s ov V1) (e:Ext V1 WA) (x:V × Bool) (y:V) (hy:numF x.1 x.2 = y) (hk:y.k = 2)
   (k1:W'.ownsRow W.heap.size 2 1 v' ((got numF s).length+1) ((got numF s).flatMap cI ++ [.int .i64 y.n])) (k2:Ext W W') (k3:WA.grownBy W' ov.ownBlock) (k4:v'.ownBlock = ov.ownBlock∨v'.ownBlock = some WA.heap.size):Nums W (s ++ [x]) v' W':=by
 subst hy
 have hg:got numF (s ++ [x]) = got numF s ++ [numF x.1 x.2]:=by rw [got_s,if_pos J53]
 have hb:bad numF (s ++ [x]) = bad numF s:=bad_keep s x (.inl J11)
 have hz:W.heap.size+2 < WA.heap.size:=llL h.w.1 e.size
 refine ⟨k2,?_,?_,?_,?_,?_⟩
 · rw [hg];simpa [cI] using k1
 · rcases k4 with k | k
   · rw [k];exact h.q
   · rw [k];intro q;simp at q;omega
 · rcases k4 with k | k
   · rw [k];exact h.r
   · rw [k];intro q;simp at q;omega
 · rw [hb];exact (h.w.ext e).grown k3 h.q
 · exact (h.z.ext e).grown k3 h.r
theorem Nums.same {W:World} {s:List (V × Bool)} {ov:Value} {V1 V2:World} (h:Nums W s ov V1) (e:Ext V1 V2) (x:V × Bool) (hk:(numF x.1 x.2).k = 0∨((numF x.1 x.2).k = 4∧(bad numF s).k = 4)):Nums W (s ++ [x]) ov V2:=by
 have hg:got numF (s ++ [x]) = got numF s:=by
   rw [got_s]
   rcases hk with hk | ⟨hk,_⟩
   · rw [if_neg J53]
   · rw [if_neg J53]
 have hb:bad numF (s ++ [x]) = bad numF s:=by
   rcases hk with hk | ⟨_,hk⟩
   · exact bad_keep s x (.inl J11)
   · exact bad_keep s x (.inr hk)
 obtain ⟨a,b,c,d,f,g⟩:=h.ext e
 exact ⟨a,by rw [hg];exact b,c,d,by rw [hb];exact f,g⟩
theorem own_far {X:World} {base n k b o:Nat} {T:TypeId} {ov u:Value} {xs:List Value} (hX:X.ownsRow base T k ov n xs) (c:ov.ownBlock≠some b):(X.setCell ⟨b,o,none⟩ u).ownsRow base T k ov n xs:=by
 refine ⟨hX.1,?_⟩
 rcases hX.2 with hX | ⟨gg,cap,cur,h1,h2,h3,h4⟩
 · exact .inl hX
 · refine .inr ⟨gg,cap,cur,h1,h2,?_,h4⟩
   rw [Below.heap_setCell _ _ _ _ (by intro q;apply c;rw [h1];show some gg = _;rw [show gg = b from q])]
   exact h3
theorem Nums.err {W:World} {s:List (V × Bool)} {ov:Value} {V1 V2:World} (h:Nums W s ov V1) (e:Ext V1 V2) (x:V × Bool) (y:V) (hy:numF x.1 x.2 = y) (hk:y.k = 4) (hb4:(bad numF s).k≠4):Nums W (s ++ [x]) ov (put4 V2 (W.heap.size+2) (.int .i64 y.k) (.int .i64 y.n) (.string y.s) (.int .i64 y.e)):=by
 subst hy
 have hg:got numF (s ++ [x]) = got numF s:=by rw [got_s,if_neg J53]
 have hb:bad numF (s ++ [x]) = numF x.1 x.2:=by rw [bad_s,if_neg hb4,if_pos hk]
 obtain ⟨a,b,c,d,f,g⟩:=h.ext e
 have far:∀ (X:World) (u:Value) (o:Nat),X.ownsRow W.heap.size 2 1 ov (got numF s).length ((got numF s).flatMap cI)→(X.setCell ⟨W.heap.size+2,o,none⟩ u).ownsRow W.heap.size 2 1 ov (got numF s).length ((got numF s).flatMap cI):=by
   intro X u o hX
   refine ⟨hX.1,?_⟩
   rcases hX.2 with hX | ⟨gg,cap,cur,h1,h2,h3,h4⟩
   · exact .inl hX
   · refine .inr ⟨gg,cap,cur,h1,h2,?_,h4⟩
     rw [Below.heap_setCell _ _ _ _ (by intro q;apply c;rw [h1];show some gg = _;rw [show gg = W.heap.size+2 from q])]
     exact h3
 refine ⟨?_,?_,c,d,?_,?_⟩
 · exact (((a.setCell J65 _).setCell J65 _).setCell J65 _).setCell J65 _
 · rw [hg];exact far _ _ _ (far _ _ _ (far _ _ _ (far _ _ _ b)))
 · rw [hb];exact f.set _ _ _ _
 · exact g.far J2 _ _ _ _
end Go.Proofs.YtcfgbiaahangmaaGreatDoor

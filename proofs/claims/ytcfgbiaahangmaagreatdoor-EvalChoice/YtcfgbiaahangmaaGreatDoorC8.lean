import Derived.Test.YtcfgbiaahangmaaGreatDoorC7
set_option maxHeartbeats 1000000
namespace Go.Proofs.YtcfgbiaahangmaaGreatDoor
open Go.Proofs.Tryz
open Go.RowKit
theorem known_any (s:ByteArray) (w:World) :
   Calls Tryz.prog 63 #[.string s] w fun e w'=>e = .returned (.tuple #[.int .i64 (knA s.data.toList),.int .i64 (knB s.data.toList),.bool (kno s.data.toList).isSome])∧w' = w:=by
 have hs:=ByteArray.toList_eq s
 obtain ⟨l,hl⟩:∃ l,s.data.toList = l:=⟨_,rfl⟩
 rw [hl] at hs ⊢
 clear hl
 by_cases h0:l = [83,85,77]
 · subst h0
   have e0:(s.toList == [83,85,77]) = true:=J78
   clear hs 
   exact K182
 have e0:(s.toList == [83,85,77]) = false:=J79
 by_cases h1:l = [67,79,85,78,84]
 · subst h1
   have e1:(s.toList == [67,79,85,78,84]) = true:=J78
   clear hs h0
   exact K182
 have e1:(s.toList == [67,79,85,78,84]) = false:=J80
 by_cases h2:l = [77,73,78]
 · subst h2
   have e2:(s.toList == [77,73,78]) = true:=J78
   clear hs h0 h1
   exact K182
 have e2:(s.toList == [77,73,78]) = false:=J81
 by_cases h3:l = [77,65,88]
 · subst h3
   have e3:(s.toList == [77,65,88]) = true:=J78
   clear hs h0 h1 h2
   exact K182
 have e3:(s.toList == [77,65,88]) = false:=J82
 by_cases h4:l = [65,86,69,82,65,71,69]
 · subst h4
   have e4:(s.toList == [65,86,69,82,65,71,69]) = true:=J78
   clear hs h0 h1 h2 h3
   exact K182
 have e4:(s.toList == [65,86,69,82,65,71,69]) = false:=J83
 by_cases h5:l = [65,78,68]
 · subst h5
   have e5:(s.toList == [65,78,68]) = true:=J78
   clear hs h0 h1 h2 h3 h4
   exact K182
 have e5:(s.toList == [65,78,68]) = false:=J84
 by_cases h6:l = [79,82]
 · subst h6
   have e6:(s.toList == [79,82]) = true:=J78
   clear hs h0 h1 h2 h3 h4 h5
   exact K182
 have e6:(s.toList == [79,82]) = false:=J85
 by_cases h7:l = [67,79,78,67,65,84]
 · subst h7
   have e7:(s.toList == [67,79,78,67,65,84]) = true:=J78
   clear hs h0 h1 h2 h3 h4 h5 h6
   exact K182
 have e7:(s.toList == [67,79,78,67,65,84]) = false:=J86
 by_cases h8:l = [73,70]
 · subst h8
   have e8:(s.toList == [73,70]) = true:=J78
   clear hs h0 h1 h2 h3 h4 h5 h6 h7
   exact K182
 have e8:(s.toList == [73,70]) = false:=J87
 by_cases h9:l = [73,78,68,69,88]
 · subst h9
   have e9:(s.toList == [73,78,68,69,88]) = true:=J78
   clear hs h0 h1 h2 h3 h4 h5 h6 h7 h8
   exact K182
 have e9:(s.toList == [73,78,68,69,88]) = false:=J88
 by_cases h10:l = [82,79,85,78,68]
 · subst h10
   have e10:(s.toList == [82,79,85,78,68]) = true:=J78
   clear hs h0 h1 h2 h3 h4 h5 h6 h7 h8 h9
   exact K182
 have e10:(s.toList == [82,79,85,78,68]) = false:=J89
 by_cases h11:l = [77,79,68]
 · subst h11
   have e11:(s.toList == [77,79,68]) = true:=J78
   clear hs h0 h1 h2 h3 h4 h5 h6 h7 h8 h9 h10
   exact K182
 have e11:(s.toList == [77,79,68]) = false:=by rw [hs];simpa using h11
 by_cases h12:l = [73,70,69,82,82,79,82]
 · subst h12
   have e12:(s.toList == [73,70,69,82,82,79,82]) = true:=J78
   clear hs h0 h1 h2 h3 h4 h5 h6 h7 h8 h9 h10 h11
   exact K182
 have e12:(s.toList == [73,70,69,82,82,79,82]) = false:=by rw [hs];simpa using h12
 by_cases h13:l = [76,69,70,84]
 · subst h13
   have e13:(s.toList == [76,69,70,84]) = true:=J78
   clear hs h0 h1 h2 h3 h4 h5 h6 h7 h8 h9 h10 h11 h12
   exact K182
 have e13:(s.toList == [76,69,70,84]) = false:=by rw [hs];simpa using h13
 by_cases h14:l = [78,79,84]
 · subst h14
   have e14:(s.toList == [78,79,84]) = true:=J78
   clear hs h0 h1 h2 h3 h4 h5 h6 h7 h8 h9 h10 h11 h12 h13
   exact K182
 have e14:(s.toList == [78,79,84]) = false:=by rw [hs];simpa using h14
 by_cases h15:l = [65,66,83]
 · subst h15
   have e15:(s.toList == [65,66,83]) = true:=J78
   clear hs h0 h1 h2 h3 h4 h5 h6 h7 h8 h9 h10 h11 h12 h13 h14
   exact K182
 have e15:(s.toList == [65,66,83]) = false:=by rw [hs];simpa using h15
 by_cases h16:l = [70,76,79,79,82]
 · subst h16
   have e16:(s.toList == [70,76,79,79,82]) = true:=J78
   clear hs h0 h1 h2 h3 h4 h5 h6 h7 h8 h9 h10 h11 h12 h13 h14 h15
   exact K182
 have e16:(s.toList == [70,76,79,79,82]) = false:=by rw [hs];simpa using h16
 by_cases h17:l = [83,81,82,84]
 · subst h17
   have e17:(s.toList == [83,81,82,84]) = true:=J78
   clear hs h0 h1 h2 h3 h4 h5 h6 h7 h8 h9 h10 h11 h12 h13 h14 h15 h16
   exact K182
 have e17:(s.toList == [83,81,82,84]) = false:=by rw [hs];simpa using h17
 by_cases h18:l = [76,69,78]
 · subst h18
   have e18:(s.toList == [76,69,78]) = true:=J78
   clear hs h0 h1 h2 h3 h4 h5 h6 h7 h8 h9 h10 h11 h12 h13 h14 h15 h16 h17
   exact K182
 have e18:(s.toList == [76,69,78]) = false:=by rw [hs];simpa using h18
 by_cases h19:l = [73,83,69,82,82,79,82]
 · subst h19
   have e19:(s.toList == [73,83,69,82,82,79,82]) = true:=J78
   clear hs h0 h1 h2 h3 h4 h5 h6 h7 h8 h9 h10 h11 h12 h13 h14 h15 h16 h17 h18
   exact K182
 have e19:(s.toList == [73,83,69,82,82,79,82]) = false:=by rw [hs];simpa using h19
 have HK:Hid (kno l = none):=J90
 clear hs h0 h1 h2 h3 h4 h5 h6 h7 h8 h9 h10 h11 h12 h13 h14 h15 h16 h17 h18 h19
 go_enter func63,ntmps63
 go_wp2_with fail
 go_ret3
 unfold knA knB
 rw [HK.out]
 exact ⟨rfl,rfl⟩
theorem rknown_any (s:ByteArray) (w:World) :
   Calls Tryz.prog 54 #[.string s] w fun e w'=>e = .returned (.tuple #[.int .i64 (knA s.data.toList),.int .i64 (knB s.data.toList),.bool (kno s.data.toList).isSome])∧w' = w:=by
 have hs:=ByteArray.toList_eq s
 obtain ⟨l,hl⟩:∃ l,s.data.toList = l:=⟨_,rfl⟩
 rw [hl] at hs ⊢
 clear hl
 by_cases h0:l = [83,85,77]
 · subst h0
   have e0:(s.toList == [83,85,77]) = true:=J78
   clear hs 
   exact K183
 have e0:(s.toList == [83,85,77]) = false:=J79
 by_cases h1:l = [67,79,85,78,84]
 · subst h1
   have e1:(s.toList == [67,79,85,78,84]) = true:=J78
   clear hs h0
   exact K183
 have e1:(s.toList == [67,79,85,78,84]) = false:=J80
 by_cases h2:l = [77,73,78]
 · subst h2
   have e2:(s.toList == [77,73,78]) = true:=J78
   clear hs h0 h1
   exact K183
 have e2:(s.toList == [77,73,78]) = false:=J81
 by_cases h3:l = [77,65,88]
 · subst h3
   have e3:(s.toList == [77,65,88]) = true:=J78
   clear hs h0 h1 h2
   exact K183
 have e3:(s.toList == [77,65,88]) = false:=J82
 by_cases h4:l = [65,86,69,82,65,71,69]
 · subst h4
   have e4:(s.toList == [65,86,69,82,65,71,69]) = true:=J78
   clear hs h0 h1 h2 h3
   exact K183
 have e4:(s.toList == [65,86,69,82,65,71,69]) = false:=J83
 by_cases h5:l = [65,78,68]
 · subst h5
   have e5:(s.toList == [65,78,68]) = true:=J78
   clear hs h0 h1 h2 h3 h4
   exact K183
 have e5:(s.toList == [65,78,68]) = false:=J84
 by_cases h6:l = [79,82]
 · subst h6
   have e6:(s.toList == [79,82]) = true:=J78
   clear hs h0 h1 h2 h3 h4 h5
   exact K183
 have e6:(s.toList == [79,82]) = false:=J85
 by_cases h7:l = [67,79,78,67,65,84]
 · subst h7
   have e7:(s.toList == [67,79,78,67,65,84]) = true:=J78
   clear hs h0 h1 h2 h3 h4 h5 h6
   exact K183
 have e7:(s.toList == [67,79,78,67,65,84]) = false:=J86
 by_cases h8:l = [73,70]
 · subst h8
   have e8:(s.toList == [73,70]) = true:=J78
   clear hs h0 h1 h2 h3 h4 h5 h6 h7
   exact K183
 have e8:(s.toList == [73,70]) = false:=J87
 by_cases h9:l = [73,78,68,69,88]
 · subst h9
   have e9:(s.toList == [73,78,68,69,88]) = true:=J78
   clear hs h0 h1 h2 h3 h4 h5 h6 h7 h8
   exact K183
 have e9:(s.toList == [73,78,68,69,88]) = false:=J88
 by_cases h10:l = [82,79,85,78,68]
 · subst h10
   have e10:(s.toList == [82,79,85,78,68]) = true:=J78
   clear hs h0 h1 h2 h3 h4 h5 h6 h7 h8 h9
   exact K183
 have e10:(s.toList == [82,79,85,78,68]) = false:=J89
 by_cases h11:l = [77,79,68]
 · subst h11
   have e11:(s.toList == [77,79,68]) = true:=J78
   clear hs h0 h1 h2 h3 h4 h5 h6 h7 h8 h9 h10
   exact K183
 have e11:(s.toList == [77,79,68]) = false:=by rw [hs];simpa using h11
 by_cases h12:l = [73,70,69,82,82,79,82]
 · subst h12
   have e12:(s.toList == [73,70,69,82,82,79,82]) = true:=J78
   clear hs h0 h1 h2 h3 h4 h5 h6 h7 h8 h9 h10 h11
   exact K183
 have e12:(s.toList == [73,70,69,82,82,79,82]) = false:=by rw [hs];simpa using h12
 by_cases h13:l = [76,69,70,84]
 · subst h13
   have e13:(s.toList == [76,69,70,84]) = true:=J78
   clear hs h0 h1 h2 h3 h4 h5 h6 h7 h8 h9 h10 h11 h12
   exact K183
 have e13:(s.toList == [76,69,70,84]) = false:=by rw [hs];simpa using h13
 by_cases h14:l = [78,79,84]
 · subst h14
   have e14:(s.toList == [78,79,84]) = true:=J78
   clear hs h0 h1 h2 h3 h4 h5 h6 h7 h8 h9 h10 h11 h12 h13
   exact K183
 have e14:(s.toList == [78,79,84]) = false:=by rw [hs];simpa using h14
 by_cases h15:l = [65,66,83]
 · subst h15
   have e15:(s.toList == [65,66,83]) = true:=J78
   clear hs h0 h1 h2 h3 h4 h5 h6 h7 h8 h9 h10 h11 h12 h13 h14
   exact K183
 have e15:(s.toList == [65,66,83]) = false:=by rw [hs];simpa using h15
 by_cases h16:l = [70,76,79,79,82]
 · subst h16
   have e16:(s.toList == [70,76,79,79,82]) = true:=J78
   clear hs h0 h1 h2 h3 h4 h5 h6 h7 h8 h9 h10 h11 h12 h13 h14 h15
   exact K183
 have e16:(s.toList == [70,76,79,79,82]) = false:=by rw [hs];simpa using h16
 by_cases h17:l = [83,81,82,84]
 · subst h17
   have e17:(s.toList == [83,81,82,84]) = true:=J78
   clear hs h0 h1 h2 h3 h4 h5 h6 h7 h8 h9 h10 h11 h12 h13 h14 h15 h16
   exact K183
 have e17:(s.toList == [83,81,82,84]) = false:=by rw [hs];simpa using h17
 by_cases h18:l = [76,69,78]
 · subst h18
   have e18:(s.toList == [76,69,78]) = true:=J78
   clear hs h0 h1 h2 h3 h4 h5 h6 h7 h8 h9 h10 h11 h12 h13 h14 h15 h16 h17
   exact K183
 have e18:(s.toList == [76,69,78]) = false:=by rw [hs];simpa using h18
 by_cases h19:l = [73,83,69,82,82,79,82]
 · subst h19
   have e19:(s.toList == [73,83,69,82,82,79,82]) = true:=J78
   clear hs h0 h1 h2 h3 h4 h5 h6 h7 h8 h9 h10 h11 h12 h13 h14 h15 h16 h17 h18
   exact K183
 have e19:(s.toList == [73,83,69,82,82,79,82]) = false:=by rw [hs];simpa using h19
 have HK:Hid (kno l = none):=J90
 clear hs h0 h1 h2 h3 h4 h5 h6 h7 h8 h9 h10 h11 h12 h13 h14 h15 h16 h17 h18 h19
 go_enter func54,ntmps54
 go_wp2_with fail
 go_ret3
 unfold knA knB
 rw [HK.out]
 exact ⟨rfl,rfl⟩
def wellT:Nat→T→Bool
 | 0,_=>false
 | n+1,t=>if t.k = 0 then decide (0≤t.n) else if t.k = 1 then decide (t.s.length≤300) else if t.k = 2 then (t.n == 0 || t.n == 1) else if t.k = 3 then (decide (1≤t.e) && decide (t.e≤5)) else if t.k = 4 then inB t.r.1 t.r.2.1 else
   if t.k = 6 then (t.l.length == 1 && t.l.all (wellT n)) else if t.k = 7 then (bnd t.s != 0 && t.l.length == 2 && t.l.all (wellT n)) else
   if t.k = 8 then ((kno t.s).isSome && decide (knA t.s≤t.l.length) && decide ((t.l.length:Int)≤knB t.s) && t.l.all (fun x=>if x.k = 5 then inB x.r.1 x.r.2.1 && inB x.q.1 x.q.2.1 else wellT n x)) else false
def argT (n:Nat) (x:T):Bool:=if x.k = 5 then inB x.r.1 x.r.2.1 && inB x.q.1 x.q.2.1 else wellT n x
def Hr:Nat→T→Prop
 | 0,_=>False
 | n+1,t=>t.l.length≤100000∧∀ x ∈ t.l,Hr n x
def ATr (K:FuncId) (P:Nat→Prop) (g:T→Bool) (t:T):Prop:=∀ (W:World) (pp:Option Addr) (ln cl:Nat),IsL W P (.slice pp ln cl) t.l→Calls Tryz.prog K #[.agg #[.int .i64 t.k,.int .i64 t.n,.string (bs t.s),.int .i64 t.e,.int .i64 t.r.1,.int .i64 t.r.2.1,.bool t.r.2.2.1,.bool t.r.2.2.2,.int .i64 t.q.1,.int .i64 t.q.2.1,.bool t.q.2.2.1,.bool t.q.2.2.2,.slice pp ln cl]] W fun e w'=>e = .returned (.bool (g t))∧Ext W w'
theorem binds_any (s:ByteArray) (w:World) :
   Calls Tryz.prog 62 #[.string s] w fun e w'=>e = .returned (.int .i64 ((bnd s.data.toList:Nat):Int))∧w' = w:=by
 have hs:=ByteArray.toList_eq s
 obtain ⟨l,hl⟩:∃ l,s.data.toList = l:=⟨_,rfl⟩
 rw [hl] at hs ⊢
 clear hl
 by_cases h0:l = [61]
 · subst h0
   have e0:(s.toList == [61]) = true:=J78
   clear hs 
   exact K191
 have e0:(s.toList == [61]) = false:=J79
 by_cases h1:l = [60,62]
 · subst h1
   have e1:(s.toList == [60,62]) = true:=J78
   clear hs h0
   exact K191
 have e1:(s.toList == [60,62]) = false:=J80
 by_cases h2:l = [60]
 · subst h2
   have e2:(s.toList == [60]) = true:=J78
   clear hs h0 h1
   exact K191
 have e2:(s.toList == [60]) = false:=J81
 by_cases h3:l = [60,61]
 · subst h3
   have e3:(s.toList == [60,61]) = true:=J78
   clear hs h0 h1 h2
   exact K191
 have e3:(s.toList == [60,61]) = false:=J82
 by_cases h4:l = [62]
 · subst h4
   have e4:(s.toList == [62]) = true:=J78
   clear hs h0 h1 h2 h3
   exact K191
 have e4:(s.toList == [62]) = false:=J83
 by_cases h5:l = [62,61]
 · subst h5
   have e5:(s.toList == [62,61]) = true:=J78
   clear hs h0 h1 h2 h3 h4
   exact K191
 have e5:(s.toList == [62,61]) = false:=J84
 by_cases h6:l = [38]
 · subst h6
   have e6:(s.toList == [38]) = true:=J78
   clear hs h0 h1 h2 h3 h4 h5
   exact K191
 have e6:(s.toList == [38]) = false:=J85
 by_cases h7:l = [43]
 · subst h7
   have e7:(s.toList == [43]) = true:=J78
   clear hs h0 h1 h2 h3 h4 h5 h6
   exact K191
 have e7:(s.toList == [43]) = false:=J86
 by_cases h8:l = [45]
 · subst h8
   have e8:(s.toList == [45]) = true:=J78
   clear hs h0 h1 h2 h3 h4 h5 h6 h7
   exact K191
 have e8:(s.toList == [45]) = false:=J87
 by_cases h9:l = [42]
 · subst h9
   have e9:(s.toList == [42]) = true:=J78
   clear hs h0 h1 h2 h3 h4 h5 h6 h7 h8
   exact K191
 have e9:(s.toList == [42]) = false:=J88
 by_cases h10:l = [47]
 · subst h10
   have e10:(s.toList == [47]) = true:=J78
   clear hs h0 h1 h2 h3 h4 h5 h6 h7 h8 h9
   exact K191
 have e10:(s.toList == [47]) = false:=J89
 have HK:Hid (bnd l = 0):=J91
 clear hs h0 h1 h2 h3 h4 h5 h6 h7 h8 h9 h10
 go_enter func62,ntmps62
 go_wp2_with fail
 go_ret
 exact ⟨ret_int (by rw [HK.out];rfl),rfl⟩
theorem rpow8_any (s:ByteArray) (w:World) :
   Calls Tryz.prog 53 #[.string s] w fun e w'=>e = .returned (.int .i64 ((bnd s.data.toList:Nat):Int))∧w' = w:=by
 have hs:=ByteArray.toList_eq s
 obtain ⟨l,hl⟩:∃ l,s.data.toList = l:=⟨_,rfl⟩
 rw [hl] at hs ⊢
 clear hl
 by_cases h0:l = [61]
 · subst h0
   have e0:(s.toList == [61]) = true:=J78
   clear hs 
   exact K192
 have e0:(s.toList == [61]) = false:=J79
 by_cases h1:l = [60,62]
 · subst h1
   have e1:(s.toList == [60,62]) = true:=J78
   clear hs h0
   exact K192
 have e1:(s.toList == [60,62]) = false:=J80
 by_cases h2:l = [60]
 · subst h2
   have e2:(s.toList == [60]) = true:=J78
   clear hs h0 h1
   exact K192
 have e2:(s.toList == [60]) = false:=J81
 by_cases h3:l = [60,61]
 · subst h3
   have e3:(s.toList == [60,61]) = true:=J78
   clear hs h0 h1 h2
   exact K192
 have e3:(s.toList == [60,61]) = false:=J82
 by_cases h4:l = [62]
 · subst h4
   have e4:(s.toList == [62]) = true:=J78
   clear hs h0 h1 h2 h3
   exact K192
 have e4:(s.toList == [62]) = false:=J83
 by_cases h5:l = [62,61]
 · subst h5
   have e5:(s.toList == [62,61]) = true:=J78
   clear hs h0 h1 h2 h3 h4
   exact K192
 have e5:(s.toList == [62,61]) = false:=J84
 by_cases h6:l = [38]
 · subst h6
   have e6:(s.toList == [38]) = true:=J78
   clear hs h0 h1 h2 h3 h4 h5
   exact K192
 have e6:(s.toList == [38]) = false:=J85
 by_cases h7:l = [43]
 · subst h7
   have e7:(s.toList == [43]) = true:=J78
   clear hs h0 h1 h2 h3 h4 h5 h6
   exact K192
 have e7:(s.toList == [43]) = false:=J86
 by_cases h8:l = [45]
 · subst h8
   have e8:(s.toList == [45]) = true:=J78
   clear hs h0 h1 h2 h3 h4 h5 h6 h7
   exact K192
 have e8:(s.toList == [45]) = false:=J87
 by_cases h9:l = [42]
 · subst h9
   have e9:(s.toList == [42]) = true:=J78
   clear hs h0 h1 h2 h3 h4 h5 h6 h7 h8
   exact K192
 have e9:(s.toList == [42]) = false:=J88
 by_cases h10:l = [47]
 · subst h10
   have e10:(s.toList == [47]) = true:=J78
   clear hs h0 h1 h2 h3 h4 h5 h6 h7 h8 h9
   exact K192
 have e10:(s.toList == [47]) = false:=J89
 have HK:Hid (bnd l = 0):=J91
 clear hs h0 h1 h2 h3 h4 h5 h6 h7 h8 h9 h10
 go_enter func53,ntmps53
 go_wp2_with fail
 go_ret
 exact ⟨ret_int (by rw [HK.out];rfl),rfl⟩
theorem ret_ref {x y:Value} {a b:Bool} (h:x = y) (g:a = b):Ending.returned (.tuple #[x,.bool a]) = .returned (.tuple #[y,.bool b]):=by rw [h,g]
inductive Rt (tl:List Tk):List Tk→List Tk→Prop
 | nil (e:Tk):e.1 = 5→Rt tl [e] tl
 | cons (t t':Tk) (ts ts':List Tk):t.1≠5→t'.1 = t.1→t'.2.2 = t.2.2→Rt tl ts ts'→Rt tl (t :: ts) (t' :: ts')
def Stp (z:Bool) (tl:List Tk):Prop:=if z then ∃ e,tl = [e]∧e.1 = 5 else ∃ t r,tl = t :: r∧t.1 = 3∧(t.2.2.1 = [41]∨t.2.2.1 = [44])
def DD (z:Bool) (d d':Nat):Prop:=d≤d'∧(z = true→d' = d)
def RG {α β:Type} (z:Bool) (N:α→Prop) (P:α→β→Prop) (r:Except Ft α) (r':Except Ft β):Prop:=match r with
 | .ok x=>N x∨(∃ x',r' = .ok x'∧P x x')∨(z = false∧∃ p,r' = .error (p,true))
 | .error e=>z = true→∃ p,r' = .error (p,e.2)
def no {α:Type}:α→Prop:=fun _=>False
theorem RG.long {α β:Type} {z:Bool} {N:α→Prop} {P:α→β→Prop} {r:Except Ft α} (hz:z = false) (p:Int):RG z N P r (.error (p,true)):=by
 cases r with
 | ok x=>exact .inr (.inr ⟨hz,p,rfl⟩)
 | error e=>intro h;rw [hz] at h;cases h
theorem RG.ok {α β:Type} {z:Bool} {N:α→Prop} {P:α→β→Prop} {x:α} {x':β} (h:P x x'):RG z N P (.ok x) (.ok x'):=.inr (.inl ⟨x',rfl,h⟩)
theorem RG.err {α β:Type} {z:Bool} {N:α→Prop} {P:α→β→Prop} {e e':Ft} (h:e'.2 = e.2):RG z N P (.error e) (.error e'):=fun _=>⟨e'.1,by rw [← h]⟩
theorem RG.off {α β:Type} {z:Bool} {N:α→Prop} {P:α→β→Prop} {e:Ft} {r':Except Ft β} (h:z = false):RG z N P (.error e) r':=by intro h1;rw [h] at h1;cases h1
theorem RG.then {α β γ δ:Type} {z:Bool} {N:α→Prop} {P:α→β→Prop} {N2:γ→Prop} {P2:γ→δ→Prop} {r:Except Ft α} {r':Except Ft β} {f:α→Except Ft γ} {f':β→Except Ft δ}
   (h:RG z N P r r') (hN:∀ x,r = .ok x→N x→∀ y',RG z N2 P2 (f x) y') (hf:∀ x x',r = .ok x→P x x'→RG z N2 P2 (f x) (f' x')):RG z N2 P2 (r.bind f) (r'.bind f'):=by
 cases r with
 | error e =>
   intro hz
   obtain ⟨p,rfl⟩:=h hz
   exact ⟨p,rfl⟩
 | ok x =>
   rcases h with h | ⟨x',rfl,h⟩ | ⟨hz,p,rfl⟩
   · exact hN x rfl h _
   · exact hf x x' rfl h
   · exact RG.long hz p
theorem Rt.len {tl ts ts':List Tk} (h:Rt tl ts ts'):ts'.length+1 = ts.length+tl.length:=by
 induction h with
 | nil e h=>simp;omega
 | cons t t' ts ts' h1 h2 h3 h4 ih=>simp;omega
theorem Rt.nz {tl ts ts':List Tk} (h:Rt tl ts ts'):Nz ts:=by
 induction h with
 | nil e h=>exact ⟨[],e,rfl,h⟩
 | cons t t' ts ts' h1 h2 h3 h4 ih =>
   obtain ⟨pre,x,rfl,hx⟩:=ih
   exact ⟨t :: pre,x,rfl,hx⟩
theorem Rt.ends {z:Bool} {tl ts ts':List Tk} (h:Rt tl ts ts') (hS:Stp z tl) (h5:(hd ts).1 = 5):ts' = tl∧(z = true→(hd ts').1 = 5)∧(z = false→(hd ts').1 = 3∧((hd ts').2.2.1 = [41]∨(hd ts').2.2.1 = [44])):=by
 cases h with
 | nil e h =>
   refine ⟨rfl,?_,?_⟩
   · intro hz;subst hz
     obtain ⟨x,rfl,hx⟩:=hS
     exact hx
   · intro hz;subst hz
     obtain ⟨t,r,rfl,h1,h2⟩:=hS
     exact ⟨h1,h2⟩
 | cons t t' ts ts' h1 h2 h3 h4=>exact absurd h5 h1
def Pt {α:Type} (tl:List Tk) (a b:α × List Tk):Prop:=b.1 = a.1∧Rt tl a.2 b.2
def RF (z:Bool) (tl:List Tk) (n m:Nat) (F F':Rd):Prop:=∀ d d' ts ts',DD z d d'→Rt tl ts ts'→ts.length≤n→ts'.length≤m→RG z no (Pt tl) (F d ts) (F' d' ts')
def RW (z:Bool) (tl:List Tk) (n m:Nat) (F F':Rd):Prop:=∀ d d' ts ts',DD z d d'→Rt tl ts ts'→ts.length≤n→ts'.length≤m→RG z (fun x=>z = false∧(hd x.2).1 = 5) (Pt tl) (F d ts) (F' d' ts')
theorem RF.weak {z:Bool} {tl:List Tk} {n m:Nat} {F F':Rd} (h:RF z tl n m F F'):RW z tl n m F F':=by
 intro d d' ts ts' h1 h2 h3 h4
 have k:=h d d' ts ts' h1 h2 h3 h4
 unfold RG at k ⊢
 split
 · rename_i x hx
   rw [hx] at k
   exact .inr (k.resolve_left (fun h=>h.elim))
 · rename_i x hx
   rw [hx] at k
   exact k
theorem DD.up {z:Bool} {d d':Nat} (h:DD z d d'):DD z (d+1) (d'+1):=⟨Nat.succ_le_succ h.1,fun e=>by rw [h.2 e]⟩
theorem Blk.extB {b g:Nat} {w w':World} {x0 x1 x2 x3:Value} (h:Blk w g x0 x1 x2 x3) (e:ExtB b w w') (hg:g≠b):Blk w' g x0 x1 x2 x3:=by
 obtain ⟨z,⟨k0,k1,k2,k3⟩,f0,f1,f2,f3⟩:=h
 have k:=fun o=>(e.cell z hg o).1
 have f:=fun o=>(e.cell z hg o).2
 exact ⟨llL z e.size,⟨(k 0).trans k0,(k 1).trans k1,(k 2).trans k2,(k 3).trans k3⟩,(f 0).trans f0,(f 1).trans f1,(f 2).trans f2,(f 3).trans f3⟩
theorem hd_mem {ts:List Tk} (h:1≤ts.length):hd ts ∈ ts:=by
 cases ts with
 | nil=>simp at h
 | cons t r=>simp [hd]
end Go.Proofs.YtcfgbiaahangmaaGreatDoor

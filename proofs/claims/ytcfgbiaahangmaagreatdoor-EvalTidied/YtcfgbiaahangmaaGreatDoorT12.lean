import Derived.Test.YtcfgbiaahangmaaGreatDoorT8
set_option maxHeartbeats 1000000
namespace Go.Proofs.YtcfgbiaahangmaaGreatDoor
open Go.Proofs.Tryz
open Go.RowKit
def Blk2 (W : World) (b : Nat) (x0 x1 : Value) : Prop:=b < W.heap.size ∧
 (W.cell? ⟨b,0,none⟩ = some x0 ∧ W.cell? ⟨b,1,none⟩ = some x1) ∧
 (W.frozen? ⟨b,0,none⟩ = false ∧ W.frozen? ⟨b,1,none⟩ = false)
theorem Blk2.ext {w w' : World} {b : Nat} {x0 x1 : Value} (h : Blk2 w b x0 x1) (e : Ext w w') : Blk2 w' b x0 x1:=by
 obtain ⟨z,⟨k0,k1⟩,f0,f1⟩:=h
 have k:=fun o=>e.cell.1 b o z
 have f:=fun o=>e.cell.2 b o z
 exact ⟨llL z e.sz,⟨(k 0).trans k0,(k 1).trans k1⟩,(f 0).trans f0,(f 1).trans f1⟩
theorem Blk2.far1 {w : World} {b c : Nat} {x0 x1 : Value} (h : Blk2 w b x0 x1) (hc : c ≠ b) (o : Nat) (v : Value) : Blk2 (w.setCell ⟨c,o,none⟩ v) b x0 x1:=by
 obtain ⟨z,⟨k0,k1⟩,f0,f1⟩:=h
 refine ⟨by simpa [World.setCell] using z,⟨?_,?_⟩,?_,?_⟩
 · rw [wFa _ _ _ _ hc];exact k0
 · rw [wFa _ _ _ _ hc];exact k1
 · rw [wFz];exact f0
 · rw [wFz];exact f1
theorem Blk2.far {w : World} {b c : Nat} {x0 x1 : Value} (h : Blk2 w b x0 x1) (hc : c ≠ b) (y0 y1 : Value) :
   Blk2 ((w.setCell ⟨c,0,none⟩ y0).setCell ⟨c,1,none⟩ y1) b x0 x1:=((h.far1 hc _ _).far1 hc _ _)
theorem Blk2.put0 {w : World} {b : Nat} {x0 x1 : Value} (h : Blk2 w b x0 x1) (v : Value) : Blk2 (w.setCell ⟨b,0,none⟩ v) b v x1:=by
 obtain ⟨z,⟨k0,k1⟩,f0,f1⟩:=h
 have e:=wSa w ⟨b,0,none⟩ v (by rw [k0])
 refine ⟨by simpa [World.setCell] using z,⟨e,?_⟩,?_,?_⟩
 · exact K125
 · rw [wFz];exact f0
 · rw [wFz];exact f1
theorem Blk2.put1 {w : World} {b : Nat} {x0 x1 : Value} (h : Blk2 w b x0 x1) (v : Value) : Blk2 (w.setCell ⟨b,1,none⟩ v) b x0 v:=by
 obtain ⟨z,⟨k0,k1⟩,f0,f1⟩:=h
 have e:=wSa w ⟨b,1,none⟩ v (by rw [k1])
 refine ⟨by simpa [World.setCell] using z,⟨?_,e⟩,?_,?_⟩
 · exact K126
 · rw [wFz];exact f0
 · rw [wFz];exact f1
theorem Blk2.set {w : World} {b : Nat} {o0 o1 : Value} (h : Blk2 w b o0 o1) (x0 x1 : Value) :
   Blk2 ((w.setCell ⟨b,0,none⟩ x0).setCell ⟨b,1,none⟩ x1) b x0 x1:=((h.put0 _).put1 _)
theorem Blk2.dr {w : World} {b : Nat} {x0 x1 : Value} (h : Blk2 w b x0 x1) : Blk2 w.drew b x0 x1:=h.ext (Ext.drew xr)
theorem Blk2.al {w : World} {b : Nat} {x0 x1 : Value} (o : Obj) (h : Blk2 w b x0 x1) : Blk2 (w.alloc o) b x0 x1:=h.ext (Ext.alloc xr _)
theorem known_any (s : ByteArray) (w : World) :
   Calls Tryz.prog 63 #[.string s] w fun e w'=>e = .returned (.tuple #[.int .i64 (knA s.data.toList),.int .i64 (knB s.data.toList),.bool (kno s.data.toList).isSome]) ∧ w' = w:=by
 have hs:=ByteArray.toList_eq s
 obtain ⟨l,hl⟩ : ∃ l,s.data.toList = l:=⟨_,rfl⟩
 rw [hl] at hs ⊢
 clear hl
 by_cases h0 : l = [83,85,77]
 · subst h0
   have e0 : (s.toList == [83,85,77]) = true:=J74
   clear hs 
   exact K170
 have e0 : (s.toList == [83,85,77]) = false:=J75
 by_cases h1 : l = [67,79,85,78,84]
 · subst h1
   have e1 : (s.toList == [67,79,85,78,84]) = true:=J74
   clear hs h0
   exact K170
 have e1 : (s.toList == [67,79,85,78,84]) = false:=J76
 by_cases h2 : l = [77,73,78]
 · subst h2
   have e2 : (s.toList == [77,73,78]) = true:=J74
   clear hs h0 h1
   exact K170
 have e2 : (s.toList == [77,73,78]) = false:=J77
 by_cases h3 : l = [77,65,88]
 · subst h3
   have e3 : (s.toList == [77,65,88]) = true:=J74
   clear hs h0 h1 h2
   exact K170
 have e3 : (s.toList == [77,65,88]) = false:=J78
 by_cases h4 : l = [65,86,69,82,65,71,69]
 · subst h4
   have e4 : (s.toList == [65,86,69,82,65,71,69]) = true:=J74
   clear hs h0 h1 h2 h3
   exact K170
 have e4 : (s.toList == [65,86,69,82,65,71,69]) = false:=J79
 by_cases h5 : l = [65,78,68]
 · subst h5
   have e5 : (s.toList == [65,78,68]) = true:=J74
   clear hs h0 h1 h2 h3 h4
   exact K170
 have e5 : (s.toList == [65,78,68]) = false:=J80
 by_cases h6 : l = [79,82]
 · subst h6
   have e6 : (s.toList == [79,82]) = true:=J74
   clear hs h0 h1 h2 h3 h4 h5
   exact K170
 have e6 : (s.toList == [79,82]) = false:=J81
 by_cases h7 : l = [67,79,78,67,65,84]
 · subst h7
   have e7 : (s.toList == [67,79,78,67,65,84]) = true:=J74
   clear hs h0 h1 h2 h3 h4 h5 h6
   exact K170
 have e7 : (s.toList == [67,79,78,67,65,84]) = false:=J82
 by_cases h8 : l = [73,70]
 · subst h8
   have e8 : (s.toList == [73,70]) = true:=J74
   clear hs h0 h1 h2 h3 h4 h5 h6 h7
   exact K170
 have e8 : (s.toList == [73,70]) = false:=J83
 by_cases h9 : l = [73,78,68,69,88]
 · subst h9
   have e9 : (s.toList == [73,78,68,69,88]) = true:=J74
   clear hs h0 h1 h2 h3 h4 h5 h6 h7 h8
   exact K170
 have e9 : (s.toList == [73,78,68,69,88]) = false:=J84
 by_cases h10 : l = [82,79,85,78,68]
 · subst h10
   have e10 : (s.toList == [82,79,85,78,68]) = true:=J74
   clear hs h0 h1 h2 h3 h4 h5 h6 h7 h8 h9
   exact K170
 have e10 : (s.toList == [82,79,85,78,68]) = false:=J85
 by_cases h11 : l = [77,79,68]
 · subst h11
   have e11 : (s.toList == [77,79,68]) = true:=J74
   clear hs h0 h1 h2 h3 h4 h5 h6 h7 h8 h9 h10
   exact K170
 have e11 : (s.toList == [77,79,68]) = false:=by rw [hs];simpa using h11
 by_cases h12 : l = [73,70,69,82,82,79,82]
 · subst h12
   have e12 : (s.toList == [73,70,69,82,82,79,82]) = true:=J74
   clear hs h0 h1 h2 h3 h4 h5 h6 h7 h8 h9 h10 h11
   exact K170
 have e12 : (s.toList == [73,70,69,82,82,79,82]) = false:=by rw [hs];simpa using h12
 by_cases h13 : l = [76,69,70,84]
 · subst h13
   have e13 : (s.toList == [76,69,70,84]) = true:=J74
   clear hs h0 h1 h2 h3 h4 h5 h6 h7 h8 h9 h10 h11 h12
   exact K170
 have e13 : (s.toList == [76,69,70,84]) = false:=by rw [hs];simpa using h13
 by_cases h14 : l = [78,79,84]
 · subst h14
   have e14 : (s.toList == [78,79,84]) = true:=J74
   clear hs h0 h1 h2 h3 h4 h5 h6 h7 h8 h9 h10 h11 h12 h13
   exact K170
 have e14 : (s.toList == [78,79,84]) = false:=by rw [hs];simpa using h14
 by_cases h15 : l = [65,66,83]
 · subst h15
   have e15 : (s.toList == [65,66,83]) = true:=J74
   clear hs h0 h1 h2 h3 h4 h5 h6 h7 h8 h9 h10 h11 h12 h13 h14
   exact K170
 have e15 : (s.toList == [65,66,83]) = false:=by rw [hs];simpa using h15
 by_cases h16 : l = [70,76,79,79,82]
 · subst h16
   have e16 : (s.toList == [70,76,79,79,82]) = true:=J74
   clear hs h0 h1 h2 h3 h4 h5 h6 h7 h8 h9 h10 h11 h12 h13 h14 h15
   exact K170
 have e16 : (s.toList == [70,76,79,79,82]) = false:=by rw [hs];simpa using h16
 by_cases h17 : l = [83,81,82,84]
 · subst h17
   have e17 : (s.toList == [83,81,82,84]) = true:=J74
   clear hs h0 h1 h2 h3 h4 h5 h6 h7 h8 h9 h10 h11 h12 h13 h14 h15 h16
   exact K170
 have e17 : (s.toList == [83,81,82,84]) = false:=by rw [hs];simpa using h17
 by_cases h18 : l = [76,69,78]
 · subst h18
   have e18 : (s.toList == [76,69,78]) = true:=J74
   clear hs h0 h1 h2 h3 h4 h5 h6 h7 h8 h9 h10 h11 h12 h13 h14 h15 h16 h17
   exact K170
 have e18 : (s.toList == [76,69,78]) = false:=by rw [hs];simpa using h18
 by_cases h19 : l = [73,83,69,82,82,79,82]
 · subst h19
   have e19 : (s.toList == [73,83,69,82,82,79,82]) = true:=J74
   clear hs h0 h1 h2 h3 h4 h5 h6 h7 h8 h9 h10 h11 h12 h13 h14 h15 h16 h17 h18
   exact K170
 have e19 : (s.toList == [73,83,69,82,82,79,82]) = false:=by rw [hs];simpa using h19
 have HK : Hid (kno l = none):=J86
 clear hs h0 h1 h2 h3 h4 h5 h6 h7 h8 h9 h10 h11 h12 h13 h14 h15 h16 h17 h18 h19
 go_enter func63,ntmps63
 go_wp2_with fail
 go_ret3
 unfold knA knB
 rw [HK.out]
 exact ⟨rfl,rfl⟩
theorem rknown_any (s : ByteArray) (w : World) :
   Calls Tryz.prog 54 #[.string s] w fun e w'=>e = .returned (.tuple #[.int .i64 (knA s.data.toList),.int .i64 (knB s.data.toList),.bool (kno s.data.toList).isSome]) ∧ w' = w:=by
 have hs:=ByteArray.toList_eq s
 obtain ⟨l,hl⟩ : ∃ l,s.data.toList = l:=⟨_,rfl⟩
 rw [hl] at hs ⊢
 clear hl
 by_cases h0 : l = [83,85,77]
 · subst h0
   have e0 : (s.toList == [83,85,77]) = true:=J74
   clear hs 
   exact K171
 have e0 : (s.toList == [83,85,77]) = false:=J75
 by_cases h1 : l = [67,79,85,78,84]
 · subst h1
   have e1 : (s.toList == [67,79,85,78,84]) = true:=J74
   clear hs h0
   exact K171
 have e1 : (s.toList == [67,79,85,78,84]) = false:=J76
 by_cases h2 : l = [77,73,78]
 · subst h2
   have e2 : (s.toList == [77,73,78]) = true:=J74
   clear hs h0 h1
   exact K171
 have e2 : (s.toList == [77,73,78]) = false:=J77
 by_cases h3 : l = [77,65,88]
 · subst h3
   have e3 : (s.toList == [77,65,88]) = true:=J74
   clear hs h0 h1 h2
   exact K171
 have e3 : (s.toList == [77,65,88]) = false:=J78
 by_cases h4 : l = [65,86,69,82,65,71,69]
 · subst h4
   have e4 : (s.toList == [65,86,69,82,65,71,69]) = true:=J74
   clear hs h0 h1 h2 h3
   exact K171
 have e4 : (s.toList == [65,86,69,82,65,71,69]) = false:=J79
 by_cases h5 : l = [65,78,68]
 · subst h5
   have e5 : (s.toList == [65,78,68]) = true:=J74
   clear hs h0 h1 h2 h3 h4
   exact K171
 have e5 : (s.toList == [65,78,68]) = false:=J80
 by_cases h6 : l = [79,82]
 · subst h6
   have e6 : (s.toList == [79,82]) = true:=J74
   clear hs h0 h1 h2 h3 h4 h5
   exact K171
 have e6 : (s.toList == [79,82]) = false:=J81
 by_cases h7 : l = [67,79,78,67,65,84]
 · subst h7
   have e7 : (s.toList == [67,79,78,67,65,84]) = true:=J74
   clear hs h0 h1 h2 h3 h4 h5 h6
   exact K171
 have e7 : (s.toList == [67,79,78,67,65,84]) = false:=J82
 by_cases h8 : l = [73,70]
 · subst h8
   have e8 : (s.toList == [73,70]) = true:=J74
   clear hs h0 h1 h2 h3 h4 h5 h6 h7
   exact K171
 have e8 : (s.toList == [73,70]) = false:=J83
 by_cases h9 : l = [73,78,68,69,88]
 · subst h9
   have e9 : (s.toList == [73,78,68,69,88]) = true:=J74
   clear hs h0 h1 h2 h3 h4 h5 h6 h7 h8
   exact K171
 have e9 : (s.toList == [73,78,68,69,88]) = false:=J84
 by_cases h10 : l = [82,79,85,78,68]
 · subst h10
   have e10 : (s.toList == [82,79,85,78,68]) = true:=J74
   clear hs h0 h1 h2 h3 h4 h5 h6 h7 h8 h9
   exact K171
 have e10 : (s.toList == [82,79,85,78,68]) = false:=J85
 by_cases h11 : l = [77,79,68]
 · subst h11
   have e11 : (s.toList == [77,79,68]) = true:=J74
   clear hs h0 h1 h2 h3 h4 h5 h6 h7 h8 h9 h10
   exact K171
 have e11 : (s.toList == [77,79,68]) = false:=by rw [hs];simpa using h11
 by_cases h12 : l = [73,70,69,82,82,79,82]
 · subst h12
   have e12 : (s.toList == [73,70,69,82,82,79,82]) = true:=J74
   clear hs h0 h1 h2 h3 h4 h5 h6 h7 h8 h9 h10 h11
   exact K171
 have e12 : (s.toList == [73,70,69,82,82,79,82]) = false:=by rw [hs];simpa using h12
 by_cases h13 : l = [76,69,70,84]
 · subst h13
   have e13 : (s.toList == [76,69,70,84]) = true:=J74
   clear hs h0 h1 h2 h3 h4 h5 h6 h7 h8 h9 h10 h11 h12
   exact K171
 have e13 : (s.toList == [76,69,70,84]) = false:=by rw [hs];simpa using h13
 by_cases h14 : l = [78,79,84]
 · subst h14
   have e14 : (s.toList == [78,79,84]) = true:=J74
   clear hs h0 h1 h2 h3 h4 h5 h6 h7 h8 h9 h10 h11 h12 h13
   exact K171
 have e14 : (s.toList == [78,79,84]) = false:=by rw [hs];simpa using h14
 by_cases h15 : l = [65,66,83]
 · subst h15
   have e15 : (s.toList == [65,66,83]) = true:=J74
   clear hs h0 h1 h2 h3 h4 h5 h6 h7 h8 h9 h10 h11 h12 h13 h14
   exact K171
 have e15 : (s.toList == [65,66,83]) = false:=by rw [hs];simpa using h15
 by_cases h16 : l = [70,76,79,79,82]
 · subst h16
   have e16 : (s.toList == [70,76,79,79,82]) = true:=J74
   clear hs h0 h1 h2 h3 h4 h5 h6 h7 h8 h9 h10 h11 h12 h13 h14 h15
   exact K171
 have e16 : (s.toList == [70,76,79,79,82]) = false:=by rw [hs];simpa using h16
 by_cases h17 : l = [83,81,82,84]
 · subst h17
   have e17 : (s.toList == [83,81,82,84]) = true:=J74
   clear hs h0 h1 h2 h3 h4 h5 h6 h7 h8 h9 h10 h11 h12 h13 h14 h15 h16
   exact K171
 have e17 : (s.toList == [83,81,82,84]) = false:=by rw [hs];simpa using h17
 by_cases h18 : l = [76,69,78]
 · subst h18
   have e18 : (s.toList == [76,69,78]) = true:=J74
   clear hs h0 h1 h2 h3 h4 h5 h6 h7 h8 h9 h10 h11 h12 h13 h14 h15 h16 h17
   exact K171
 have e18 : (s.toList == [76,69,78]) = false:=by rw [hs];simpa using h18
 by_cases h19 : l = [73,83,69,82,82,79,82]
 · subst h19
   have e19 : (s.toList == [73,83,69,82,82,79,82]) = true:=J74
   clear hs h0 h1 h2 h3 h4 h5 h6 h7 h8 h9 h10 h11 h12 h13 h14 h15 h16 h17 h18
   exact K171
 have e19 : (s.toList == [73,83,69,82,82,79,82]) = false:=by rw [hs];simpa using h19
 have HK : Hid (kno l = none):=J86
 clear hs h0 h1 h2 h3 h4 h5 h6 h7 h8 h9 h10 h11 h12 h13 h14 h15 h16 h17 h18 h19
 go_enter func54,ntmps54
 go_wp2_with fail
 go_ret3
 unfold knA knB
 rw [HK.out]
 exact ⟨rfl,rfl⟩
theorem binds_any (s : ByteArray) (w : World) :
   Calls Tryz.prog 62 #[.string s] w fun e w'=>e = .returned (.int .i64 ((bnd s.data.toList : Nat) : Int)) ∧ w' = w:=by
 have hs:=ByteArray.toList_eq s
 obtain ⟨l,hl⟩ : ∃ l,s.data.toList = l:=⟨_,rfl⟩
 rw [hl] at hs ⊢
 clear hl
 by_cases h0 : l = [61]
 · subst h0
   have e0 : (s.toList == [61]) = true:=J74
   clear hs 
   exact K179
 have e0 : (s.toList == [61]) = false:=J75
 by_cases h1 : l = [60,62]
 · subst h1
   have e1 : (s.toList == [60,62]) = true:=J74
   clear hs h0
   exact K179
 have e1 : (s.toList == [60,62]) = false:=J76
 by_cases h2 : l = [60]
 · subst h2
   have e2 : (s.toList == [60]) = true:=J74
   clear hs h0 h1
   exact K179
 have e2 : (s.toList == [60]) = false:=J77
 by_cases h3 : l = [60,61]
 · subst h3
   have e3 : (s.toList == [60,61]) = true:=J74
   clear hs h0 h1 h2
   exact K179
 have e3 : (s.toList == [60,61]) = false:=J78
 by_cases h4 : l = [62]
 · subst h4
   have e4 : (s.toList == [62]) = true:=J74
   clear hs h0 h1 h2 h3
   exact K179
 have e4 : (s.toList == [62]) = false:=J79
 by_cases h5 : l = [62,61]
 · subst h5
   have e5 : (s.toList == [62,61]) = true:=J74
   clear hs h0 h1 h2 h3 h4
   exact K179
 have e5 : (s.toList == [62,61]) = false:=J80
 by_cases h6 : l = [38]
 · subst h6
   have e6 : (s.toList == [38]) = true:=J74
   clear hs h0 h1 h2 h3 h4 h5
   exact K179
 have e6 : (s.toList == [38]) = false:=J81
 by_cases h7 : l = [43]
 · subst h7
   have e7 : (s.toList == [43]) = true:=J74
   clear hs h0 h1 h2 h3 h4 h5 h6
   exact K179
 have e7 : (s.toList == [43]) = false:=J82
 by_cases h8 : l = [45]
 · subst h8
   have e8 : (s.toList == [45]) = true:=J74
   clear hs h0 h1 h2 h3 h4 h5 h6 h7
   exact K179
 have e8 : (s.toList == [45]) = false:=J83
 by_cases h9 : l = [42]
 · subst h9
   have e9 : (s.toList == [42]) = true:=J74
   clear hs h0 h1 h2 h3 h4 h5 h6 h7 h8
   exact K179
 have e9 : (s.toList == [42]) = false:=J84
 by_cases h10 : l = [47]
 · subst h10
   have e10 : (s.toList == [47]) = true:=J74
   clear hs h0 h1 h2 h3 h4 h5 h6 h7 h8 h9
   exact K179
 have e10 : (s.toList == [47]) = false:=J85
 have HK : Hid (bnd l = 0):=J87
 clear hs h0 h1 h2 h3 h4 h5 h6 h7 h8 h9 h10
 go_enter func62,ntmps62
 go_wp2_with fail
 go_ret
 exact ⟨ret_int (by rw [HK.out];rfl),rfl⟩
theorem rpow8_any (s : ByteArray) (w : World) :
   Calls Tryz.prog 53 #[.string s] w fun e w'=>e = .returned (.int .i64 ((bnd s.data.toList : Nat) : Int)) ∧ w' = w:=by
 have hs:=ByteArray.toList_eq s
 obtain ⟨l,hl⟩ : ∃ l,s.data.toList = l:=⟨_,rfl⟩
 rw [hl] at hs ⊢
 clear hl
 by_cases h0 : l = [61]
 · subst h0
   have e0 : (s.toList == [61]) = true:=J74
   clear hs 
   exact K180
 have e0 : (s.toList == [61]) = false:=J75
 by_cases h1 : l = [60,62]
 · subst h1
   have e1 : (s.toList == [60,62]) = true:=J74
   clear hs h0
   exact K180
 have e1 : (s.toList == [60,62]) = false:=J76
 by_cases h2 : l = [60]
 · subst h2
   have e2 : (s.toList == [60]) = true:=J74
   clear hs h0 h1
   exact K180
 have e2 : (s.toList == [60]) = false:=J77
 by_cases h3 : l = [60,61]
 · subst h3
   have e3 : (s.toList == [60,61]) = true:=J74
   clear hs h0 h1 h2
   exact K180
 have e3 : (s.toList == [60,61]) = false:=J78
 by_cases h4 : l = [62]
 · subst h4
   have e4 : (s.toList == [62]) = true:=J74
   clear hs h0 h1 h2 h3
   exact K180
 have e4 : (s.toList == [62]) = false:=J79
 by_cases h5 : l = [62,61]
 · subst h5
   have e5 : (s.toList == [62,61]) = true:=J74
   clear hs h0 h1 h2 h3 h4
   exact K180
 have e5 : (s.toList == [62,61]) = false:=J80
 by_cases h6 : l = [38]
 · subst h6
   have e6 : (s.toList == [38]) = true:=J74
   clear hs h0 h1 h2 h3 h4 h5
   exact K180
 have e6 : (s.toList == [38]) = false:=J81
 by_cases h7 : l = [43]
 · subst h7
   have e7 : (s.toList == [43]) = true:=J74
   clear hs h0 h1 h2 h3 h4 h5 h6
   exact K180
 have e7 : (s.toList == [43]) = false:=J82
 by_cases h8 : l = [45]
 · subst h8
   have e8 : (s.toList == [45]) = true:=J74
   clear hs h0 h1 h2 h3 h4 h5 h6 h7
   exact K180
 have e8 : (s.toList == [45]) = false:=J83
 by_cases h9 : l = [42]
 · subst h9
   have e9 : (s.toList == [42]) = true:=J74
   clear hs h0 h1 h2 h3 h4 h5 h6 h7 h8
   exact K180
 have e9 : (s.toList == [42]) = false:=J84
 by_cases h10 : l = [47]
 · subst h10
   have e10 : (s.toList == [47]) = true:=J74
   clear hs h0 h1 h2 h3 h4 h5 h6 h7 h8 h9
   exact K180
 have e10 : (s.toList == [47]) = false:=J85
 have HK : Hid (bnd l = 0):=J87
 clear hs h0 h1 h2 h3 h4 h5 h6 h7 h8 h9 h10
 go_enter func53,ntmps53
 go_wp2_with fail
 go_ret
 exact ⟨ret_int (by rw [HK.out];rfl),rfl⟩
theorem Blk.extB {b g : Nat} {w w' : World} {x0 x1 x2 x3 : Value} (h : Blk w g x0 x1 x2 x3) (e : ExtB b w w') (hg : g ≠ b) : Blk w' g x0 x1 x2 x3:=by
 obtain ⟨z,⟨k0,k1,k2,k3⟩,f0,f1,f2,f3⟩:=h
 have k:=fun o=>(e.cell z hg o).1
 have f:=fun o=>(e.cell z hg o).2
 exact ⟨llL z e.size,⟨(k 0).trans k0,(k 1).trans k1,(k 2).trans k2,(k 3).trans k3⟩,(f 0).trans f0,(f 1).trans f1,(f 2).trans f2,(f 3).trans f3⟩
theorem hd_mem {ts : List Tk} (h : 1 ≤ ts.length) : hd ts ∈ ts:=by
 cases ts with
 | nil=>simp at h
 | cons t r=>simp [hd]
end Go.Proofs.YtcfgbiaahangmaaGreatDoor

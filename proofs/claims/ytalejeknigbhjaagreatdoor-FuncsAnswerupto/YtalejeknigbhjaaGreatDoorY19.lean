/-
 The contracts of Known, of package parse and of the document.
 Package funcs: answer, whose deferred closure recovers the panic by which a call fails; Call.
 Package funcs: Call, whatever it is called with.
 Lists in memory of the call's own, of whatever elements: append.
-/
import Derived.Test.YtalejeknigbhjaaGreatDoorY2
import Derived.Test.YtalejeknigbhjaaGreatDoorY10
import Derived.Test.YtalejeknigbhjaaGreatDoorY18
import Derived.Defers
import Derived.Recover
import Derived.Test.YtalejeknigbhjaaGreatDoorProg
import Derived.Test.YtalejeknigbhjaaGreatDoorY1
import Derived.Deep.AppendLies
import Derived.Laws.OwnMore
import Derived.WalkLawsBesides
import Derived.Lib.AppendZeros
namespace Go.Proofs.YtalejeknigbhjaaGreatDoor
open Go.RowKit
set_option maxHeartbeats 1000000

theorem known_any (s : ByteArray) (w : World) :
   Calls Tryz.prog 19 #[.string s] w fun e w' => e = .returned (.tuple #[.int .i64 (knA s.data.toList), .int .i64 (knB s.data.toList), .bool (kno s.data.toList).isSome]) ∧ w' = w := by
 have hs := ByteArray.toList_eq s
 obtain ⟨l, hl⟩ : ∃ l, s.data.toList = l := ⟨_, rfl⟩
 rw [hl] at hs ⊢
 clear hl
 by_cases h0 : l = [83, 85, 77]
 · subst h0
   have e0 : (s.toList == [83, 85, 77]) = true := by rw [hs]; decide
   clear hs 
   go_enter Tryz.func19, Tryz.ntmps19
   go_wp2_with fail
   go_ret3
   exact ⟨rfl, rfl⟩
 have e0 : (s.toList == [83, 85, 77]) = false := by rw [hs]; simpa using h0
 by_cases h1 : l = [67, 79, 85, 78, 84]
 · subst h1
   have e1 : (s.toList == [67, 79, 85, 78, 84]) = true := by rw [hs]; decide
   clear hs h0
   go_enter Tryz.func19, Tryz.ntmps19
   go_wp2_with fail
   go_ret3
   exact ⟨rfl, rfl⟩
 have e1 : (s.toList == [67, 79, 85, 78, 84]) = false := by rw [hs]; simpa using h1
 by_cases h2 : l = [77, 73, 78]
 · subst h2
   have e2 : (s.toList == [77, 73, 78]) = true := by rw [hs]; decide
   clear hs h0 h1
   go_enter Tryz.func19, Tryz.ntmps19
   go_wp2_with fail
   go_ret3
   exact ⟨rfl, rfl⟩
 have e2 : (s.toList == [77, 73, 78]) = false := by rw [hs]; simpa using h2
 by_cases h3 : l = [77, 65, 88]
 · subst h3
   have e3 : (s.toList == [77, 65, 88]) = true := by rw [hs]; decide
   clear hs h0 h1 h2
   go_enter Tryz.func19, Tryz.ntmps19
   go_wp2_with fail
   go_ret3
   exact ⟨rfl, rfl⟩
 have e3 : (s.toList == [77, 65, 88]) = false := by rw [hs]; simpa using h3
 by_cases h4 : l = [65, 86, 69, 82, 65, 71, 69]
 · subst h4
   have e4 : (s.toList == [65, 86, 69, 82, 65, 71, 69]) = true := by rw [hs]; decide
   clear hs h0 h1 h2 h3
   go_enter Tryz.func19, Tryz.ntmps19
   go_wp2_with fail
   go_ret3
   exact ⟨rfl, rfl⟩
 have e4 : (s.toList == [65, 86, 69, 82, 65, 71, 69]) = false := by rw [hs]; simpa using h4
 by_cases h5 : l = [65, 78, 68]
 · subst h5
   have e5 : (s.toList == [65, 78, 68]) = true := by rw [hs]; decide
   clear hs h0 h1 h2 h3 h4
   go_enter Tryz.func19, Tryz.ntmps19
   go_wp2_with fail
   go_ret3
   exact ⟨rfl, rfl⟩
 have e5 : (s.toList == [65, 78, 68]) = false := by rw [hs]; simpa using h5
 by_cases h6 : l = [79, 82]
 · subst h6
   have e6 : (s.toList == [79, 82]) = true := by rw [hs]; decide
   clear hs h0 h1 h2 h3 h4 h5
   go_enter Tryz.func19, Tryz.ntmps19
   go_wp2_with fail
   go_ret3
   exact ⟨rfl, rfl⟩
 have e6 : (s.toList == [79, 82]) = false := by rw [hs]; simpa using h6
 by_cases h7 : l = [67, 79, 78, 67, 65, 84]
 · subst h7
   have e7 : (s.toList == [67, 79, 78, 67, 65, 84]) = true := by rw [hs]; decide
   clear hs h0 h1 h2 h3 h4 h5 h6
   go_enter Tryz.func19, Tryz.ntmps19
   go_wp2_with fail
   go_ret3
   exact ⟨rfl, rfl⟩
 have e7 : (s.toList == [67, 79, 78, 67, 65, 84]) = false := by rw [hs]; simpa using h7
 by_cases h8 : l = [73, 70]
 · subst h8
   have e8 : (s.toList == [73, 70]) = true := by rw [hs]; decide
   clear hs h0 h1 h2 h3 h4 h5 h6 h7
   go_enter Tryz.func19, Tryz.ntmps19
   go_wp2_with fail
   go_ret3
   exact ⟨rfl, rfl⟩
 have e8 : (s.toList == [73, 70]) = false := by rw [hs]; simpa using h8
 by_cases h9 : l = [73, 78, 68, 69, 88]
 · subst h9
   have e9 : (s.toList == [73, 78, 68, 69, 88]) = true := by rw [hs]; decide
   clear hs h0 h1 h2 h3 h4 h5 h6 h7 h8
   go_enter Tryz.func19, Tryz.ntmps19
   go_wp2_with fail
   go_ret3
   exact ⟨rfl, rfl⟩
 have e9 : (s.toList == [73, 78, 68, 69, 88]) = false := by rw [hs]; simpa using h9
 by_cases h10 : l = [82, 79, 85, 78, 68]
 · subst h10
   have e10 : (s.toList == [82, 79, 85, 78, 68]) = true := by rw [hs]; decide
   clear hs h0 h1 h2 h3 h4 h5 h6 h7 h8 h9
   go_enter Tryz.func19, Tryz.ntmps19
   go_wp2_with fail
   go_ret3
   exact ⟨rfl, rfl⟩
 have e10 : (s.toList == [82, 79, 85, 78, 68]) = false := by rw [hs]; simpa using h10
 by_cases h11 : l = [77, 79, 68]
 · subst h11
   have e11 : (s.toList == [77, 79, 68]) = true := by rw [hs]; decide
   clear hs h0 h1 h2 h3 h4 h5 h6 h7 h8 h9 h10
   go_enter Tryz.func19, Tryz.ntmps19
   go_wp2_with fail
   go_ret3
   exact ⟨rfl, rfl⟩
 have e11 : (s.toList == [77, 79, 68]) = false := by rw [hs]; simpa using h11
 by_cases h12 : l = [73, 70, 69, 82, 82, 79, 82]
 · subst h12
   have e12 : (s.toList == [73, 70, 69, 82, 82, 79, 82]) = true := by rw [hs]; decide
   clear hs h0 h1 h2 h3 h4 h5 h6 h7 h8 h9 h10 h11
   go_enter Tryz.func19, Tryz.ntmps19
   go_wp2_with fail
   go_ret3
   exact ⟨rfl, rfl⟩
 have e12 : (s.toList == [73, 70, 69, 82, 82, 79, 82]) = false := by rw [hs]; simpa using h12
 by_cases h13 : l = [76, 69, 70, 84]
 · subst h13
   have e13 : (s.toList == [76, 69, 70, 84]) = true := by rw [hs]; decide
   clear hs h0 h1 h2 h3 h4 h5 h6 h7 h8 h9 h10 h11 h12
   go_enter Tryz.func19, Tryz.ntmps19
   go_wp2_with fail
   go_ret3
   exact ⟨rfl, rfl⟩
 have e13 : (s.toList == [76, 69, 70, 84]) = false := by rw [hs]; simpa using h13
 by_cases h14 : l = [78, 79, 84]
 · subst h14
   have e14 : (s.toList == [78, 79, 84]) = true := by rw [hs]; decide
   clear hs h0 h1 h2 h3 h4 h5 h6 h7 h8 h9 h10 h11 h12 h13
   go_enter Tryz.func19, Tryz.ntmps19
   go_wp2_with fail
   go_ret3
   exact ⟨rfl, rfl⟩
 have e14 : (s.toList == [78, 79, 84]) = false := by rw [hs]; simpa using h14
 by_cases h15 : l = [65, 66, 83]
 · subst h15
   have e15 : (s.toList == [65, 66, 83]) = true := by rw [hs]; decide
   clear hs h0 h1 h2 h3 h4 h5 h6 h7 h8 h9 h10 h11 h12 h13 h14
   go_enter Tryz.func19, Tryz.ntmps19
   go_wp2_with fail
   go_ret3
   exact ⟨rfl, rfl⟩
 have e15 : (s.toList == [65, 66, 83]) = false := by rw [hs]; simpa using h15
 by_cases h16 : l = [70, 76, 79, 79, 82]
 · subst h16
   have e16 : (s.toList == [70, 76, 79, 79, 82]) = true := by rw [hs]; decide
   clear hs h0 h1 h2 h3 h4 h5 h6 h7 h8 h9 h10 h11 h12 h13 h14 h15
   go_enter Tryz.func19, Tryz.ntmps19
   go_wp2_with fail
   go_ret3
   exact ⟨rfl, rfl⟩
 have e16 : (s.toList == [70, 76, 79, 79, 82]) = false := by rw [hs]; simpa using h16
 by_cases h17 : l = [83, 81, 82, 84]
 · subst h17
   have e17 : (s.toList == [83, 81, 82, 84]) = true := by rw [hs]; decide
   clear hs h0 h1 h2 h3 h4 h5 h6 h7 h8 h9 h10 h11 h12 h13 h14 h15 h16
   go_enter Tryz.func19, Tryz.ntmps19
   go_wp2_with fail
   go_ret3
   exact ⟨rfl, rfl⟩
 have e17 : (s.toList == [83, 81, 82, 84]) = false := by rw [hs]; simpa using h17
 by_cases h18 : l = [76, 69, 78]
 · subst h18
   have e18 : (s.toList == [76, 69, 78]) = true := by rw [hs]; decide
   clear hs h0 h1 h2 h3 h4 h5 h6 h7 h8 h9 h10 h11 h12 h13 h14 h15 h16 h17
   go_enter Tryz.func19, Tryz.ntmps19
   go_wp2_with fail
   go_ret3
   exact ⟨rfl, rfl⟩
 have e18 : (s.toList == [76, 69, 78]) = false := by rw [hs]; simpa using h18
 by_cases h19 : l = [73, 83, 69, 82, 82, 79, 82]
 · subst h19
   have e19 : (s.toList == [73, 83, 69, 82, 82, 79, 82]) = true := by rw [hs]; decide
   clear hs h0 h1 h2 h3 h4 h5 h6 h7 h8 h9 h10 h11 h12 h13 h14 h15 h16 h17 h18
   go_enter Tryz.func19, Tryz.ntmps19
   go_wp2_with fail
   go_ret3
   exact ⟨rfl, rfl⟩
 have e19 : (s.toList == [73, 83, 69, 82, 82, 79, 82]) = false := by rw [hs]; simpa using h19
 have HK : Hid (kno l = none) := by show _ = _; simp [kno, kn1, kn2, kn3, kn4, kn5, h0, h1, h2, h3, h4, h5, h6, h7, h8, h9, h10, h11, h12, h13, h14, h15, h16, h17, h18, h19]
 clear hs h0 h1 h2 h3 h4 h5 h6 h7 h8 h9 h10 h11 h12 h13 h14 h15 h16 h17 h18 h19
 go_enter Tryz.func19, Tryz.ntmps19
 go_wp2_with fail
 go_ret3
 unfold knA knB
 rw [HK.out]
 exact ⟨rfl, rfl⟩
theorem rknown_any (s : ByteArray) (w : World) :
   Calls Tryz.prog 23 #[.string s] w fun e w' => e = .returned (.tuple #[.int .i64 (knA s.data.toList), .int .i64 (knB s.data.toList), .bool (kno s.data.toList).isSome]) ∧ w' = w := by
 have hs := ByteArray.toList_eq s
 obtain ⟨l, hl⟩ : ∃ l, s.data.toList = l := ⟨_, rfl⟩
 rw [hl] at hs ⊢
 clear hl
 by_cases h0 : l = [83, 85, 77]
 · subst h0
   have e0 : (s.toList == [83, 85, 77]) = true := by rw [hs]; decide
   clear hs 
   go_enter Tryz.func23, Tryz.ntmps23
   go_wp2_with fail
   go_ret3
   exact ⟨rfl, rfl⟩
 have e0 : (s.toList == [83, 85, 77]) = false := by rw [hs]; simpa using h0
 by_cases h1 : l = [67, 79, 85, 78, 84]
 · subst h1
   have e1 : (s.toList == [67, 79, 85, 78, 84]) = true := by rw [hs]; decide
   clear hs h0
   go_enter Tryz.func23, Tryz.ntmps23
   go_wp2_with fail
   go_ret3
   exact ⟨rfl, rfl⟩
 have e1 : (s.toList == [67, 79, 85, 78, 84]) = false := by rw [hs]; simpa using h1
 by_cases h2 : l = [77, 73, 78]
 · subst h2
   have e2 : (s.toList == [77, 73, 78]) = true := by rw [hs]; decide
   clear hs h0 h1
   go_enter Tryz.func23, Tryz.ntmps23
   go_wp2_with fail
   go_ret3
   exact ⟨rfl, rfl⟩
 have e2 : (s.toList == [77, 73, 78]) = false := by rw [hs]; simpa using h2
 by_cases h3 : l = [77, 65, 88]
 · subst h3
   have e3 : (s.toList == [77, 65, 88]) = true := by rw [hs]; decide
   clear hs h0 h1 h2
   go_enter Tryz.func23, Tryz.ntmps23
   go_wp2_with fail
   go_ret3
   exact ⟨rfl, rfl⟩
 have e3 : (s.toList == [77, 65, 88]) = false := by rw [hs]; simpa using h3
 by_cases h4 : l = [65, 86, 69, 82, 65, 71, 69]
 · subst h4
   have e4 : (s.toList == [65, 86, 69, 82, 65, 71, 69]) = true := by rw [hs]; decide
   clear hs h0 h1 h2 h3
   go_enter Tryz.func23, Tryz.ntmps23
   go_wp2_with fail
   go_ret3
   exact ⟨rfl, rfl⟩
 have e4 : (s.toList == [65, 86, 69, 82, 65, 71, 69]) = false := by rw [hs]; simpa using h4
 by_cases h5 : l = [65, 78, 68]
 · subst h5
   have e5 : (s.toList == [65, 78, 68]) = true := by rw [hs]; decide
   clear hs h0 h1 h2 h3 h4
   go_enter Tryz.func23, Tryz.ntmps23
   go_wp2_with fail
   go_ret3
   exact ⟨rfl, rfl⟩
 have e5 : (s.toList == [65, 78, 68]) = false := by rw [hs]; simpa using h5
 by_cases h6 : l = [79, 82]
 · subst h6
   have e6 : (s.toList == [79, 82]) = true := by rw [hs]; decide
   clear hs h0 h1 h2 h3 h4 h5
   go_enter Tryz.func23, Tryz.ntmps23
   go_wp2_with fail
   go_ret3
   exact ⟨rfl, rfl⟩
 have e6 : (s.toList == [79, 82]) = false := by rw [hs]; simpa using h6
 by_cases h7 : l = [67, 79, 78, 67, 65, 84]
 · subst h7
   have e7 : (s.toList == [67, 79, 78, 67, 65, 84]) = true := by rw [hs]; decide
   clear hs h0 h1 h2 h3 h4 h5 h6
   go_enter Tryz.func23, Tryz.ntmps23
   go_wp2_with fail
   go_ret3
   exact ⟨rfl, rfl⟩
 have e7 : (s.toList == [67, 79, 78, 67, 65, 84]) = false := by rw [hs]; simpa using h7
 by_cases h8 : l = [73, 70]
 · subst h8
   have e8 : (s.toList == [73, 70]) = true := by rw [hs]; decide
   clear hs h0 h1 h2 h3 h4 h5 h6 h7
   go_enter Tryz.func23, Tryz.ntmps23
   go_wp2_with fail
   go_ret3
   exact ⟨rfl, rfl⟩
 have e8 : (s.toList == [73, 70]) = false := by rw [hs]; simpa using h8
 by_cases h9 : l = [73, 78, 68, 69, 88]
 · subst h9
   have e9 : (s.toList == [73, 78, 68, 69, 88]) = true := by rw [hs]; decide
   clear hs h0 h1 h2 h3 h4 h5 h6 h7 h8
   go_enter Tryz.func23, Tryz.ntmps23
   go_wp2_with fail
   go_ret3
   exact ⟨rfl, rfl⟩
 have e9 : (s.toList == [73, 78, 68, 69, 88]) = false := by rw [hs]; simpa using h9
 by_cases h10 : l = [82, 79, 85, 78, 68]
 · subst h10
   have e10 : (s.toList == [82, 79, 85, 78, 68]) = true := by rw [hs]; decide
   clear hs h0 h1 h2 h3 h4 h5 h6 h7 h8 h9
   go_enter Tryz.func23, Tryz.ntmps23
   go_wp2_with fail
   go_ret3
   exact ⟨rfl, rfl⟩
 have e10 : (s.toList == [82, 79, 85, 78, 68]) = false := by rw [hs]; simpa using h10
 by_cases h11 : l = [77, 79, 68]
 · subst h11
   have e11 : (s.toList == [77, 79, 68]) = true := by rw [hs]; decide
   clear hs h0 h1 h2 h3 h4 h5 h6 h7 h8 h9 h10
   go_enter Tryz.func23, Tryz.ntmps23
   go_wp2_with fail
   go_ret3
   exact ⟨rfl, rfl⟩
 have e11 : (s.toList == [77, 79, 68]) = false := by rw [hs]; simpa using h11
 by_cases h12 : l = [73, 70, 69, 82, 82, 79, 82]
 · subst h12
   have e12 : (s.toList == [73, 70, 69, 82, 82, 79, 82]) = true := by rw [hs]; decide
   clear hs h0 h1 h2 h3 h4 h5 h6 h7 h8 h9 h10 h11
   go_enter Tryz.func23, Tryz.ntmps23
   go_wp2_with fail
   go_ret3
   exact ⟨rfl, rfl⟩
 have e12 : (s.toList == [73, 70, 69, 82, 82, 79, 82]) = false := by rw [hs]; simpa using h12
 by_cases h13 : l = [76, 69, 70, 84]
 · subst h13
   have e13 : (s.toList == [76, 69, 70, 84]) = true := by rw [hs]; decide
   clear hs h0 h1 h2 h3 h4 h5 h6 h7 h8 h9 h10 h11 h12
   go_enter Tryz.func23, Tryz.ntmps23
   go_wp2_with fail
   go_ret3
   exact ⟨rfl, rfl⟩
 have e13 : (s.toList == [76, 69, 70, 84]) = false := by rw [hs]; simpa using h13
 by_cases h14 : l = [78, 79, 84]
 · subst h14
   have e14 : (s.toList == [78, 79, 84]) = true := by rw [hs]; decide
   clear hs h0 h1 h2 h3 h4 h5 h6 h7 h8 h9 h10 h11 h12 h13
   go_enter Tryz.func23, Tryz.ntmps23
   go_wp2_with fail
   go_ret3
   exact ⟨rfl, rfl⟩
 have e14 : (s.toList == [78, 79, 84]) = false := by rw [hs]; simpa using h14
 by_cases h15 : l = [65, 66, 83]
 · subst h15
   have e15 : (s.toList == [65, 66, 83]) = true := by rw [hs]; decide
   clear hs h0 h1 h2 h3 h4 h5 h6 h7 h8 h9 h10 h11 h12 h13 h14
   go_enter Tryz.func23, Tryz.ntmps23
   go_wp2_with fail
   go_ret3
   exact ⟨rfl, rfl⟩
 have e15 : (s.toList == [65, 66, 83]) = false := by rw [hs]; simpa using h15
 by_cases h16 : l = [70, 76, 79, 79, 82]
 · subst h16
   have e16 : (s.toList == [70, 76, 79, 79, 82]) = true := by rw [hs]; decide
   clear hs h0 h1 h2 h3 h4 h5 h6 h7 h8 h9 h10 h11 h12 h13 h14 h15
   go_enter Tryz.func23, Tryz.ntmps23
   go_wp2_with fail
   go_ret3
   exact ⟨rfl, rfl⟩
 have e16 : (s.toList == [70, 76, 79, 79, 82]) = false := by rw [hs]; simpa using h16
 by_cases h17 : l = [83, 81, 82, 84]
 · subst h17
   have e17 : (s.toList == [83, 81, 82, 84]) = true := by rw [hs]; decide
   clear hs h0 h1 h2 h3 h4 h5 h6 h7 h8 h9 h10 h11 h12 h13 h14 h15 h16
   go_enter Tryz.func23, Tryz.ntmps23
   go_wp2_with fail
   go_ret3
   exact ⟨rfl, rfl⟩
 have e17 : (s.toList == [83, 81, 82, 84]) = false := by rw [hs]; simpa using h17
 by_cases h18 : l = [76, 69, 78]
 · subst h18
   have e18 : (s.toList == [76, 69, 78]) = true := by rw [hs]; decide
   clear hs h0 h1 h2 h3 h4 h5 h6 h7 h8 h9 h10 h11 h12 h13 h14 h15 h16 h17
   go_enter Tryz.func23, Tryz.ntmps23
   go_wp2_with fail
   go_ret3
   exact ⟨rfl, rfl⟩
 have e18 : (s.toList == [76, 69, 78]) = false := by rw [hs]; simpa using h18
 by_cases h19 : l = [73, 83, 69, 82, 82, 79, 82]
 · subst h19
   have e19 : (s.toList == [73, 83, 69, 82, 82, 79, 82]) = true := by rw [hs]; decide
   clear hs h0 h1 h2 h3 h4 h5 h6 h7 h8 h9 h10 h11 h12 h13 h14 h15 h16 h17 h18
   go_enter Tryz.func23, Tryz.ntmps23
   go_wp2_with fail
   go_ret3
   exact ⟨rfl, rfl⟩
 have e19 : (s.toList == [73, 83, 69, 82, 82, 79, 82]) = false := by rw [hs]; simpa using h19
 have HK : Hid (kno l = none) := by show _ = _; simp [kno, kn1, kn2, kn3, kn4, kn5, h0, h1, h2, h3, h4, h5, h6, h7, h8, h9, h10, h11, h12, h13, h14, h15, h16, h17, h18, h19]
 clear hs h0 h1 h2 h3 h4 h5 h6 h7 h8 h9 h10 h11 h12 h13 h14 h15 h16 h17 h18 h19
 go_enter Tryz.func23, Tryz.ntmps23
 go_wp2_with fail
 go_ret3
 unfold knA knB
 rw [HK.out]
 exact ⟨rfl, rfl⟩

open Go.RowKit
set_option maxHeartbeats 1000000

theorem xcatch_idle (p : Addr) (w : World) :
   CallsD Tryz.prog 36 #[.pointer (some p)] .returning w fun e u' w' => e = .returned (.tuple #[]) ∧ u' = .returning ∧ w' = w := by
 refine callsD_of_wpS Tryz.func36 rfl fun c₀ cs hu => ?_
 apply wpS_seq
 apply wpS_region
 simp [wpOpsS, go_sem, recoverD, hu, Tryz.ntmps36, Exit.thenS]
 refine wpS_of_wp ?_
 simp only [Array.replicate_succ, Array.replicate_zero, List.push_toArray, List.append_toArray, List.nil_append, List.cons_append, List.setIfInBounds_toArray, List.set_cons_zero, List.set_cons_succ]
 go_wp2
 cases c₀
 simp_all [bodyPostS, results, Tryz.results36]
theorem xassert (x : Int) (W : World) : (Instr.typeAssert (.iface 54 (.int .i64 x)) 20 54 false).run Tryz.prog W = .ok (.int .i64 x) W := by kernel_rfl
/-- A panic that tells an error: that is the answer. -/
theorem xcatch_fault (b : Nat) (x : Int) (w0 w : World) (hE : Ext w0 w) (hb : w0.heap.size ≤ b) (B : Blk w b (.int .i64 0) (.int .i64 0) (.string ⟨#[]⟩) (.int .i64 0)) (hN : Nm w) :
   CallsD Tryz.prog 36 #[.pointer (some ⟨b, 0, none⟩)] (.panicking [{ v := .iface 54 (.int .i64 x), recovered := false }]) w fun e u' w' => e = .returned (.tuple #[]) ∧ u' = .panicking [{ v := .iface 54 (.int .i64 x), recovered := true }] ∧ Ext w0 w' ∧ Blk w' b (.int .i64 (mkErr x).k) (.int .i64 (mkErr x).n) (.string (mkErr x).s) (.int .i64 (mkErr x).e) := by
 have HE : Hid (Ext w0 w ∧ w0.heap.size ≤ b ∧ Nm w ∧ Blk w b (.int .i64 0) (.int .i64 0) (.string ⟨#[]⟩) (.int .i64 0)) := ⟨hE, hb, hN, B⟩
 have c0 := fun W h => err_any x W h
 rw [dat_eq] at c0
 generalize mkErr x = v at *
 clear hE hb hN B
 have hta := xassert x
 refine callsD_of_wpS Tryz.func36 rfl fun c₀ cs hu => ?_
 apply wpS_seq
 apply wpS_region
 simp [wpOpsS, go_sem, recoverD, hu, Tryz.ntmps36, Exit.thenS]
 refine wpS_of_wp ?_
 simp only [Array.replicate_succ, Array.replicate_zero, List.push_toArray, List.append_toArray, List.nil_append, List.cons_append, List.setIfInBounds_toArray, List.set_cons_zero, List.set_cons_succ]
 go_wp2_with fail
 refine (c0 _ HE.out.2.2.1).mono ?_
 rintro e w1 ⟨rfl, E1⟩
 have HB : Hid (Blk w1 b (.int .i64 0) (.int .i64 0) (.string ⟨#[]⟩) (.int .i64 0) ∧ Ext w0 w1) := ⟨HE.out.2.2.2.ext E1, HE.out.1.trans E1⟩
 clear E1
 obtain ⟨z, ⟨b0, b1, b2, b3⟩, f0, f1, f2, f3⟩ := HB.out.1
 go_wp2_with fail
 exact ⟨rfl, _, rfl, .tuple #[], results_none rfl _ _ _, rfl, rfl, (((HB.out.2.setCell HE.out.2.1 _).setCell HE.out.2.1 _).setCell HE.out.2.1 _).setCell HE.out.2.1 _, HB.out.1.set _ _ _ _⟩

/-- The answer's fields. -/
def ansW : R Rw → Rw
 | .ok r => r
 | .error x => (mkErr x).rw
theorem xanswer_any (s : ByteArray) (p : Option Addr) (n c : Nat) (W : World) (hN : Nm W) (r : R Rw)
   (hC : ∀ W', Ext W W' → Calls Tryz.prog 37 #[.slice p n c, .string s] W' fun e w' => RzQ Rw.dat r e ∧ Ext W' w') :
   Calls Tryz.prog 22 #[.string s, .slice p n c] W fun e w' => e = .returned (ansW r).dat ∧ Ext W w' := by
 have hmf : ∀ (fn : Fn) (first cap : Array Value) (w : World), (Instr.makeFunc fn first cap).run Tryz.prog w = .ok (.func fn first cap) w := fun _ _ _ _ => rfl
 have HN : Hid (Nm W) := hN
 clear hN
 cases r with
 | error x =>
   have C : ∀ W', Ext W W' → Calls Tryz.prog 37 #[.slice p n c, .string s] W' fun e w' => e = pan x ∧ Ext W' w' := hC
   clear hC
   go_enter_defers Tryz.func22, Tryz.ntmps22
   go_wp2_with fail
   refine (C _ ((Ext.refl _).alloc _)).mono ?_
   rintro e w1 ⟨rfl, E1⟩
   have B1 := blk_top (b := W.heap.size) (by simp) E1
   have X1 : Ext W w1 := ((Ext.refl _).alloc _).trans E1
   refine leaves_cons (f := 36) (args := #[.pointer (some ⟨W.heap.size, 0, none⟩)]) (by simp) (by simp [go_sem]) ?_
   refine (xcatch_fault W.heap.size x W w1 X1 (Nat.le_refl _) B1 (HN.out.ext X1)).mono ?_
   rintro e u' w2 ⟨rfl, rfl, E2, B2⟩
   obtain ⟨z, ⟨d0, d1, d2, d3⟩, _⟩ := B2
   simp [Leaves, settle, results, Tryz.results22, go_sem, d0, d1, d2, d3]
   exact ⟨rfl, E2⟩
 | ok q =>
   have C : ∀ W', Ext W W' → Calls Tryz.prog 37 #[.slice p n c, .string s] W' fun e w' => e = .returned (.agg #[.int .i64 q.k, .int .i64 q.n, .string q.s, .int .i64 q.e]) ∧ Ext W' w' := hC
   clear hC
   go_enter_defers Tryz.func22, Tryz.ntmps22
   go_wp2_with fail
   refine (C _ ((Ext.refl _).alloc _)).mono ?_
   rintro e w1 ⟨rfl, E1⟩
   have B1 : Hid (Blk w1 W.heap.size (.int .i64 0) (.int .i64 0) (.string ⟨#[]⟩) (.int .i64 0) ∧ Ext W w1) := ⟨blk_top (by simp) E1, ((Ext.refl _).alloc _).trans E1⟩
   clear E1
   obtain ⟨z, ⟨b0, b1, b2, b3⟩, f0, f1, f2, f3⟩ := B1.out.1
   go_wp2_with fail
   have X2 : Ext W ((((w1.setCell ⟨W.heap.size, 0, none⟩ (.int .i64 q.k)).setCell ⟨W.heap.size, 1, none⟩ (.int .i64 q.n)).setCell ⟨W.heap.size, 2, none⟩ (.string q.s)).setCell ⟨W.heap.size, 3, none⟩ (.int .i64 q.e)) := (((B1.out.2.setCell (Nat.le_refl _) _).setCell (Nat.le_refl _) _).setCell (Nat.le_refl _) _).setCell (Nat.le_refl _) _
   have B2 := B1.out.1.set (.int .i64 q.k) (.int .i64 q.n) (.string q.s) (.int .i64 q.e)
   generalize (((w1.setCell ⟨W.heap.size, 0, none⟩ (.int .i64 q.k)).setCell ⟨W.heap.size, 1, none⟩ (.int .i64 q.n)).setCell ⟨W.heap.size, 2, none⟩ (.string q.s)).setCell ⟨W.heap.size, 3, none⟩ (.int .i64 q.e) = w2 at *
   refine leaves_cons (f := 36) (args := #[.pointer (some ⟨W.heap.size, 0, none⟩)]) (by simp) (by simp [go_sem]) ?_
   refine (xcatch_idle ⟨W.heap.size, 0, none⟩ w2).mono ?_
   rintro e u' w3 ⟨rfl, rfl, rfl⟩
   obtain ⟨z', ⟨d0, d1, d2, d3⟩, _⟩ := B2
   simp [Leaves, settle, results, Tryz.results22, go_sem, d0, d1, d2, d3]
   exact ⟨rfl, X2⟩

open Go.RowKit
set_option maxHeartbeats 1000000

theorem okN_is {q : List UInt8} {n : Nat} (h : okN q n = true) : (kno q).isSome = true ∧ knA q ≤ n ∧ (n : Int) ≤ knB q := by
 unfold okN at h
 simp at h
 exact ⟨h.1.1, h.1.2, h.2⟩
theorem at_some {l : List Bg} {i : Nat} (h : i < l.length) : ∃ a, l[i]? = some a := ⟨_, List.getElem?_eq_getElem h⟩
theorem xdisp (s : ByteArray) (q : List UInt8) (hq : s.data.toList = q) (l : List Bg) (hk : okN q l.length = true) (p : Option Addr) (n c : Nat) (W : World) (hR : Rdy W (.slice p n c) l) :
   ∀ W', Ext W W' → Calls Tryz.prog 37 #[.slice p n c, .string s] W' fun e w' => RzQ Rw.dat (xCall q l) e ∧ Ext W' w' := by
 intro W' e
 have hR' := hR.ext e
 obtain ⟨k1, k2, k3⟩ := okN_is hk
 by_cases e0 : q = [83, 85, 77]
 · subst e0
   exact xc_SUM s hq l p n c W' hR'
 by_cases e1 : q = [67, 79, 85, 78, 84]
 · subst e1
   exact xc_COUNT s hq l p n c W' hR'
 by_cases e2 : q = [77, 73, 78]
 · subst e2
   exact xc_MIN s hq l p n c W' hR'
 by_cases e3 : q = [77, 65, 88]
 · subst e3
   exact xc_MAX s hq l p n c W' hR'
 by_cases e4 : q = [65, 86, 69, 82, 65, 71, 69]
 · subst e4
   exact xc_AVERAGE s hq l p n c W' hR'
 by_cases e5 : q = [65, 78, 68]
 · subst e5
   exact xc_AND s hq l p n c W' hR'
 by_cases e6 : q = [79, 82]
 · subst e6
   exact xc_OR s hq l p n c W' hR'
 by_cases e7 : q = [67, 79, 78, 67, 65, 84]
 · subst e7
   exact xc_CONCAT s hq l p n c W' hR'
 by_cases e8 : q = [73, 70]
 · subst e8
   have hk2 : knA [73, 70] = 2 := rfl
   rw [hk2] at k2
   obtain ⟨a0, h0⟩ := at_some (l := l) (i := 0) (by omega)
   obtain ⟨a1, h1⟩ := at_some (l := l) (i := 1) (by omega)
   exact xc_IF s hq l a0 h0 a1 h1 p n c W' hR'
 by_cases e9 : q = [78, 79, 84]
 · subst e9
   have hk2 : knA [78, 79, 84] = 1 := rfl
   rw [hk2] at k2
   obtain ⟨a0, h0⟩ := at_some (l := l) (i := 0) (by omega)
   exact xc_NOT s hq l a0 h0 p n c W' hR'
 by_cases e10 : q = [65, 66, 83]
 · subst e10
   have hk2 : knA [65, 66, 83] = 1 := rfl
   rw [hk2] at k2
   obtain ⟨a0, h0⟩ := at_some (l := l) (i := 0) (by omega)
   exact xc_ABS s hq l a0 h0 p n c W' hR'
 by_cases e11 : q = [82, 79, 85, 78, 68]
 · subst e11
   have hk2 : knA [82, 79, 85, 78, 68] = 2 := rfl
   rw [hk2] at k2
   obtain ⟨a0, h0⟩ := at_some (l := l) (i := 0) (by omega)
   obtain ⟨a1, h1⟩ := at_some (l := l) (i := 1) (by omega)
   exact xc_ROUND s hq l a0 h0 a1 h1 p n c W' hR'
 by_cases e12 : q = [77, 79, 68]
 · subst e12
   have hk2 : knA [77, 79, 68] = 2 := rfl
   rw [hk2] at k2
   obtain ⟨a0, h0⟩ := at_some (l := l) (i := 0) (by omega)
   obtain ⟨a1, h1⟩ := at_some (l := l) (i := 1) (by omega)
   exact xc_MOD s hq l a0 h0 a1 h1 p n c W' hR'
 by_cases e13 : q = [70, 76, 79, 79, 82]
 · subst e13
   have hk2 : knA [70, 76, 79, 79, 82] = 1 := rfl
   rw [hk2] at k2
   obtain ⟨a0, h0⟩ := at_some (l := l) (i := 0) (by omega)
   exact xc_FLOOR s hq l a0 h0 p n c W' hR'
 by_cases e14 : q = [83, 81, 82, 84]
 · subst e14
   have hk2 : knA [83, 81, 82, 84] = 1 := rfl
   rw [hk2] at k2
   obtain ⟨a0, h0⟩ := at_some (l := l) (i := 0) (by omega)
   exact xc_SQRT s hq l a0 h0 p n c W' hR'
 by_cases e15 : q = [76, 69, 78]
 · subst e15
   have hk2 : knA [76, 69, 78] = 1 := rfl
   rw [hk2] at k2
   obtain ⟨a0, h0⟩ := at_some (l := l) (i := 0) (by omega)
   exact xc_LEN s hq l a0 h0 p n c W' hR'
 by_cases e16 : q = [76, 69, 70, 84]
 · subst e16
   have hk2 : knA [76, 69, 70, 84] = 1 := rfl
   rw [hk2] at k2
   obtain ⟨a0, h0⟩ := at_some (l := l) (i := 0) (by omega)
   exact xc_LEFT s hq l a0 h0 p n c W' hR'
 by_cases e17 : q = [73, 78, 68, 69, 88]
 · subst e17
   have hk2 : knA [73, 78, 68, 69, 88] = 2 := rfl
   rw [hk2] at k2
   obtain ⟨a0, h0⟩ := at_some (l := l) (i := 0) (by omega)
   obtain ⟨a1, h1⟩ := at_some (l := l) (i := 1) (by omega)
   exact xc_INDEX s hq l a0 h0 a1 h1 p n c W' hR'
 by_cases e18 : q = [73, 83, 69, 82, 82, 79, 82]
 · subst e18
   have hk2 : knA [73, 83, 69, 82, 82, 79, 82] = 1 := rfl
   rw [hk2] at k2
   obtain ⟨a0, h0⟩ := at_some (l := l) (i := 0) (by omega)
   exact xc_ISERROR s hq l a0 h0 p n c W' hR'
 by_cases e19 : q = [73, 70, 69, 82, 82, 79, 82]
 · subst e19
   have hk2 : knA [73, 70, 69, 82, 82, 79, 82] = 2 := rfl
   rw [hk2] at k2
   obtain ⟨a0, h0⟩ := at_some (l := l) (i := 0) (by omega)
   obtain ⟨a1, h1⟩ := at_some (l := l) (i := 1) (by omega)
   exact xc_IFERROR s hq l a0 h0 a1 h1 p n c W' hR'
 exact absurd k1 (by simp [kno, kn1, kn2, kn3, kn4, kn5, e0, e1, e2, e3, e4, e5, e6, e7, e8, e9, e10, e11, e12, e13, e14, e15, e16, e17, e18, e19])
theorem ansW_v (r : R Rw) : nm (ansW r).k (ansW r).n (ansW r).s (ansW r).e = ansV r := by
 cases r with
 | ok q => rfl
 | error x => exact (nm_of (mkErr x) (mkErr_ok x)).1
theorem fnV_no {q : List UInt8} {l : List Bg} (h : okN q l.length = false) : fnV q l = .err 2 := by unfold fnV; rw [h]; rfl
theorem fnV_ok {q : List UInt8} {l : List Bg} (h : okN q l.length = true) : fnV q l = ansV (xCall q l) := by unfold fnV; rw [h]; rfl
set_option maxRecDepth 100000 in
theorem xcall_any (s : ByteArray) (l : List Bg) (p : Option Addr) (n c : Nat) (W : World) (hR : Rdy W (.slice p n c) l) :
   Calls Tryz.prog 10 #[.string s, .slice p n c] W fun e w' => e = .returned (fnV s.data.toList l).dat ∧ Ext W w' := by
 have c0 := fun W => known_any s W
 have cE := fun W h => err_any 2 W h
 rw [mkErr_is ⟨by decide, by decide⟩] at cE
 simp only [V.dat] at cE
 have hn := hR.f.rd.len
 have hz := hR.f.z
 have nI : (n : Int) ≤ 1500000 := by omega
 have HN : Hid (Nm W) := hR.n
 obtain ⟨q, hq⟩ : ∃ q, s.data.toList = q := ⟨_, rfl⟩
 rw [hq] at c0 ⊢
 cases hok : okN q l.length with
 | true =>
   obtain ⟨t1, t2, t3⟩ := okN_is hok
   have cA : ∀ W', Ext W W' → Calls Tryz.prog 22 #[.string s, .slice p n c] W' fun e w' => e = .returned (ansW (xCall q l)).dat ∧ Ext W' w' := fun W' e =>
     xanswer_any s p n c W' (hR.n.ext e) (xCall q l) (fun W'' e' => xdisp s q hq l hok p n c W' (hR.ext e) W'' e')
   rw [fnV_ok hok, ← ansW_v]
   generalize ansW (xCall q l) = r at *
   have cA' : ∀ W', Ext W W' → Calls Tryz.prog 22 #[.string s, .slice p n c] W' fun e w' => e = .returned (.agg #[.int .i64 r.k, .int .i64 r.n, .string r.s, .int .i64 r.e]) ∧ Ext W' w' := cA
   have cN := fun W h => vnormal_any r.k r.n r.s r.e W h
   rw [dat_eq] at cN ⊢
   generalize nm r.k r.n r.s r.e = v at *
   rw [t1] at c0
   have d2 : ¬ (n : Int) < knA q := by omega
   have d3 : ¬ (n : Int) > knB q := by omega
   generalize knA q = ka at *
   generalize knB q = kb at *
   clear cA cE hR hok t1 t2 t3 hq hn hz
   go_enter Tryz.func10, Tryz.ntmps10
   go_wp2_with fail
   refine (c0 _).mono ?_
   rintro e w1 ⟨rfl, rfl⟩
   go_wp2_with fail
   refine (cA' _ ((Ext.refl _).alloc _)).mono ?_
   rintro e w2 ⟨rfl, E2⟩
   have B2 : Hid (Blk w2 W.heap.size (.int .i64 0) (.int .i64 0) (.string ⟨#[]⟩) (.int .i64 0) ∧ Ext W w2) := ⟨blk_top (by simp) E2, ((Ext.refl _).alloc _).trans E2⟩
   clear E2
   go_wp2_with fail
   refine (cN _ (HN.out.ext B2.out.2)).mono ?_
   rintro e w3 ⟨rfl, E3⟩
   have B3 : Hid (Blk w3 W.heap.size (.int .i64 0) (.int .i64 0) (.string ⟨#[]⟩) (.int .i64 0) ∧ Ext W w3) := ⟨B2.out.1.ext E3, B2.out.2.trans E3⟩
   clear E3
   obtain ⟨z, ⟨b0, b1, b2, b3⟩, f0, f1, f2, f3⟩ := B3.out.1
   go_wp2_with fail
   exact fin4 b0 b1 b2 b3 rfl (by simp) B3.out.2 (fun W g0 g1 g2 g3 => by simp [results, Tryz.results10, go_sem, g0, g1, g2, g3]) (fun W h => ⟨rfl, h⟩)
 | false =>
   rw [fnV_no hok]
   have hbad : (kno q).isSome = false ∨ ((kno q).isSome = true ∧ (n : Int) < knA q) ∨ ((kno q).isSome = true ∧ ¬ (n : Int) < knA q ∧ (n : Int) > knB q) := by
     cases h1 : (kno q).isSome
     · exact .inl rfl
     · unfold okN at hok
       rw [h1] at hok
       simp at hok
       by_cases h2 : (n : Int) < knA q
       · exact .inr (.inl ⟨rfl, h2⟩)
       · have := hok (by omega)
         exact .inr (.inr ⟨rfl, h2, by omega⟩)
   generalize knA q = ka at *
   generalize knB q = kb at *
   generalize (kno q).isSome = kb0 at *
   clear hR hok hq hn hz
   rcases hbad with rfl | ⟨rfl, d2⟩ | ⟨rfl, d2, d3⟩
   all_goals
     go_enter Tryz.func10, Tryz.ntmps10
     go_wp2_with fail
     refine (c0 _).mono ?_
     rintro e w1 ⟨rfl, rfl⟩
     go_wp2_with fail
     refine (cE _ (HN.out.ext ((Ext.refl _).alloc _))).mono ?_
     rintro e w2 ⟨rfl, E2⟩
     have B2 : Hid (Blk w2 W.heap.size (.int .i64 0) (.int .i64 0) (.string ⟨#[]⟩) (.int .i64 0) ∧ Ext W w2) := ⟨blk_top (by simp) E2, ((Ext.refl _).alloc _).trans E2⟩
     clear E2
     obtain ⟨z, ⟨b0, b1, b2, b3⟩, f0, f1, f2, f3⟩ := B2.out.1
     go_wp2_with fail
     exact fin4 b0 b1 b2 b3 rfl (by simp) B2.out.2 (fun W g0 g1 g2 g3 => by simp [results, Tryz.results10, go_sem, g0, g1, g2, g3]) (fun W h => ⟨rfl, h⟩)

open Go.RowKit
set_option maxHeartbeats 1000000

/-- What the program says of an element's type. -/
structure Elt (TS T : TypeId) (k bytes : Nat) : Prop where
 u : Tryz.prog.underlying TS = some (.slice T)
 i : ∃ i z, Tryz.prog.info? T = some i ∧ i.zero = some z ∧ i.size = k ∧ i.bytes = bytes ∧ z.cells.size = k
 k0 : 0 < k
theorem ownsRow_ext {w w' : World} {base : Nat} {T : TypeId} {k n : Nat} {v : Value} {xs : List Value} (h : w.ownsRow base T k v n xs) (e : Ext w w') : w'.ownsRow base T k v n xs := by
 refine ⟨h.1, ?_⟩
 rcases h.2 with h | ⟨g, cap, cur, h1, h2, h3, h4⟩
 · exact .inl h
 · exact .inr ⟨g, cap, cur, h1, h2, (e.block g (Array.getElem?_eq_some_iff.1 h3).1).trans h3, h4⟩
theorem ownsRow_mono {w : World} {base base' : Nat} {T : TypeId} {k n : Nat} {v : Value} {xs : List Value} (h : w.ownsRow base T k v n xs) (e : base' ≤ base) : w.ownsRow base' T k v n xs := by
 refine ⟨h.1, ?_⟩
 rcases h.2 with h | ⟨g, cap, cur, h1, h2, h3⟩
 · exact .inl h
 · exact .inr ⟨g, cap, cur, h1, Nat.le_trans e h2, h3⟩
theorem ext_grownG {w W W' : World} {base : Nat} {T : TypeId} {k n : Nat} {v : Value} {xs : List Value} (hB : W.ownsRow base T k v n xs) (hb : w.heap.size ≤ base) (hE : Ext w W) (hg : W.grownBy W' v.ownBlock) : Ext w W' := by
 refine ⟨hg.os.trans hE.os, hg.tape.trans hE.tape, hg.output.trans hE.output, Nat.le_trans hE.size hg.size, fun q hq => ?_⟩
 refine (hg.block q (Nat.lt_of_lt_of_le hq hE.size) ?_).trans (hE.block q hq)
 intro e
 have := (hB.lt q e.symm).1
 omega
/-- A slice that is read: these cells lie in a row. -/
def RowC (W : World) (v : Value) (m : Nat) (k : Nat) (news : List Value) : Prop := news.length = m * k ∧ ∃ p c, v = .slice p m c ∧ ((p = none ∧ m = 0) ∨ ∃ ad, p = some ad ∧ ∀ j u, news[j]? = some u → W.cell? (ad.add j) = some u)
theorem run_append_noneG {TS T : TypeId} {k bytes : Nat} (hT : Elt TS T k bytes) (w : World) (ty : TypeId) (p : Option Addr) (n cap c : Nat) (h : n ≤ cap) :
   (Builtin.append_ #[TS, TS] ty #[.slice p n cap, .slice none 0 c]).run Tryz.prog w = .ok (.slice p n cap) w := by
 obtain ⟨i, z, hi, hz, h1, h2, h3⟩ := hT.i
 cases p with
 | none => simp [Builtin.append_, run_underlying hT.u, sizeOf, typeInfo, hi, Builtin.lenOf, Builtin.firstCells, h]
 | some a => simp [Builtin.append_, run_underlying hT.u, sizeOf, typeInfo, hi, Builtin.lenOf, Builtin.firstCells, loadCells, h, storeCells]
theorem own_form {W : World} {base : Nat} {T : TypeId} {k n : Nat} {v : Value} {xs : List Value} (h : W.ownsRow base T k v n xs) : ∃ p c, v = .slice p n c ∧ n ≤ c := by
 rcases h.2 with ⟨h, h0⟩ | ⟨g, cap, cur, h, _, _, h4, _⟩
 · exact ⟨none, 0, by rw [h, h0], by omega⟩
 · exact ⟨_, _, h, h4⟩
/-- A literal without elements. -/
theorem own_new {T : TypeId} {k : Nat} (w W : World) (h : w.heap.size ≤ W.heap.size) : (W.alloc (.cells #[] T)).ownsRow w.heap.size T k (.slice (some ⟨W.heap.size, 0, none⟩) 0 0) 0 [] :=
 ⟨by simp, .inr ⟨W.heap.size, 0, #[], rfl, h, by show (W.heap.push _)[W.heap.size]? = _; rw [Array.getElem?_push_size], Nat.le_refl _, by simp, by simp, by simp⟩⟩
end Go.Proofs.YtalejeknigbhjaaGreatDoor

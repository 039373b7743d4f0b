/-
  The contracts of Known and binds (Power), of package parse and of the document.
-/
import Derived.Test.YtmapfpeaaipdoaaGreatDoorQ13
import Derived.Test.YtmapfpeaaipdoaaGreatDoorQ11
namespace Go.Proofs.YtmapfpeaaipdoaaGreatDoor
open Go.RowKit
set_option maxHeartbeats 1000000

theorem known_any (s : ByteArray) (w : World) :
    Calls Tryz.prog 18 #[.string s] w fun e w' => e = .returned (.tuple #[.int .i64 (knA s.data.toList), .int .i64 (knB s.data.toList), .bool (kno s.data.toList).isSome]) ∧ w' = w := by
  have hs := ByteArray.toList_eq s
  obtain ⟨l, hl⟩ : ∃ l, s.data.toList = l := ⟨_, rfl⟩
  rw [hl] at hs ⊢
  clear hl
  by_cases h0 : l = [83, 85, 77]
  · subst h0
    have e0 : (s.toList == [83, 85, 77]) = true := by rw [hs]; decide
    clear hs 
    go_enter Tryz.func18, Tryz.ntmps18
    go_wp2_with fail
    go_ret3
    exact ⟨rfl, rfl⟩
  by_cases h1 : l = [67, 79, 85, 78, 84]
  · subst h1
    have e0 : (s.toList == [83, 85, 77]) = false := by rw [hs]; decide
    have e1 : (s.toList == [67, 79, 85, 78, 84]) = true := by rw [hs]; decide
    clear hs h0
    go_enter Tryz.func18, Tryz.ntmps18
    go_wp2_with fail
    go_ret3
    exact ⟨rfl, rfl⟩
  by_cases h2 : l = [77, 73, 78]
  · subst h2
    have e0 : (s.toList == [83, 85, 77]) = false := by rw [hs]; decide
    have e1 : (s.toList == [67, 79, 85, 78, 84]) = false := by rw [hs]; decide
    have e2 : (s.toList == [77, 73, 78]) = true := by rw [hs]; decide
    clear hs h0 h1
    go_enter Tryz.func18, Tryz.ntmps18
    go_wp2_with fail
    go_ret3
    exact ⟨rfl, rfl⟩
  by_cases h3 : l = [77, 65, 88]
  · subst h3
    have e0 : (s.toList == [83, 85, 77]) = false := by rw [hs]; decide
    have e1 : (s.toList == [67, 79, 85, 78, 84]) = false := by rw [hs]; decide
    have e2 : (s.toList == [77, 73, 78]) = false := by rw [hs]; decide
    have e3 : (s.toList == [77, 65, 88]) = true := by rw [hs]; decide
    clear hs h0 h1 h2
    go_enter Tryz.func18, Tryz.ntmps18
    go_wp2_with fail
    go_ret3
    exact ⟨rfl, rfl⟩
  by_cases h4 : l = [65, 86, 69, 82, 65, 71, 69]
  · subst h4
    have e0 : (s.toList == [83, 85, 77]) = false := by rw [hs]; decide
    have e1 : (s.toList == [67, 79, 85, 78, 84]) = false := by rw [hs]; decide
    have e2 : (s.toList == [77, 73, 78]) = false := by rw [hs]; decide
    have e3 : (s.toList == [77, 65, 88]) = false := by rw [hs]; decide
    have e4 : (s.toList == [65, 86, 69, 82, 65, 71, 69]) = true := by rw [hs]; decide
    clear hs h0 h1 h2 h3
    go_enter Tryz.func18, Tryz.ntmps18
    go_wp2_with fail
    go_ret3
    exact ⟨rfl, rfl⟩
  by_cases h5 : l = [65, 78, 68]
  · subst h5
    have e0 : (s.toList == [83, 85, 77]) = false := by rw [hs]; decide
    have e1 : (s.toList == [67, 79, 85, 78, 84]) = false := by rw [hs]; decide
    have e2 : (s.toList == [77, 73, 78]) = false := by rw [hs]; decide
    have e3 : (s.toList == [77, 65, 88]) = false := by rw [hs]; decide
    have e4 : (s.toList == [65, 86, 69, 82, 65, 71, 69]) = false := by rw [hs]; decide
    have e5 : (s.toList == [65, 78, 68]) = true := by rw [hs]; decide
    clear hs h0 h1 h2 h3 h4
    go_enter Tryz.func18, Tryz.ntmps18
    go_wp2_with fail
    go_ret3
    exact ⟨rfl, rfl⟩
  by_cases h6 : l = [79, 82]
  · subst h6
    have e0 : (s.toList == [83, 85, 77]) = false := by rw [hs]; decide
    have e1 : (s.toList == [67, 79, 85, 78, 84]) = false := by rw [hs]; decide
    have e2 : (s.toList == [77, 73, 78]) = false := by rw [hs]; decide
    have e3 : (s.toList == [77, 65, 88]) = false := by rw [hs]; decide
    have e4 : (s.toList == [65, 86, 69, 82, 65, 71, 69]) = false := by rw [hs]; decide
    have e5 : (s.toList == [65, 78, 68]) = false := by rw [hs]; decide
    have e6 : (s.toList == [79, 82]) = true := by rw [hs]; decide
    clear hs h0 h1 h2 h3 h4 h5
    go_enter Tryz.func18, Tryz.ntmps18
    go_wp2_with fail
    go_ret3
    exact ⟨rfl, rfl⟩
  by_cases h7 : l = [67, 79, 78, 67, 65, 84]
  · subst h7
    have e0 : (s.toList == [83, 85, 77]) = false := by rw [hs]; decide
    have e1 : (s.toList == [67, 79, 85, 78, 84]) = false := by rw [hs]; decide
    have e2 : (s.toList == [77, 73, 78]) = false := by rw [hs]; decide
    have e3 : (s.toList == [77, 65, 88]) = false := by rw [hs]; decide
    have e4 : (s.toList == [65, 86, 69, 82, 65, 71, 69]) = false := by rw [hs]; decide
    have e5 : (s.toList == [65, 78, 68]) = false := by rw [hs]; decide
    have e6 : (s.toList == [79, 82]) = false := by rw [hs]; decide
    have e7 : (s.toList == [67, 79, 78, 67, 65, 84]) = true := by rw [hs]; decide
    clear hs h0 h1 h2 h3 h4 h5 h6
    go_enter Tryz.func18, Tryz.ntmps18
    go_wp2_with fail
    go_ret3
    exact ⟨rfl, rfl⟩
  by_cases h8 : l = [73, 70]
  · subst h8
    have e0 : (s.toList == [83, 85, 77]) = false := by rw [hs]; decide
    have e1 : (s.toList == [67, 79, 85, 78, 84]) = false := by rw [hs]; decide
    have e2 : (s.toList == [77, 73, 78]) = false := by rw [hs]; decide
    have e3 : (s.toList == [77, 65, 88]) = false := by rw [hs]; decide
    have e4 : (s.toList == [65, 86, 69, 82, 65, 71, 69]) = false := by rw [hs]; decide
    have e5 : (s.toList == [65, 78, 68]) = false := by rw [hs]; decide
    have e6 : (s.toList == [79, 82]) = false := by rw [hs]; decide
    have e7 : (s.toList == [67, 79, 78, 67, 65, 84]) = false := by rw [hs]; decide
    have e8 : (s.toList == [73, 70]) = true := by rw [hs]; decide
    clear hs h0 h1 h2 h3 h4 h5 h6 h7
    go_enter Tryz.func18, Tryz.ntmps18
    go_wp2_with fail
    go_ret3
    exact ⟨rfl, rfl⟩
  by_cases h9 : l = [73, 78, 68, 69, 88]
  · subst h9
    have e0 : (s.toList == [83, 85, 77]) = false := by rw [hs]; decide
    have e1 : (s.toList == [67, 79, 85, 78, 84]) = false := by rw [hs]; decide
    have e2 : (s.toList == [77, 73, 78]) = false := by rw [hs]; decide
    have e3 : (s.toList == [77, 65, 88]) = false := by rw [hs]; decide
    have e4 : (s.toList == [65, 86, 69, 82, 65, 71, 69]) = false := by rw [hs]; decide
    have e5 : (s.toList == [65, 78, 68]) = false := by rw [hs]; decide
    have e6 : (s.toList == [79, 82]) = false := by rw [hs]; decide
    have e7 : (s.toList == [67, 79, 78, 67, 65, 84]) = false := by rw [hs]; decide
    have e8 : (s.toList == [73, 70]) = false := by rw [hs]; decide
    have e9 : (s.toList == [73, 78, 68, 69, 88]) = true := by rw [hs]; decide
    clear hs h0 h1 h2 h3 h4 h5 h6 h7 h8
    go_enter Tryz.func18, Tryz.ntmps18
    go_wp2_with fail
    go_ret3
    exact ⟨rfl, rfl⟩
  by_cases h10 : l = [82, 79, 85, 78, 68]
  · subst h10
    have e0 : (s.toList == [83, 85, 77]) = false := by rw [hs]; decide
    have e1 : (s.toList == [67, 79, 85, 78, 84]) = false := by rw [hs]; decide
    have e2 : (s.toList == [77, 73, 78]) = false := by rw [hs]; decide
    have e3 : (s.toList == [77, 65, 88]) = false := by rw [hs]; decide
    have e4 : (s.toList == [65, 86, 69, 82, 65, 71, 69]) = false := by rw [hs]; decide
    have e5 : (s.toList == [65, 78, 68]) = false := by rw [hs]; decide
    have e6 : (s.toList == [79, 82]) = false := by rw [hs]; decide
    have e7 : (s.toList == [67, 79, 78, 67, 65, 84]) = false := by rw [hs]; decide
    have e8 : (s.toList == [73, 70]) = false := by rw [hs]; decide
    have e9 : (s.toList == [73, 78, 68, 69, 88]) = false := by rw [hs]; decide
    have e10 : (s.toList == [82, 79, 85, 78, 68]) = true := by rw [hs]; decide
    clear hs h0 h1 h2 h3 h4 h5 h6 h7 h8 h9
    go_enter Tryz.func18, Tryz.ntmps18
    go_wp2_with fail
    go_ret3
    exact ⟨rfl, rfl⟩
  by_cases h11 : l = [77, 79, 68]
  · subst h11
    have e0 : (s.toList == [83, 85, 77]) = false := by rw [hs]; decide
    have e1 : (s.toList == [67, 79, 85, 78, 84]) = false := by rw [hs]; decide
    have e2 : (s.toList == [77, 73, 78]) = false := by rw [hs]; decide
    have e3 : (s.toList == [77, 65, 88]) = false := by rw [hs]; decide
    have e4 : (s.toList == [65, 86, 69, 82, 65, 71, 69]) = false := by rw [hs]; decide
    have e5 : (s.toList == [65, 78, 68]) = false := by rw [hs]; decide
    have e6 : (s.toList == [79, 82]) = false := by rw [hs]; decide
    have e7 : (s.toList == [67, 79, 78, 67, 65, 84]) = false := by rw [hs]; decide
    have e8 : (s.toList == [73, 70]) = false := by rw [hs]; decide
    have e9 : (s.toList == [73, 78, 68, 69, 88]) = false := by rw [hs]; decide
    have e10 : (s.toList == [82, 79, 85, 78, 68]) = false := by rw [hs]; decide
    have e11 : (s.toList == [77, 79, 68]) = true := by rw [hs]; decide
    clear hs h0 h1 h2 h3 h4 h5 h6 h7 h8 h9 h10
    go_enter Tryz.func18, Tryz.ntmps18
    go_wp2_with fail
    go_ret3
    exact ⟨rfl, rfl⟩
  by_cases h12 : l = [73, 70, 69, 82, 82, 79, 82]
  · subst h12
    have e0 : (s.toList == [83, 85, 77]) = false := by rw [hs]; decide
    have e1 : (s.toList == [67, 79, 85, 78, 84]) = false := by rw [hs]; decide
    have e2 : (s.toList == [77, 73, 78]) = false := by rw [hs]; decide
    have e3 : (s.toList == [77, 65, 88]) = false := by rw [hs]; decide
    have e4 : (s.toList == [65, 86, 69, 82, 65, 71, 69]) = false := by rw [hs]; decide
    have e5 : (s.toList == [65, 78, 68]) = false := by rw [hs]; decide
    have e6 : (s.toList == [79, 82]) = false := by rw [hs]; decide
    have e7 : (s.toList == [67, 79, 78, 67, 65, 84]) = false := by rw [hs]; decide
    have e8 : (s.toList == [73, 70]) = false := by rw [hs]; decide
    have e9 : (s.toList == [73, 78, 68, 69, 88]) = false := by rw [hs]; decide
    have e10 : (s.toList == [82, 79, 85, 78, 68]) = false := by rw [hs]; decide
    have e11 : (s.toList == [77, 79, 68]) = false := by rw [hs]; decide
    have e12 : (s.toList == [73, 70, 69, 82, 82, 79, 82]) = true := by rw [hs]; decide
    clear hs h0 h1 h2 h3 h4 h5 h6 h7 h8 h9 h10 h11
    go_enter Tryz.func18, Tryz.ntmps18
    go_wp2_with fail
    go_ret3
    exact ⟨rfl, rfl⟩
  by_cases h13 : l = [76, 69, 70, 84]
  · subst h13
    have e0 : (s.toList == [83, 85, 77]) = false := by rw [hs]; decide
    have e1 : (s.toList == [67, 79, 85, 78, 84]) = false := by rw [hs]; decide
    have e2 : (s.toList == [77, 73, 78]) = false := by rw [hs]; decide
    have e3 : (s.toList == [77, 65, 88]) = false := by rw [hs]; decide
    have e4 : (s.toList == [65, 86, 69, 82, 65, 71, 69]) = false := by rw [hs]; decide
    have e5 : (s.toList == [65, 78, 68]) = false := by rw [hs]; decide
    have e6 : (s.toList == [79, 82]) = false := by rw [hs]; decide
    have e7 : (s.toList == [67, 79, 78, 67, 65, 84]) = false := by rw [hs]; decide
    have e8 : (s.toList == [73, 70]) = false := by rw [hs]; decide
    have e9 : (s.toList == [73, 78, 68, 69, 88]) = false := by rw [hs]; decide
    have e10 : (s.toList == [82, 79, 85, 78, 68]) = false := by rw [hs]; decide
    have e11 : (s.toList == [77, 79, 68]) = false := by rw [hs]; decide
    have e12 : (s.toList == [73, 70, 69, 82, 82, 79, 82]) = false := by rw [hs]; decide
    have e13 : (s.toList == [76, 69, 70, 84]) = true := by rw [hs]; decide
    clear hs h0 h1 h2 h3 h4 h5 h6 h7 h8 h9 h10 h11 h12
    go_enter Tryz.func18, Tryz.ntmps18
    go_wp2_with fail
    go_ret3
    exact ⟨rfl, rfl⟩
  by_cases h14 : l = [78, 79, 84]
  · subst h14
    have e0 : (s.toList == [83, 85, 77]) = false := by rw [hs]; decide
    have e1 : (s.toList == [67, 79, 85, 78, 84]) = false := by rw [hs]; decide
    have e2 : (s.toList == [77, 73, 78]) = false := by rw [hs]; decide
    have e3 : (s.toList == [77, 65, 88]) = false := by rw [hs]; decide
    have e4 : (s.toList == [65, 86, 69, 82, 65, 71, 69]) = false := by rw [hs]; decide
    have e5 : (s.toList == [65, 78, 68]) = false := by rw [hs]; decide
    have e6 : (s.toList == [79, 82]) = false := by rw [hs]; decide
    have e7 : (s.toList == [67, 79, 78, 67, 65, 84]) = false := by rw [hs]; decide
    have e8 : (s.toList == [73, 70]) = false := by rw [hs]; decide
    have e9 : (s.toList == [73, 78, 68, 69, 88]) = false := by rw [hs]; decide
    have e10 : (s.toList == [82, 79, 85, 78, 68]) = false := by rw [hs]; decide
    have e11 : (s.toList == [77, 79, 68]) = false := by rw [hs]; decide
    have e12 : (s.toList == [73, 70, 69, 82, 82, 79, 82]) = false := by rw [hs]; decide
    have e13 : (s.toList == [76, 69, 70, 84]) = false := by rw [hs]; decide
    have e14 : (s.toList == [78, 79, 84]) = true := by rw [hs]; decide
    clear hs h0 h1 h2 h3 h4 h5 h6 h7 h8 h9 h10 h11 h12 h13
    go_enter Tryz.func18, Tryz.ntmps18
    go_wp2_with fail
    go_ret3
    exact ⟨rfl, rfl⟩
  by_cases h15 : l = [65, 66, 83]
  · subst h15
    have e0 : (s.toList == [83, 85, 77]) = false := by rw [hs]; decide
    have e1 : (s.toList == [67, 79, 85, 78, 84]) = false := by rw [hs]; decide
    have e2 : (s.toList == [77, 73, 78]) = false := by rw [hs]; decide
    have e3 : (s.toList == [77, 65, 88]) = false := by rw [hs]; decide
    have e4 : (s.toList == [65, 86, 69, 82, 65, 71, 69]) = false := by rw [hs]; decide
    have e5 : (s.toList == [65, 78, 68]) = false := by rw [hs]; decide
    have e6 : (s.toList == [79, 82]) = false := by rw [hs]; decide
    have e7 : (s.toList == [67, 79, 78, 67, 65, 84]) = false := by rw [hs]; decide
    have e8 : (s.toList == [73, 70]) = false := by rw [hs]; decide
    have e9 : (s.toList == [73, 78, 68, 69, 88]) = false := by rw [hs]; decide
    have e10 : (s.toList == [82, 79, 85, 78, 68]) = false := by rw [hs]; decide
    have e11 : (s.toList == [77, 79, 68]) = false := by rw [hs]; decide
    have e12 : (s.toList == [73, 70, 69, 82, 82, 79, 82]) = false := by rw [hs]; decide
    have e13 : (s.toList == [76, 69, 70, 84]) = false := by rw [hs]; decide
    have e14 : (s.toList == [78, 79, 84]) = false := by rw [hs]; decide
    have e15 : (s.toList == [65, 66, 83]) = true := by rw [hs]; decide
    clear hs h0 h1 h2 h3 h4 h5 h6 h7 h8 h9 h10 h11 h12 h13 h14
    go_enter Tryz.func18, Tryz.ntmps18
    go_wp2_with fail
    go_ret3
    exact ⟨rfl, rfl⟩
  by_cases h16 : l = [70, 76, 79, 79, 82]
  · subst h16
    have e0 : (s.toList == [83, 85, 77]) = false := by rw [hs]; decide
    have e1 : (s.toList == [67, 79, 85, 78, 84]) = false := by rw [hs]; decide
    have e2 : (s.toList == [77, 73, 78]) = false := by rw [hs]; decide
    have e3 : (s.toList == [77, 65, 88]) = false := by rw [hs]; decide
    have e4 : (s.toList == [65, 86, 69, 82, 65, 71, 69]) = false := by rw [hs]; decide
    have e5 : (s.toList == [65, 78, 68]) = false := by rw [hs]; decide
    have e6 : (s.toList == [79, 82]) = false := by rw [hs]; decide
    have e7 : (s.toList == [67, 79, 78, 67, 65, 84]) = false := by rw [hs]; decide
    have e8 : (s.toList == [73, 70]) = false := by rw [hs]; decide
    have e9 : (s.toList == [73, 78, 68, 69, 88]) = false := by rw [hs]; decide
    have e10 : (s.toList == [82, 79, 85, 78, 68]) = false := by rw [hs]; decide
    have e11 : (s.toList == [77, 79, 68]) = false := by rw [hs]; decide
    have e12 : (s.toList == [73, 70, 69, 82, 82, 79, 82]) = false := by rw [hs]; decide
    have e13 : (s.toList == [76, 69, 70, 84]) = false := by rw [hs]; decide
    have e14 : (s.toList == [78, 79, 84]) = false := by rw [hs]; decide
    have e15 : (s.toList == [65, 66, 83]) = false := by rw [hs]; decide
    have e16 : (s.toList == [70, 76, 79, 79, 82]) = true := by rw [hs]; decide
    clear hs h0 h1 h2 h3 h4 h5 h6 h7 h8 h9 h10 h11 h12 h13 h14 h15
    go_enter Tryz.func18, Tryz.ntmps18
    go_wp2_with fail
    go_ret3
    exact ⟨rfl, rfl⟩
  by_cases h17 : l = [83, 81, 82, 84]
  · subst h17
    have e0 : (s.toList == [83, 85, 77]) = false := by rw [hs]; decide
    have e1 : (s.toList == [67, 79, 85, 78, 84]) = false := by rw [hs]; decide
    have e2 : (s.toList == [77, 73, 78]) = false := by rw [hs]; decide
    have e3 : (s.toList == [77, 65, 88]) = false := by rw [hs]; decide
    have e4 : (s.toList == [65, 86, 69, 82, 65, 71, 69]) = false := by rw [hs]; decide
    have e5 : (s.toList == [65, 78, 68]) = false := by rw [hs]; decide
    have e6 : (s.toList == [79, 82]) = false := by rw [hs]; decide
    have e7 : (s.toList == [67, 79, 78, 67, 65, 84]) = false := by rw [hs]; decide
    have e8 : (s.toList == [73, 70]) = false := by rw [hs]; decide
    have e9 : (s.toList == [73, 78, 68, 69, 88]) = false := by rw [hs]; decide
    have e10 : (s.toList == [82, 79, 85, 78, 68]) = false := by rw [hs]; decide
    have e11 : (s.toList == [77, 79, 68]) = false := by rw [hs]; decide
    have e12 : (s.toList == [73, 70, 69, 82, 82, 79, 82]) = false := by rw [hs]; decide
    have e13 : (s.toList == [76, 69, 70, 84]) = false := by rw [hs]; decide
    have e14 : (s.toList == [78, 79, 84]) = false := by rw [hs]; decide
    have e15 : (s.toList == [65, 66, 83]) = false := by rw [hs]; decide
    have e16 : (s.toList == [70, 76, 79, 79, 82]) = false := by rw [hs]; decide
    have e17 : (s.toList == [83, 81, 82, 84]) = true := by rw [hs]; decide
    clear hs h0 h1 h2 h3 h4 h5 h6 h7 h8 h9 h10 h11 h12 h13 h14 h15 h16
    go_enter Tryz.func18, Tryz.ntmps18
    go_wp2_with fail
    go_ret3
    exact ⟨rfl, rfl⟩
  by_cases h18 : l = [76, 69, 78]
  · subst h18
    have e0 : (s.toList == [83, 85, 77]) = false := by rw [hs]; decide
    have e1 : (s.toList == [67, 79, 85, 78, 84]) = false := by rw [hs]; decide
    have e2 : (s.toList == [77, 73, 78]) = false := by rw [hs]; decide
    have e3 : (s.toList == [77, 65, 88]) = false := by rw [hs]; decide
    have e4 : (s.toList == [65, 86, 69, 82, 65, 71, 69]) = false := by rw [hs]; decide
    have e5 : (s.toList == [65, 78, 68]) = false := by rw [hs]; decide
    have e6 : (s.toList == [79, 82]) = false := by rw [hs]; decide
    have e7 : (s.toList == [67, 79, 78, 67, 65, 84]) = false := by rw [hs]; decide
    have e8 : (s.toList == [73, 70]) = false := by rw [hs]; decide
    have e9 : (s.toList == [73, 78, 68, 69, 88]) = false := by rw [hs]; decide
    have e10 : (s.toList == [82, 79, 85, 78, 68]) = false := by rw [hs]; decide
    have e11 : (s.toList == [77, 79, 68]) = false := by rw [hs]; decide
    have e12 : (s.toList == [73, 70, 69, 82, 82, 79, 82]) = false := by rw [hs]; decide
    have e13 : (s.toList == [76, 69, 70, 84]) = false := by rw [hs]; decide
    have e14 : (s.toList == [78, 79, 84]) = false := by rw [hs]; decide
    have e15 : (s.toList == [65, 66, 83]) = false := by rw [hs]; decide
    have e16 : (s.toList == [70, 76, 79, 79, 82]) = false := by rw [hs]; decide
    have e17 : (s.toList == [83, 81, 82, 84]) = false := by rw [hs]; decide
    have e18 : (s.toList == [76, 69, 78]) = true := by rw [hs]; decide
    clear hs h0 h1 h2 h3 h4 h5 h6 h7 h8 h9 h10 h11 h12 h13 h14 h15 h16 h17
    go_enter Tryz.func18, Tryz.ntmps18
    go_wp2_with fail
    go_ret3
    exact ⟨rfl, rfl⟩
  by_cases h19 : l = [73, 83, 69, 82, 82, 79, 82]
  · subst h19
    have e0 : (s.toList == [83, 85, 77]) = false := by rw [hs]; decide
    have e1 : (s.toList == [67, 79, 85, 78, 84]) = false := by rw [hs]; decide
    have e2 : (s.toList == [77, 73, 78]) = false := by rw [hs]; decide
    have e3 : (s.toList == [77, 65, 88]) = false := by rw [hs]; decide
    have e4 : (s.toList == [65, 86, 69, 82, 65, 71, 69]) = false := by rw [hs]; decide
    have e5 : (s.toList == [65, 78, 68]) = false := by rw [hs]; decide
    have e6 : (s.toList == [79, 82]) = false := by rw [hs]; decide
    have e7 : (s.toList == [67, 79, 78, 67, 65, 84]) = false := by rw [hs]; decide
    have e8 : (s.toList == [73, 70]) = false := by rw [hs]; decide
    have e9 : (s.toList == [73, 78, 68, 69, 88]) = false := by rw [hs]; decide
    have e10 : (s.toList == [82, 79, 85, 78, 68]) = false := by rw [hs]; decide
    have e11 : (s.toList == [77, 79, 68]) = false := by rw [hs]; decide
    have e12 : (s.toList == [73, 70, 69, 82, 82, 79, 82]) = false := by rw [hs]; decide
    have e13 : (s.toList == [76, 69, 70, 84]) = false := by rw [hs]; decide
    have e14 : (s.toList == [78, 79, 84]) = false := by rw [hs]; decide
    have e15 : (s.toList == [65, 66, 83]) = false := by rw [hs]; decide
    have e16 : (s.toList == [70, 76, 79, 79, 82]) = false := by rw [hs]; decide
    have e17 : (s.toList == [83, 81, 82, 84]) = false := by rw [hs]; decide
    have e18 : (s.toList == [76, 69, 78]) = false := by rw [hs]; decide
    have e19 : (s.toList == [73, 83, 69, 82, 82, 79, 82]) = true := by rw [hs]; decide
    clear hs h0 h1 h2 h3 h4 h5 h6 h7 h8 h9 h10 h11 h12 h13 h14 h15 h16 h17 h18
    go_enter Tryz.func18, Tryz.ntmps18
    go_wp2_with fail
    go_ret3
    exact ⟨rfl, rfl⟩
  have e0 : (s.toList == [83, 85, 77]) = false := by rw [hs]; simpa using h0
  have e1 : (s.toList == [67, 79, 85, 78, 84]) = false := by rw [hs]; simpa using h1
  have e2 : (s.toList == [77, 73, 78]) = false := by rw [hs]; simpa using h2
  have e3 : (s.toList == [77, 65, 88]) = false := by rw [hs]; simpa using h3
  have e4 : (s.toList == [65, 86, 69, 82, 65, 71, 69]) = false := by rw [hs]; simpa using h4
  have e5 : (s.toList == [65, 78, 68]) = false := by rw [hs]; simpa using h5
  have e6 : (s.toList == [79, 82]) = false := by rw [hs]; simpa using h6
  have e7 : (s.toList == [67, 79, 78, 67, 65, 84]) = false := by rw [hs]; simpa using h7
  have e8 : (s.toList == [73, 70]) = false := by rw [hs]; simpa using h8
  have e9 : (s.toList == [73, 78, 68, 69, 88]) = false := by rw [hs]; simpa using h9
  have e10 : (s.toList == [82, 79, 85, 78, 68]) = false := by rw [hs]; simpa using h10
  have e11 : (s.toList == [77, 79, 68]) = false := by rw [hs]; simpa using h11
  have e12 : (s.toList == [73, 70, 69, 82, 82, 79, 82]) = false := by rw [hs]; simpa using h12
  have e13 : (s.toList == [76, 69, 70, 84]) = false := by rw [hs]; simpa using h13
  have e14 : (s.toList == [78, 79, 84]) = false := by rw [hs]; simpa using h14
  have e15 : (s.toList == [65, 66, 83]) = false := by rw [hs]; simpa using h15
  have e16 : (s.toList == [70, 76, 79, 79, 82]) = false := by rw [hs]; simpa using h16
  have e17 : (s.toList == [83, 81, 82, 84]) = false := by rw [hs]; simpa using h17
  have e18 : (s.toList == [76, 69, 78]) = false := by rw [hs]; simpa using h18
  have e19 : (s.toList == [73, 83, 69, 82, 82, 79, 82]) = false := by rw [hs]; simpa using h19
  have HK : Hid (kno l = none) := by show _ = _; simp [kno, kn1, kn2, kn3, kn4, kn5, h0, h1, h2, h3, h4, h5, h6, h7, h8, h9, h10, h11, h12, h13, h14, h15, h16, h17, h18, h19]
  clear hs h0 h1 h2 h3 h4 h5 h6 h7 h8 h9 h10 h11 h12 h13 h14 h15 h16 h17 h18 h19
  go_enter Tryz.func18, Tryz.ntmps18
  go_wp2_with fail
  go_ret3
  unfold knA knB
  rw [HK.out]
  exact ⟨rfl, rfl⟩
theorem binds_any (s : ByteArray) (w : World) :
    Calls Tryz.prog 17 #[.string s] w fun e w' => e = .returned (.int .i64 ((bnd s.data.toList : Nat) : Int)) ∧ w' = w := by
  have hs := ByteArray.toList_eq s
  obtain ⟨l, hl⟩ : ∃ l, s.data.toList = l := ⟨_, rfl⟩
  rw [hl] at hs ⊢
  clear hl
  by_cases h0 : l = [61]
  · subst h0
    have e0 : (s.toList == [61]) = true := by rw [hs]; decide
    clear hs 
    go_enter Tryz.func17, Tryz.ntmps17
    go_wp2_with fail
    go_ret
    exact ⟨rfl, rfl⟩
  by_cases h1 : l = [60, 62]
  · subst h1
    have e0 : (s.toList == [61]) = false := by rw [hs]; decide
    have e1 : (s.toList == [60, 62]) = true := by rw [hs]; decide
    clear hs h0
    go_enter Tryz.func17, Tryz.ntmps17
    go_wp2_with fail
    go_ret
    exact ⟨rfl, rfl⟩
  by_cases h2 : l = [60]
  · subst h2
    have e0 : (s.toList == [61]) = false := by rw [hs]; decide
    have e1 : (s.toList == [60, 62]) = false := by rw [hs]; decide
    have e2 : (s.toList == [60]) = true := by rw [hs]; decide
    clear hs h0 h1
    go_enter Tryz.func17, Tryz.ntmps17
    go_wp2_with fail
    go_ret
    exact ⟨rfl, rfl⟩
  by_cases h3 : l = [60, 61]
  · subst h3
    have e0 : (s.toList == [61]) = false := by rw [hs]; decide
    have e1 : (s.toList == [60, 62]) = false := by rw [hs]; decide
    have e2 : (s.toList == [60]) = false := by rw [hs]; decide
    have e3 : (s.toList == [60, 61]) = true := by rw [hs]; decide
    clear hs h0 h1 h2
    go_enter Tryz.func17, Tryz.ntmps17
    go_wp2_with fail
    go_ret
    exact ⟨rfl, rfl⟩
  by_cases h4 : l = [62]
  · subst h4
    have e0 : (s.toList == [61]) = false := by rw [hs]; decide
    have e1 : (s.toList == [60, 62]) = false := by rw [hs]; decide
    have e2 : (s.toList == [60]) = false := by rw [hs]; decide
    have e3 : (s.toList == [60, 61]) = false := by rw [hs]; decide
    have e4 : (s.toList == [62]) = true := by rw [hs]; decide
    clear hs h0 h1 h2 h3
    go_enter Tryz.func17, Tryz.ntmps17
    go_wp2_with fail
    go_ret
    exact ⟨rfl, rfl⟩
  by_cases h5 : l = [62, 61]
  · subst h5
    have e0 : (s.toList == [61]) = false := by rw [hs]; decide
    have e1 : (s.toList == [60, 62]) = false := by rw [hs]; decide
    have e2 : (s.toList == [60]) = false := by rw [hs]; decide
    have e3 : (s.toList == [60, 61]) = false := by rw [hs]; decide
    have e4 : (s.toList == [62]) = false := by rw [hs]; decide
    have e5 : (s.toList == [62, 61]) = true := by rw [hs]; decide
    clear hs h0 h1 h2 h3 h4
    go_enter Tryz.func17, Tryz.ntmps17
    go_wp2_with fail
    go_ret
    exact ⟨rfl, rfl⟩
  by_cases h6 : l = [38]
  · subst h6
    have e0 : (s.toList == [61]) = false := by rw [hs]; decide
    have e1 : (s.toList == [60, 62]) = false := by rw [hs]; decide
    have e2 : (s.toList == [60]) = false := by rw [hs]; decide
    have e3 : (s.toList == [60, 61]) = false := by rw [hs]; decide
    have e4 : (s.toList == [62]) = false := by rw [hs]; decide
    have e5 : (s.toList == [62, 61]) = false := by rw [hs]; decide
    have e6 : (s.toList == [38]) = true := by rw [hs]; decide
    clear hs h0 h1 h2 h3 h4 h5
    go_enter Tryz.func17, Tryz.ntmps17
    go_wp2_with fail
    go_ret
    exact ⟨rfl, rfl⟩
  by_cases h7 : l = [43]
  · subst h7
    have e0 : (s.toList == [61]) = false := by rw [hs]; decide
    have e1 : (s.toList == [60, 62]) = false := by rw [hs]; decide
    have e2 : (s.toList == [60]) = false := by rw [hs]; decide
    have e3 : (s.toList == [60, 61]) = false := by rw [hs]; decide
    have e4 : (s.toList == [62]) = false := by rw [hs]; decide
    have e5 : (s.toList == [62, 61]) = false := by rw [hs]; decide
    have e6 : (s.toList == [38]) = false := by rw [hs]; decide
    have e7 : (s.toList == [43]) = true := by rw [hs]; decide
    clear hs h0 h1 h2 h3 h4 h5 h6
    go_enter Tryz.func17, Tryz.ntmps17
    go_wp2_with fail
    go_ret
    exact ⟨rfl, rfl⟩
  by_cases h8 : l = [45]
  · subst h8
    have e0 : (s.toList == [61]) = false := by rw [hs]; decide
    have e1 : (s.toList == [60, 62]) = false := by rw [hs]; decide
    have e2 : (s.toList == [60]) = false := by rw [hs]; decide
    have e3 : (s.toList == [60, 61]) = false := by rw [hs]; decide
    have e4 : (s.toList == [62]) = false := by rw [hs]; decide
    have e5 : (s.toList == [62, 61]) = false := by rw [hs]; decide
    have e6 : (s.toList == [38]) = false := by rw [hs]; decide
    have e7 : (s.toList == [43]) = false := by rw [hs]; decide
    have e8 : (s.toList == [45]) = true := by rw [hs]; decide
    clear hs h0 h1 h2 h3 h4 h5 h6 h7
    go_enter Tryz.func17, Tryz.ntmps17
    go_wp2_with fail
    go_ret
    exact ⟨rfl, rfl⟩
  by_cases h9 : l = [42]
  · subst h9
    have e0 : (s.toList == [61]) = false := by rw [hs]; decide
    have e1 : (s.toList == [60, 62]) = false := by rw [hs]; decide
    have e2 : (s.toList == [60]) = false := by rw [hs]; decide
    have e3 : (s.toList == [60, 61]) = false := by rw [hs]; decide
    have e4 : (s.toList == [62]) = false := by rw [hs]; decide
    have e5 : (s.toList == [62, 61]) = false := by rw [hs]; decide
    have e6 : (s.toList == [38]) = false := by rw [hs]; decide
    have e7 : (s.toList == [43]) = false := by rw [hs]; decide
    have e8 : (s.toList == [45]) = false := by rw [hs]; decide
    have e9 : (s.toList == [42]) = true := by rw [hs]; decide
    clear hs h0 h1 h2 h3 h4 h5 h6 h7 h8
    go_enter Tryz.func17, Tryz.ntmps17
    go_wp2_with fail
    go_ret
    exact ⟨rfl, rfl⟩
  by_cases h10 : l = [47]
  · subst h10
    have e0 : (s.toList == [61]) = false := by rw [hs]; decide
    have e1 : (s.toList == [60, 62]) = false := by rw [hs]; decide
    have e2 : (s.toList == [60]) = false := by rw [hs]; decide
    have e3 : (s.toList == [60, 61]) = false := by rw [hs]; decide
    have e4 : (s.toList == [62]) = false := by rw [hs]; decide
    have e5 : (s.toList == [62, 61]) = false := by rw [hs]; decide
    have e6 : (s.toList == [38]) = false := by rw [hs]; decide
    have e7 : (s.toList == [43]) = false := by rw [hs]; decide
    have e8 : (s.toList == [45]) = false := by rw [hs]; decide
    have e9 : (s.toList == [42]) = false := by rw [hs]; decide
    have e10 : (s.toList == [47]) = true := by rw [hs]; decide
    clear hs h0 h1 h2 h3 h4 h5 h6 h7 h8 h9
    go_enter Tryz.func17, Tryz.ntmps17
    go_wp2_with fail
    go_ret
    exact ⟨rfl, rfl⟩
  have e0 : (s.toList == [61]) = false := by rw [hs]; simpa using h0
  have e1 : (s.toList == [60, 62]) = false := by rw [hs]; simpa using h1
  have e2 : (s.toList == [60]) = false := by rw [hs]; simpa using h2
  have e3 : (s.toList == [60, 61]) = false := by rw [hs]; simpa using h3
  have e4 : (s.toList == [62]) = false := by rw [hs]; simpa using h4
  have e5 : (s.toList == [62, 61]) = false := by rw [hs]; simpa using h5
  have e6 : (s.toList == [38]) = false := by rw [hs]; simpa using h6
  have e7 : (s.toList == [43]) = false := by rw [hs]; simpa using h7
  have e8 : (s.toList == [45]) = false := by rw [hs]; simpa using h8
  have e9 : (s.toList == [42]) = false := by rw [hs]; simpa using h9
  have e10 : (s.toList == [47]) = false := by rw [hs]; simpa using h10
  have HK : Hid (bnd l = 0) := by show _ = _; simp [bnd, bd1, h0, h1, h2, h3, h4, h5, h6, h7, h8, h9, h10]
  clear hs h0 h1 h2 h3 h4 h5 h6 h7 h8 h9 h10
  go_enter Tryz.func17, Tryz.ntmps17
  go_wp2_with fail
  go_ret
  exact ⟨ret_int (by rw [HK.out]; rfl), rfl⟩
theorem rknown_any (s : ByteArray) (w : World) :
    Calls Tryz.prog 22 #[.string s] w fun e w' => e = .returned (.tuple #[.int .i64 (knA s.data.toList), .int .i64 (knB s.data.toList), .bool (kno s.data.toList).isSome]) ∧ w' = w := by
  have hs := ByteArray.toList_eq s
  obtain ⟨l, hl⟩ : ∃ l, s.data.toList = l := ⟨_, rfl⟩
  rw [hl] at hs ⊢
  clear hl
  by_cases h0 : l = [83, 85, 77]
  · subst h0
    have e0 : (s.toList == [83, 85, 77]) = true := by rw [hs]; decide
    clear hs 
    go_enter Tryz.func22, Tryz.ntmps22
    go_wp2_with fail
    go_ret3
    exact ⟨rfl, rfl⟩
  by_cases h1 : l = [67, 79, 85, 78, 84]
  · subst h1
    have e0 : (s.toList == [83, 85, 77]) = false := by rw [hs]; decide
    have e1 : (s.toList == [67, 79, 85, 78, 84]) = true := by rw [hs]; decide
    clear hs h0
    go_enter Tryz.func22, Tryz.ntmps22
    go_wp2_with fail
    go_ret3
    exact ⟨rfl, rfl⟩
  by_cases h2 : l = [77, 73, 78]
  · subst h2
    have e0 : (s.toList == [83, 85, 77]) = false := by rw [hs]; decide
    have e1 : (s.toList == [67, 79, 85, 78, 84]) = false := by rw [hs]; decide
    have e2 : (s.toList == [77, 73, 78]) = true := by rw [hs]; decide
    clear hs h0 h1
    go_enter Tryz.func22, Tryz.ntmps22
    go_wp2_with fail
    go_ret3
    exact ⟨rfl, rfl⟩
  by_cases h3 : l = [77, 65, 88]
  · subst h3
    have e0 : (s.toList == [83, 85, 77]) = false := by rw [hs]; decide
    have e1 : (s.toList == [67, 79, 85, 78, 84]) = false := by rw [hs]; decide
    have e2 : (s.toList == [77, 73, 78]) = false := by rw [hs]; decide
    have e3 : (s.toList == [77, 65, 88]) = true := by rw [hs]; decide
    clear hs h0 h1 h2
    go_enter Tryz.func22, Tryz.ntmps22
    go_wp2_with fail
    go_ret3
    exact ⟨rfl, rfl⟩
  by_cases h4 : l = [65, 86, 69, 82, 65, 71, 69]
  · subst h4
    have e0 : (s.toList == [83, 85, 77]) = false := by rw [hs]; decide
    have e1 : (s.toList == [67, 79, 85, 78, 84]) = false := by rw [hs]; decide
    have e2 : (s.toList == [77, 73, 78]) = false := by rw [hs]; decide
    have e3 : (s.toList == [77, 65, 88]) = false := by rw [hs]; decide
    have e4 : (s.toList == [65, 86, 69, 82, 65, 71, 69]) = true := by rw [hs]; decide
    clear hs h0 h1 h2 h3
    go_enter Tryz.func22, Tryz.ntmps22
    go_wp2_with fail
    go_ret3
    exact ⟨rfl, rfl⟩
  by_cases h5 : l = [65, 78, 68]
  · subst h5
    have e0 : (s.toList == [83, 85, 77]) = false := by rw [hs]; decide
    have e1 : (s.toList == [67, 79, 85, 78, 84]) = false := by rw [hs]; decide
    have e2 : (s.toList == [77, 73, 78]) = false := by rw [hs]; decide
    have e3 : (s.toList == [77, 65, 88]) = false := by rw [hs]; decide
    have e4 : (s.toList == [65, 86, 69, 82, 65, 71, 69]) = false := by rw [hs]; decide
    have e5 : (s.toList == [65, 78, 68]) = true := by rw [hs]; decide
    clear hs h0 h1 h2 h3 h4
    go_enter Tryz.func22, Tryz.ntmps22
    go_wp2_with fail
    go_ret3
    exact ⟨rfl, rfl⟩
  by_cases h6 : l = [79, 82]
  · subst h6
    have e0 : (s.toList == [83, 85, 77]) = false := by rw [hs]; decide
    have e1 : (s.toList == [67, 79, 85, 78, 84]) = false := by rw [hs]; decide
    have e2 : (s.toList == [77, 73, 78]) = false := by rw [hs]; decide
    have e3 : (s.toList == [77, 65, 88]) = false := by rw [hs]; decide
    have e4 : (s.toList == [65, 86, 69, 82, 65, 71, 69]) = false := by rw [hs]; decide
    have e5 : (s.toList == [65, 78, 68]) = false := by rw [hs]; decide
    have e6 : (s.toList == [79, 82]) = true := by rw [hs]; decide
    clear hs h0 h1 h2 h3 h4 h5
    go_enter Tryz.func22, Tryz.ntmps22
    go_wp2_with fail
    go_ret3
    exact ⟨rfl, rfl⟩
  by_cases h7 : l = [67, 79, 78, 67, 65, 84]
  · subst h7
    have e0 : (s.toList == [83, 85, 77]) = false := by rw [hs]; decide
    have e1 : (s.toList == [67, 79, 85, 78, 84]) = false := by rw [hs]; decide
    have e2 : (s.toList == [77, 73, 78]) = false := by rw [hs]; decide
    have e3 : (s.toList == [77, 65, 88]) = false := by rw [hs]; decide
    have e4 : (s.toList == [65, 86, 69, 82, 65, 71, 69]) = false := by rw [hs]; decide
    have e5 : (s.toList == [65, 78, 68]) = false := by rw [hs]; decide
    have e6 : (s.toList == [79, 82]) = false := by rw [hs]; decide
    have e7 : (s.toList == [67, 79, 78, 67, 65, 84]) = true := by rw [hs]; decide
    clear hs h0 h1 h2 h3 h4 h5 h6
    go_enter Tryz.func22, Tryz.ntmps22
    go_wp2_with fail
    go_ret3
    exact ⟨rfl, rfl⟩
  by_cases h8 : l = [73, 70]
  · subst h8
    have e0 : (s.toList == [83, 85, 77]) = false := by rw [hs]; decide
    have e1 : (s.toList == [67, 79, 85, 78, 84]) = false := by rw [hs]; decide
    have e2 : (s.toList == [77, 73, 78]) = false := by rw [hs]; decide
    have e3 : (s.toList == [77, 65, 88]) = false := by rw [hs]; decide
    have e4 : (s.toList == [65, 86, 69, 82, 65, 71, 69]) = false := by rw [hs]; decide
    have e5 : (s.toList == [65, 78, 68]) = false := by rw [hs]; decide
    have e6 : (s.toList == [79, 82]) = false := by rw [hs]; decide
    have e7 : (s.toList == [67, 79, 78, 67, 65, 84]) = false := by rw [hs]; decide
    have e8 : (s.toList == [73, 70]) = true := by rw [hs]; decide
    clear hs h0 h1 h2 h3 h4 h5 h6 h7
    go_enter Tryz.func22, Tryz.ntmps22
    go_wp2_with fail
    go_ret3
    exact ⟨rfl, rfl⟩
  by_cases h9 : l = [73, 78, 68, 69, 88]
  · subst h9
    have e0 : (s.toList == [83, 85, 77]) = false := by rw [hs]; decide
    have e1 : (s.toList == [67, 79, 85, 78, 84]) = false := by rw [hs]; decide
    have e2 : (s.toList == [77, 73, 78]) = false := by rw [hs]; decide
    have e3 : (s.toList == [77, 65, 88]) = false := by rw [hs]; decide
    have e4 : (s.toList == [65, 86, 69, 82, 65, 71, 69]) = false := by rw [hs]; decide
    have e5 : (s.toList == [65, 78, 68]) = false := by rw [hs]; decide
    have e6 : (s.toList == [79, 82]) = false := by rw [hs]; decide
    have e7 : (s.toList == [67, 79, 78, 67, 65, 84]) = false := by rw [hs]; decide
    have e8 : (s.toList == [73, 70]) = false := by rw [hs]; decide
    have e9 : (s.toList == [73, 78, 68, 69, 88]) = true := by rw [hs]; decide
    clear hs h0 h1 h2 h3 h4 h5 h6 h7 h8
    go_enter Tryz.func22, Tryz.ntmps22
    go_wp2_with fail
    go_ret3
    exact ⟨rfl, rfl⟩
  by_cases h10 : l = [82, 79, 85, 78, 68]
  · subst h10
    have e0 : (s.toList == [83, 85, 77]) = false := by rw [hs]; decide
    have e1 : (s.toList == [67, 79, 85, 78, 84]) = false := by rw [hs]; decide
    have e2 : (s.toList == [77, 73, 78]) = false := by rw [hs]; decide
    have e3 : (s.toList == [77, 65, 88]) = false := by rw [hs]; decide
    have e4 : (s.toList == [65, 86, 69, 82, 65, 71, 69]) = false := by rw [hs]; decide
    have e5 : (s.toList == [65, 78, 68]) = false := by rw [hs]; decide
    have e6 : (s.toList == [79, 82]) = false := by rw [hs]; decide
    have e7 : (s.toList == [67, 79, 78, 67, 65, 84]) = false := by rw [hs]; decide
    have e8 : (s.toList == [73, 70]) = false := by rw [hs]; decide
    have e9 : (s.toList == [73, 78, 68, 69, 88]) = false := by rw [hs]; decide
    have e10 : (s.toList == [82, 79, 85, 78, 68]) = true := by rw [hs]; decide
    clear hs h0 h1 h2 h3 h4 h5 h6 h7 h8 h9
    go_enter Tryz.func22, Tryz.ntmps22
    go_wp2_with fail
    go_ret3
    exact ⟨rfl, rfl⟩
  by_cases h11 : l = [77, 79, 68]
  · subst h11
    have e0 : (s.toList == [83, 85, 77]) = false := by rw [hs]; decide
    have e1 : (s.toList == [67, 79, 85, 78, 84]) = false := by rw [hs]; decide
    have e2 : (s.toList == [77, 73, 78]) = false := by rw [hs]; decide
    have e3 : (s.toList == [77, 65, 88]) = false := by rw [hs]; decide
    have e4 : (s.toList == [65, 86, 69, 82, 65, 71, 69]) = false := by rw [hs]; decide
    have e5 : (s.toList == [65, 78, 68]) = false := by rw [hs]; decide
    have e6 : (s.toList == [79, 82]) = false := by rw [hs]; decide
    have e7 : (s.toList == [67, 79, 78, 67, 65, 84]) = false := by rw [hs]; decide
    have e8 : (s.toList == [73, 70]) = false := by rw [hs]; decide
    have e9 : (s.toList == [73, 78, 68, 69, 88]) = false := by rw [hs]; decide
    have e10 : (s.toList == [82, 79, 85, 78, 68]) = false := by rw [hs]; decide
    have e11 : (s.toList == [77, 79, 68]) = true := by rw [hs]; decide
    clear hs h0 h1 h2 h3 h4 h5 h6 h7 h8 h9 h10
    go_enter Tryz.func22, Tryz.ntmps22
    go_wp2_with fail
    go_ret3
    exact ⟨rfl, rfl⟩
  by_cases h12 : l = [73, 70, 69, 82, 82, 79, 82]
  · subst h12
    have e0 : (s.toList == [83, 85, 77]) = false := by rw [hs]; decide
    have e1 : (s.toList == [67, 79, 85, 78, 84]) = false := by rw [hs]; decide
    have e2 : (s.toList == [77, 73, 78]) = false := by rw [hs]; decide
    have e3 : (s.toList == [77, 65, 88]) = false := by rw [hs]; decide
    have e4 : (s.toList == [65, 86, 69, 82, 65, 71, 69]) = false := by rw [hs]; decide
    have e5 : (s.toList == [65, 78, 68]) = false := by rw [hs]; decide
    have e6 : (s.toList == [79, 82]) = false := by rw [hs]; decide
    have e7 : (s.toList == [67, 79, 78, 67, 65, 84]) = false := by rw [hs]; decide
    have e8 : (s.toList == [73, 70]) = false := by rw [hs]; decide
    have e9 : (s.toList == [73, 78, 68, 69, 88]) = false := by rw [hs]; decide
    have e10 : (s.toList == [82, 79, 85, 78, 68]) = false := by rw [hs]; decide
    have e11 : (s.toList == [77, 79, 68]) = false := by rw [hs]; decide
    have e12 : (s.toList == [73, 70, 69, 82, 82, 79, 82]) = true := by rw [hs]; decide
    clear hs h0 h1 h2 h3 h4 h5 h6 h7 h8 h9 h10 h11
    go_enter Tryz.func22, Tryz.ntmps22
    go_wp2_with fail
    go_ret3
    exact ⟨rfl, rfl⟩
  by_cases h13 : l = [76, 69, 70, 84]
  · subst h13
    have e0 : (s.toList == [83, 85, 77]) = false := by rw [hs]; decide
    have e1 : (s.toList == [67, 79, 85, 78, 84]) = false := by rw [hs]; decide
    have e2 : (s.toList == [77, 73, 78]) = false := by rw [hs]; decide
    have e3 : (s.toList == [77, 65, 88]) = false := by rw [hs]; decide
    have e4 : (s.toList == [65, 86, 69, 82, 65, 71, 69]) = false := by rw [hs]; decide
    have e5 : (s.toList == [65, 78, 68]) = false := by rw [hs]; decide
    have e6 : (s.toList == [79, 82]) = false := by rw [hs]; decide
    have e7 : (s.toList == [67, 79, 78, 67, 65, 84]) = false := by rw [hs]; decide
    have e8 : (s.toList == [73, 70]) = false := by rw [hs]; decide
    have e9 : (s.toList == [73, 78, 68, 69, 88]) = false := by rw [hs]; decide
    have e10 : (s.toList == [82, 79, 85, 78, 68]) = false := by rw [hs]; decide
    have e11 : (s.toList == [77, 79, 68]) = false := by rw [hs]; decide
    have e12 : (s.toList == [73, 70, 69, 82, 82, 79, 82]) = false := by rw [hs]; decide
    have e13 : (s.toList == [76, 69, 70, 84]) = true := by rw [hs]; decide
    clear hs h0 h1 h2 h3 h4 h5 h6 h7 h8 h9 h10 h11 h12
    go_enter Tryz.func22, Tryz.ntmps22
    go_wp2_with fail
    go_ret3
    exact ⟨rfl, rfl⟩
  by_cases h14 : l = [78, 79, 84]
  · subst h14
    have e0 : (s.toList == [83, 85, 77]) = false := by rw [hs]; decide
    have e1 : (s.toList == [67, 79, 85, 78, 84]) = false := by rw [hs]; decide
    have e2 : (s.toList == [77, 73, 78]) = false := by rw [hs]; decide
    have e3 : (s.toList == [77, 65, 88]) = false := by rw [hs]; decide
    have e4 : (s.toList == [65, 86, 69, 82, 65, 71, 69]) = false := by rw [hs]; decide
    have e5 : (s.toList == [65, 78, 68]) = false := by rw [hs]; decide
    have e6 : (s.toList == [79, 82]) = false := by rw [hs]; decide
    have e7 : (s.toList == [67, 79, 78, 67, 65, 84]) = false := by rw [hs]; decide
    have e8 : (s.toList == [73, 70]) = false := by rw [hs]; decide
    have e9 : (s.toList == [73, 78, 68, 69, 88]) = false := by rw [hs]; decide
    have e10 : (s.toList == [82, 79, 85, 78, 68]) = false := by rw [hs]; decide
    have e11 : (s.toList == [77, 79, 68]) = false := by rw [hs]; decide
    have e12 : (s.toList == [73, 70, 69, 82, 82, 79, 82]) = false := by rw [hs]; decide
    have e13 : (s.toList == [76, 69, 70, 84]) = false := by rw [hs]; decide
    have e14 : (s.toList == [78, 79, 84]) = true := by rw [hs]; decide
    clear hs h0 h1 h2 h3 h4 h5 h6 h7 h8 h9 h10 h11 h12 h13
    go_enter Tryz.func22, Tryz.ntmps22
    go_wp2_with fail
    go_ret3
    exact ⟨rfl, rfl⟩
  by_cases h15 : l = [65, 66, 83]
  · subst h15
    have e0 : (s.toList == [83, 85, 77]) = false := by rw [hs]; decide
    have e1 : (s.toList == [67, 79, 85, 78, 84]) = false := by rw [hs]; decide
    have e2 : (s.toList == [77, 73, 78]) = false := by rw [hs]; decide
    have e3 : (s.toList == [77, 65, 88]) = false := by rw [hs]; decide
    have e4 : (s.toList == [65, 86, 69, 82, 65, 71, 69]) = false := by rw [hs]; decide
    have e5 : (s.toList == [65, 78, 68]) = false := by rw [hs]; decide
    have e6 : (s.toList == [79, 82]) = false := by rw [hs]; decide
    have e7 : (s.toList == [67, 79, 78, 67, 65, 84]) = false := by rw [hs]; decide
    have e8 : (s.toList == [73, 70]) = false := by rw [hs]; decide
    have e9 : (s.toList == [73, 78, 68, 69, 88]) = false := by rw [hs]; decide
    have e10 : (s.toList == [82, 79, 85, 78, 68]) = false := by rw [hs]; decide
    have e11 : (s.toList == [77, 79, 68]) = false := by rw [hs]; decide
    have e12 : (s.toList == [73, 70, 69, 82, 82, 79, 82]) = false := by rw [hs]; decide
    have e13 : (s.toList == [76, 69, 70, 84]) = false := by rw [hs]; decide
    have e14 : (s.toList == [78, 79, 84]) = false := by rw [hs]; decide
    have e15 : (s.toList == [65, 66, 83]) = true := by rw [hs]; decide
    clear hs h0 h1 h2 h3 h4 h5 h6 h7 h8 h9 h10 h11 h12 h13 h14
    go_enter Tryz.func22, Tryz.ntmps22
    go_wp2_with fail
    go_ret3
    exact ⟨rfl, rfl⟩
  by_cases h16 : l = [70, 76, 79, 79, 82]
  · subst h16
    have e0 : (s.toList == [83, 85, 77]) = false := by rw [hs]; decide
    have e1 : (s.toList == [67, 79, 85, 78, 84]) = false := by rw [hs]; decide
    have e2 : (s.toList == [77, 73, 78]) = false := by rw [hs]; decide
    have e3 : (s.toList == [77, 65, 88]) = false := by rw [hs]; decide
    have e4 : (s.toList == [65, 86, 69, 82, 65, 71, 69]) = false := by rw [hs]; decide
    have e5 : (s.toList == [65, 78, 68]) = false := by rw [hs]; decide
    have e6 : (s.toList == [79, 82]) = false := by rw [hs]; decide
    have e7 : (s.toList == [67, 79, 78, 67, 65, 84]) = false := by rw [hs]; decide
    have e8 : (s.toList == [73, 70]) = false := by rw [hs]; decide
    have e9 : (s.toList == [73, 78, 68, 69, 88]) = false := by rw [hs]; decide
    have e10 : (s.toList == [82, 79, 85, 78, 68]) = false := by rw [hs]; decide
    have e11 : (s.toList == [77, 79, 68]) = false := by rw [hs]; decide
    have e12 : (s.toList == [73, 70, 69, 82, 82, 79, 82]) = false := by rw [hs]; decide
    have e13 : (s.toList == [76, 69, 70, 84]) = false := by rw [hs]; decide
    have e14 : (s.toList == [78, 79, 84]) = false := by rw [hs]; decide
    have e15 : (s.toList == [65, 66, 83]) = false := by rw [hs]; decide
    have e16 : (s.toList == [70, 76, 79, 79, 82]) = true := by rw [hs]; decide
    clear hs h0 h1 h2 h3 h4 h5 h6 h7 h8 h9 h10 h11 h12 h13 h14 h15
    go_enter Tryz.func22, Tryz.ntmps22
    go_wp2_with fail
    go_ret3
    exact ⟨rfl, rfl⟩
  by_cases h17 : l = [83, 81, 82, 84]
  · subst h17
    have e0 : (s.toList == [83, 85, 77]) = false := by rw [hs]; decide
    have e1 : (s.toList == [67, 79, 85, 78, 84]) = false := by rw [hs]; decide
    have e2 : (s.toList == [77, 73, 78]) = false := by rw [hs]; decide
    have e3 : (s.toList == [77, 65, 88]) = false := by rw [hs]; decide
    have e4 : (s.toList == [65, 86, 69, 82, 65, 71, 69]) = false := by rw [hs]; decide
    have e5 : (s.toList == [65, 78, 68]) = false := by rw [hs]; decide
    have e6 : (s.toList == [79, 82]) = false := by rw [hs]; decide
    have e7 : (s.toList == [67, 79, 78, 67, 65, 84]) = false := by rw [hs]; decide
    have e8 : (s.toList == [73, 70]) = false := by rw [hs]; decide
    have e9 : (s.toList == [73, 78, 68, 69, 88]) = false := by rw [hs]; decide
    have e10 : (s.toList == [82, 79, 85, 78, 68]) = false := by rw [hs]; decide
    have e11 : (s.toList == [77, 79, 68]) = false := by rw [hs]; decide
    have e12 : (s.toList == [73, 70, 69, 82, 82, 79, 82]) = false := by rw [hs]; decide
    have e13 : (s.toList == [76, 69, 70, 84]) = false := by rw [hs]; decide
    have e14 : (s.toList == [78, 79, 84]) = false := by rw [hs]; decide
    have e15 : (s.toList == [65, 66, 83]) = false := by rw [hs]; decide
    have e16 : (s.toList == [70, 76, 79, 79, 82]) = false := by rw [hs]; decide
    have e17 : (s.toList == [83, 81, 82, 84]) = true := by rw [hs]; decide
    clear hs h0 h1 h2 h3 h4 h5 h6 h7 h8 h9 h10 h11 h12 h13 h14 h15 h16
    go_enter Tryz.func22, Tryz.ntmps22
    go_wp2_with fail
    go_ret3
    exact ⟨rfl, rfl⟩
  by_cases h18 : l = [76, 69, 78]
  · subst h18
    have e0 : (s.toList == [83, 85, 77]) = false := by rw [hs]; decide
    have e1 : (s.toList == [67, 79, 85, 78, 84]) = false := by rw [hs]; decide
    have e2 : (s.toList == [77, 73, 78]) = false := by rw [hs]; decide
    have e3 : (s.toList == [77, 65, 88]) = false := by rw [hs]; decide
    have e4 : (s.toList == [65, 86, 69, 82, 65, 71, 69]) = false := by rw [hs]; decide
    have e5 : (s.toList == [65, 78, 68]) = false := by rw [hs]; decide
    have e6 : (s.toList == [79, 82]) = false := by rw [hs]; decide
    have e7 : (s.toList == [67, 79, 78, 67, 65, 84]) = false := by rw [hs]; decide
    have e8 : (s.toList == [73, 70]) = false := by rw [hs]; decide
    have e9 : (s.toList == [73, 78, 68, 69, 88]) = false := by rw [hs]; decide
    have e10 : (s.toList == [82, 79, 85, 78, 68]) = false := by rw [hs]; decide
    have e11 : (s.toList == [77, 79, 68]) = false := by rw [hs]; decide
    have e12 : (s.toList == [73, 70, 69, 82, 82, 79, 82]) = false := by rw [hs]; decide
    have e13 : (s.toList == [76, 69, 70, 84]) = false := by rw [hs]; decide
    have e14 : (s.toList == [78, 79, 84]) = false := by rw [hs]; decide
    have e15 : (s.toList == [65, 66, 83]) = false := by rw [hs]; decide
    have e16 : (s.toList == [70, 76, 79, 79, 82]) = false := by rw [hs]; decide
    have e17 : (s.toList == [83, 81, 82, 84]) = false := by rw [hs]; decide
    have e18 : (s.toList == [76, 69, 78]) = true := by rw [hs]; decide
    clear hs h0 h1 h2 h3 h4 h5 h6 h7 h8 h9 h10 h11 h12 h13 h14 h15 h16 h17
    go_enter Tryz.func22, Tryz.ntmps22
    go_wp2_with fail
    go_ret3
    exact ⟨rfl, rfl⟩
  by_cases h19 : l = [73, 83, 69, 82, 82, 79, 82]
  · subst h19
    have e0 : (s.toList == [83, 85, 77]) = false := by rw [hs]; decide
    have e1 : (s.toList == [67, 79, 85, 78, 84]) = false := by rw [hs]; decide
    have e2 : (s.toList == [77, 73, 78]) = false := by rw [hs]; decide
    have e3 : (s.toList == [77, 65, 88]) = false := by rw [hs]; decide
    have e4 : (s.toList == [65, 86, 69, 82, 65, 71, 69]) = false := by rw [hs]; decide
    have e5 : (s.toList == [65, 78, 68]) = false := by rw [hs]; decide
    have e6 : (s.toList == [79, 82]) = false := by rw [hs]; decide
    have e7 : (s.toList == [67, 79, 78, 67, 65, 84]) = false := by rw [hs]; decide
    have e8 : (s.toList == [73, 70]) = false := by rw [hs]; decide
    have e9 : (s.toList == [73, 78, 68, 69, 88]) = false := by rw [hs]; decide
    have e10 : (s.toList == [82, 79, 85, 78, 68]) = false := by rw [hs]; decide
    have e11 : (s.toList == [77, 79, 68]) = false := by rw [hs]; decide
    have e12 : (s.toList == [73, 70, 69, 82, 82, 79, 82]) = false := by rw [hs]; decide
    have e13 : (s.toList == [76, 69, 70, 84]) = false := by rw [hs]; decide
    have e14 : (s.toList == [78, 79, 84]) = false := by rw [hs]; decide
    have e15 : (s.toList == [65, 66, 83]) = false := by rw [hs]; decide
    have e16 : (s.toList == [70, 76, 79, 79, 82]) = false := by rw [hs]; decide
    have e17 : (s.toList == [83, 81, 82, 84]) = false := by rw [hs]; decide
    have e18 : (s.toList == [76, 69, 78]) = false := by rw [hs]; decide
    have e19 : (s.toList == [73, 83, 69, 82, 82, 79, 82]) = true := by rw [hs]; decide
    clear hs h0 h1 h2 h3 h4 h5 h6 h7 h8 h9 h10 h11 h12 h13 h14 h15 h16 h17 h18
    go_enter Tryz.func22, Tryz.ntmps22
    go_wp2_with fail
    go_ret3
    exact ⟨rfl, rfl⟩
  have e0 : (s.toList == [83, 85, 77]) = false := by rw [hs]; simpa using h0
  have e1 : (s.toList == [67, 79, 85, 78, 84]) = false := by rw [hs]; simpa using h1
  have e2 : (s.toList == [77, 73, 78]) = false := by rw [hs]; simpa using h2
  have e3 : (s.toList == [77, 65, 88]) = false := by rw [hs]; simpa using h3
  have e4 : (s.toList == [65, 86, 69, 82, 65, 71, 69]) = false := by rw [hs]; simpa using h4
  have e5 : (s.toList == [65, 78, 68]) = false := by rw [hs]; simpa using h5
  have e6 : (s.toList == [79, 82]) = false := by rw [hs]; simpa using h6
  have e7 : (s.toList == [67, 79, 78, 67, 65, 84]) = false := by rw [hs]; simpa using h7
  have e8 : (s.toList == [73, 70]) = false := by rw [hs]; simpa using h8
  have e9 : (s.toList == [73, 78, 68, 69, 88]) = false := by rw [hs]; simpa using h9
  have e10 : (s.toList == [82, 79, 85, 78, 68]) = false := by rw [hs]; simpa using h10
  have e11 : (s.toList == [77, 79, 68]) = false := by rw [hs]; simpa using h11
  have e12 : (s.toList == [73, 70, 69, 82, 82, 79, 82]) = false := by rw [hs]; simpa using h12
  have e13 : (s.toList == [76, 69, 70, 84]) = false := by rw [hs]; simpa using h13
  have e14 : (s.toList == [78, 79, 84]) = false := by rw [hs]; simpa using h14
  have e15 : (s.toList == [65, 66, 83]) = false := by rw [hs]; simpa using h15
  have e16 : (s.toList == [70, 76, 79, 79, 82]) = false := by rw [hs]; simpa using h16
  have e17 : (s.toList == [83, 81, 82, 84]) = false := by rw [hs]; simpa using h17
  have e18 : (s.toList == [76, 69, 78]) = false := by rw [hs]; simpa using h18
  have e19 : (s.toList == [73, 83, 69, 82, 82, 79, 82]) = false := by rw [hs]; simpa using h19
  have HK : Hid (kno l = none) := by show _ = _; simp [kno, kn1, kn2, kn3, kn4, kn5, h0, h1, h2, h3, h4, h5, h6, h7, h8, h9, h10, h11, h12, h13, h14, h15, h16, h17, h18, h19]
  clear hs h0 h1 h2 h3 h4 h5 h6 h7 h8 h9 h10 h11 h12 h13 h14 h15 h16 h17 h18 h19
  go_enter Tryz.func22, Tryz.ntmps22
  go_wp2_with fail
  go_ret3
  unfold knA knB
  rw [HK.out]
  exact ⟨rfl, rfl⟩
theorem rpower_any (s : ByteArray) (w : World) :
    Calls Tryz.prog 21 #[.string s] w fun e w' => e = .returned (.int .i64 ((bnd s.data.toList : Nat) : Int)) ∧ w' = w := by
  have hs := ByteArray.toList_eq s
  obtain ⟨l, hl⟩ : ∃ l, s.data.toList = l := ⟨_, rfl⟩
  rw [hl] at hs ⊢
  clear hl
  by_cases h0 : l = [61]
  · subst h0
    have e0 : (s.toList == [61]) = true := by rw [hs]; decide
    clear hs 
    go_enter Tryz.func21, Tryz.ntmps21
    go_wp2_with fail
    go_ret
    exact ⟨rfl, rfl⟩
  by_cases h1 : l = [60, 62]
  · subst h1
    have e0 : (s.toList == [61]) = false := by rw [hs]; decide
    have e1 : (s.toList == [60, 62]) = true := by rw [hs]; decide
    clear hs h0
    go_enter Tryz.func21, Tryz.ntmps21
    go_wp2_with fail
    go_ret
    exact ⟨rfl, rfl⟩
  by_cases h2 : l = [60]
  · subst h2
    have e0 : (s.toList == [61]) = false := by rw [hs]; decide
    have e1 : (s.toList == [60, 62]) = false := by rw [hs]; decide
    have e2 : (s.toList == [60]) = true := by rw [hs]; decide
    clear hs h0 h1
    go_enter Tryz.func21, Tryz.ntmps21
    go_wp2_with fail
    go_ret
    exact ⟨rfl, rfl⟩
  by_cases h3 : l = [60, 61]
  · subst h3
    have e0 : (s.toList == [61]) = false := by rw [hs]; decide
    have e1 : (s.toList == [60, 62]) = false := by rw [hs]; decide
    have e2 : (s.toList == [60]) = false := by rw [hs]; decide
    have e3 : (s.toList == [60, 61]) = true := by rw [hs]; decide
    clear hs h0 h1 h2
    go_enter Tryz.func21, Tryz.ntmps21
    go_wp2_with fail
    go_ret
    exact ⟨rfl, rfl⟩
  by_cases h4 : l = [62]
  · subst h4
    have e0 : (s.toList == [61]) = false := by rw [hs]; decide
    have e1 : (s.toList == [60, 62]) = false := by rw [hs]; decide
    have e2 : (s.toList == [60]) = false := by rw [hs]; decide
    have e3 : (s.toList == [60, 61]) = false := by rw [hs]; decide
    have e4 : (s.toList == [62]) = true := by rw [hs]; decide
    clear hs h0 h1 h2 h3
    go_enter Tryz.func21, Tryz.ntmps21
    go_wp2_with fail
    go_ret
    exact ⟨rfl, rfl⟩
  by_cases h5 : l = [62, 61]
  · subst h5
    have e0 : (s.toList == [61]) = false := by rw [hs]; decide
    have e1 : (s.toList == [60, 62]) = false := by rw [hs]; decide
    have e2 : (s.toList == [60]) = false := by rw [hs]; decide
    have e3 : (s.toList == [60, 61]) = false := by rw [hs]; decide
    have e4 : (s.toList == [62]) = false := by rw [hs]; decide
    have e5 : (s.toList == [62, 61]) = true := by rw [hs]; decide
    clear hs h0 h1 h2 h3 h4
    go_enter Tryz.func21, Tryz.ntmps21
    go_wp2_with fail
    go_ret
    exact ⟨rfl, rfl⟩
  by_cases h6 : l = [38]
  · subst h6
    have e0 : (s.toList == [61]) = false := by rw [hs]; decide
    have e1 : (s.toList == [60, 62]) = false := by rw [hs]; decide
    have e2 : (s.toList == [60]) = false := by rw [hs]; decide
    have e3 : (s.toList == [60, 61]) = false := by rw [hs]; decide
    have e4 : (s.toList == [62]) = false := by rw [hs]; decide
    have e5 : (s.toList == [62, 61]) = false := by rw [hs]; decide
    have e6 : (s.toList == [38]) = true := by rw [hs]; decide
    clear hs h0 h1 h2 h3 h4 h5
    go_enter Tryz.func21, Tryz.ntmps21
    go_wp2_with fail
    go_ret
    exact ⟨rfl, rfl⟩
  by_cases h7 : l = [43]
  · subst h7
    have e0 : (s.toList == [61]) = false := by rw [hs]; decide
    have e1 : (s.toList == [60, 62]) = false := by rw [hs]; decide
    have e2 : (s.toList == [60]) = false := by rw [hs]; decide
    have e3 : (s.toList == [60, 61]) = false := by rw [hs]; decide
    have e4 : (s.toList == [62]) = false := by rw [hs]; decide
    have e5 : (s.toList == [62, 61]) = false := by rw [hs]; decide
    have e6 : (s.toList == [38]) = false := by rw [hs]; decide
    have e7 : (s.toList == [43]) = true := by rw [hs]; decide
    clear hs h0 h1 h2 h3 h4 h5 h6
    go_enter Tryz.func21, Tryz.ntmps21
    go_wp2_with fail
    go_ret
    exact ⟨rfl, rfl⟩
  by_cases h8 : l = [45]
  · subst h8
    have e0 : (s.toList == [61]) = false := by rw [hs]; decide
    have e1 : (s.toList == [60, 62]) = false := by rw [hs]; decide
    have e2 : (s.toList == [60]) = false := by rw [hs]; decide
    have e3 : (s.toList == [60, 61]) = false := by rw [hs]; decide
    have e4 : (s.toList == [62]) = false := by rw [hs]; decide
    have e5 : (s.toList == [62, 61]) = false := by rw [hs]; decide
    have e6 : (s.toList == [38]) = false := by rw [hs]; decide
    have e7 : (s.toList == [43]) = false := by rw [hs]; decide
    have e8 : (s.toList == [45]) = true := by rw [hs]; decide
    clear hs h0 h1 h2 h3 h4 h5 h6 h7
    go_enter Tryz.func21, Tryz.ntmps21
    go_wp2_with fail
    go_ret
    exact ⟨rfl, rfl⟩
  by_cases h9 : l = [42]
  · subst h9
    have e0 : (s.toList == [61]) = false := by rw [hs]; decide
    have e1 : (s.toList == [60, 62]) = false := by rw [hs]; decide
    have e2 : (s.toList == [60]) = false := by rw [hs]; decide
    have e3 : (s.toList == [60, 61]) = false := by rw [hs]; decide
    have e4 : (s.toList == [62]) = false := by rw [hs]; decide
    have e5 : (s.toList == [62, 61]) = false := by rw [hs]; decide
    have e6 : (s.toList == [38]) = false := by rw [hs]; decide
    have e7 : (s.toList == [43]) = false := by rw [hs]; decide
    have e8 : (s.toList == [45]) = false := by rw [hs]; decide
    have e9 : (s.toList == [42]) = true := by rw [hs]; decide
    clear hs h0 h1 h2 h3 h4 h5 h6 h7 h8
    go_enter Tryz.func21, Tryz.ntmps21
    go_wp2_with fail
    go_ret
    exact ⟨rfl, rfl⟩
  by_cases h10 : l = [47]
  · subst h10
    have e0 : (s.toList == [61]) = false := by rw [hs]; decide
    have e1 : (s.toList == [60, 62]) = false := by rw [hs]; decide
    have e2 : (s.toList == [60]) = false := by rw [hs]; decide
    have e3 : (s.toList == [60, 61]) = false := by rw [hs]; decide
    have e4 : (s.toList == [62]) = false := by rw [hs]; decide
    have e5 : (s.toList == [62, 61]) = false := by rw [hs]; decide
    have e6 : (s.toList == [38]) = false := by rw [hs]; decide
    have e7 : (s.toList == [43]) = false := by rw [hs]; decide
    have e8 : (s.toList == [45]) = false := by rw [hs]; decide
    have e9 : (s.toList == [42]) = false := by rw [hs]; decide
    have e10 : (s.toList == [47]) = true := by rw [hs]; decide
    clear hs h0 h1 h2 h3 h4 h5 h6 h7 h8 h9
    go_enter Tryz.func21, Tryz.ntmps21
    go_wp2_with fail
    go_ret
    exact ⟨rfl, rfl⟩
  have e0 : (s.toList == [61]) = false := by rw [hs]; simpa using h0
  have e1 : (s.toList == [60, 62]) = false := by rw [hs]; simpa using h1
  have e2 : (s.toList == [60]) = false := by rw [hs]; simpa using h2
  have e3 : (s.toList == [60, 61]) = false := by rw [hs]; simpa using h3
  have e4 : (s.toList == [62]) = false := by rw [hs]; simpa using h4
  have e5 : (s.toList == [62, 61]) = false := by rw [hs]; simpa using h5
  have e6 : (s.toList == [38]) = false := by rw [hs]; simpa using h6
  have e7 : (s.toList == [43]) = false := by rw [hs]; simpa using h7
  have e8 : (s.toList == [45]) = false := by rw [hs]; simpa using h8
  have e9 : (s.toList == [42]) = false := by rw [hs]; simpa using h9
  have e10 : (s.toList == [47]) = false := by rw [hs]; simpa using h10
  have HK : Hid (bnd l = 0) := by show _ = _; simp [bnd, bd1, h0, h1, h2, h3, h4, h5, h6, h7, h8, h9, h10]
  clear hs h0 h1 h2 h3 h4 h5 h6 h7 h8 h9 h10
  go_enter Tryz.func21, Tryz.ntmps21
  go_wp2_with fail
  go_ret
  exact ⟨ret_int (by rw [HK.out]; rfl), rfl⟩
end Go.Proofs.YtmapfpeaaipdoaaGreatDoor

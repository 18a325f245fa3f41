/-
  Contracts of both Kept: what they answer, on every string.
-/
import Derived.Test.YtljlgjgfmgilaaaGreatRows
import Derived.WalkKit
import Derived.ProofKit
import Derived.WalkLawsBesides
namespace Go.Proofs.YtljlgjgfmgilaaaGreat.Lk
open Go Go.RowKit

/-- 'Kept' as a truth value: the four words by their bytes. -/
def keptB (s : ByteArray) : Bool := s.toList == [115, 116, 97, 116, 101] || (s.toList == [101, 118, 101, 110, 116] || (s.toList == [118, 105, 101, 119] || s.toList == [110, 111, 116]))
theorem ret_bool {a b : Bool} (h : a = b) : Ending.returned (.bool a) = .returned (.bool b) := by rw [h]
set_option maxHeartbeats 1000000 in
theorem keptS_any (s : ByteArray) (w : World) :
    Calls Tryz.prog 74 #[.string s] w fun e w' => e = .returned (.bool (keptB s)) ∧ w' = w := by
  by_cases h0 : s.toList = [115, 116, 97, 116, 101]
  · have HK : Hid (keptB s = true) := (by unfold keptB; rw [h0]; rfl : keptB s = true)
    go_enter Tryz.func74, Tryz.ntmps74
    go_wp2
    go_ret
    exact ⟨ret_bool HK.out.symm, rfl⟩
  by_cases h1 : s.toList = [101, 118, 101, 110, 116]
  · have HK : Hid (keptB s = true) := (by unfold keptB; rw [h1]; rfl : keptB s = true)
    go_enter Tryz.func74, Tryz.ntmps74
    go_wp2
    go_ret
    exact ⟨ret_bool HK.out.symm, rfl⟩
  by_cases h2 : s.toList = [118, 105, 101, 119]
  · have HK : Hid (keptB s = true) := (by unfold keptB; rw [h2]; rfl : keptB s = true)
    go_enter Tryz.func74, Tryz.ntmps74
    go_wp2
    go_ret
    exact ⟨ret_bool HK.out.symm, rfl⟩
  by_cases h3 : s.toList = [110, 111, 116]
  · have HK : Hid (keptB s = true) := (by unfold keptB; rw [h3]; rfl : keptB s = true)
    go_enter Tryz.func74, Tryz.ntmps74
    go_wp2
    go_ret
    exact ⟨ret_bool HK.out.symm, rfl⟩
  have b0 : (s.toList == [115, 116, 97, 116, 101]) = false := by simpa using h0
  have b1 : (s.toList == [101, 118, 101, 110, 116]) = false := by simpa using h1
  have b2 : (s.toList == [118, 105, 101, 119]) = false := by simpa using h2
  have b3 : (s.toList == [110, 111, 116]) = false := by simpa using h3
  have HK : Hid (keptB s = false) := (by unfold keptB; rw [b0, b1, b2, b3]; rfl : keptB s = false)
  go_enter Tryz.func74, Tryz.ntmps74
  go_wp2
  go_ret
  exact ⟨ret_bool HK.out.symm, rfl⟩

set_option maxHeartbeats 1000000 in
theorem keptI_any (s : ByteArray) (w : World) :
    Calls Tryz.prog 111 #[.string s] w fun e w' => e = .returned (.bool (keptB s)) ∧ w' = w := by
  by_cases h0 : s.toList = [115, 116, 97, 116, 101]
  · have HK : Hid (keptB s = true) := (by unfold keptB; rw [h0]; rfl : keptB s = true)
    go_enter Tryz.func111, Tryz.ntmps111
    go_wp2
    go_ret
    exact ⟨ret_bool HK.out.symm, rfl⟩
  by_cases h1 : s.toList = [101, 118, 101, 110, 116]
  · have HK : Hid (keptB s = true) := (by unfold keptB; rw [h1]; rfl : keptB s = true)
    go_enter Tryz.func111, Tryz.ntmps111
    go_wp2
    go_ret
    exact ⟨ret_bool HK.out.symm, rfl⟩
  by_cases h2 : s.toList = [118, 105, 101, 119]
  · have HK : Hid (keptB s = true) := (by unfold keptB; rw [h2]; rfl : keptB s = true)
    go_enter Tryz.func111, Tryz.ntmps111
    go_wp2
    go_ret
    exact ⟨ret_bool HK.out.symm, rfl⟩
  by_cases h3 : s.toList = [110, 111, 116]
  · have HK : Hid (keptB s = true) := (by unfold keptB; rw [h3]; rfl : keptB s = true)
    go_enter Tryz.func111, Tryz.ntmps111
    go_wp2
    go_ret
    exact ⟨ret_bool HK.out.symm, rfl⟩
  have b0 : (s.toList == [115, 116, 97, 116, 101]) = false := by simpa using h0
  have b1 : (s.toList == [101, 118, 101, 110, 116]) = false := by simpa using h1
  have b2 : (s.toList == [118, 105, 101, 119]) = false := by simpa using h2
  have b3 : (s.toList == [110, 111, 116]) = false := by simpa using h3
  have HK : Hid (keptB s = false) := (by unfold keptB; rw [b0, b1, b2, b3]; rfl : keptB s = false)
  go_enter Tryz.func111, Tryz.ntmps111
  go_wp2
  go_ret
  exact ⟨ret_bool HK.out.symm, rfl⟩

end Go.Proofs.YtljlgjgfmgilaaaGreat.Lk

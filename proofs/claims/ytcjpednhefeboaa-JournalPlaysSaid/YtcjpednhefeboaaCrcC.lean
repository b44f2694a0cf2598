/- CRC-32C: frames. -/
import Derived.Test.YtcjpednhefeboaaCrcB
namespace Go.Proofs.Ytcjpednhefeboaa
open Go.RowKit
set_option linter.unusedVariables false

theorem Cr.four_size (n : Nat) : (Cr.four n).size = 4 := rfl
theorem Cr.sum_lt (s : ByteArray) : Cr.sum s < 4294967296 := Cr.sumL_lt _
/-- A text's frame. -/
def Cr.frame (s : ByteArray) : ByteArray := Cr.four s.size ++ Cr.four (Cr.sum s) ++ s
theorem Cr.frame_size (s : ByteArray) : (Cr.frame s).size = s.size + 8 := by
  unfold Cr.frame
  rw [ByteArray.size_append, ByteArray.size_append, Cr.four_size, Cr.four_size]
  omega

set_option maxHeartbeats 400000 in
theorem Frame_some (s : ByteArray) (h : s.size ≤ 16384) (w : World) :
    Calls Try.prog 41 #[.string s] w (RetBelow (.string (Cr.frame s)) w) := by
  have z1 := Cr.four_size s.size
  have z2 := Cr.four_size (Cr.sum s)
  go_enter Try.func41, Try.ntmps41
  go_wp2_with fail
  refine (bytesOf_any s.size (by omega) _).mono ?_
  rintro e w1 ⟨rfl, g1⟩
  have G1 := Lib.hid g1; clear g1
  go_wp2_with fail
  refine (Sum_any s (by omega) _).mono ?_
  rintro e w2 ⟨rfl, rfl⟩
  go_wp2_with fail
  refine (bytesOf_any (Cr.sum s) (Cr.sum_lt s) _).mono ?_
  rintro e w2 ⟨rfl, g2⟩
  have G2 := Lib.hid g2; clear g2
  go_wp2_with fail
  go_ret
  exact ⟨rfl, below_trans G1.out G2.out⟩

theorem Frame_none (s : ByteArray) (h : 16384 < s.size) (w : World) :
    Calls Try.prog 41 #[.string s] w (RetBelow (.string ⟨#[]⟩) w) := by
  go_enter Try.func41, Try.ntmps41
  go_wp2
  go_ret
  exact ⟨rfl, Below.refl _ _⟩

theorem rFrame_none (s : ByteArray) (h : 16384 < s.size) (w : World) :
    Calls Try.prog 28 #[.string s] w (RetBelow (.string ⟨#[]⟩) w) := by
  go_enter Try.func28, Try.ntmps28
  go_wp2
  go_ret
  exact ⟨rfl, Below.refl _ _⟩

set_option maxHeartbeats 400000 in
theorem rFrame_some (s : ByteArray) (h : s.size ≤ 16384) (w : World) :
    Calls Try.prog 28 #[.string s] w (RetBelow (.string (Cr.frame s)) w) := by
  have z1 := Cr.four_size s.size
  have z2 := Cr.four_size (Cr.sum s)
  go_enter Try.func28, Try.ntmps28
  go_wp2_with fail
  refine (rFour_any s.size (by omega) _).mono ?_
  rintro e w1 ⟨rfl, g1⟩
  have G1 := Lib.hid g1; clear g1
  go_wp2_with fail
  refine (rSum_any s (by omega) _).mono ?_
  rintro e w2 ⟨rfl, rfl⟩
  go_wp2_with fail
  refine (rFour_any (Cr.sum s) (Cr.sum_lt s) _).mono ?_
  rintro e w2 ⟨rfl, g2⟩
  have G2 := Lib.hid g2; clear g2
  go_wp2_with fail
  go_ret
  exact ⟨rfl, below_trans G1.out G2.out⟩

/-- What Frame answers. -/
def Cr.frm (s : ByteArray) : ByteArray := if s.size ≤ 16384 then Cr.frame s else ⟨#[]⟩

theorem Frame_any (s : ByteArray) (w : World) : Calls Try.prog 41 #[.string s] w (RetBelow (.string (Cr.frm s)) w) := by
  unfold Cr.frm
  by_cases h : s.size ≤ 16384
  · rw [if_pos h]; exact Frame_some s h w
  · rw [if_neg h]; exact Frame_none s (by omega) w

theorem rFrame_any (s : ByteArray) (w : World) : Calls Try.prog 28 #[.string s] w (RetBelow (.string (Cr.frm s)) w) := by
  unfold Cr.frm
  by_cases h : s.size ≤ 16384
  · rw [if_pos h]; exact rFrame_some s h w
  · rw [if_neg h]; exact rFrame_none s (by omega) w

theorem Clone_any (s : ByteArray) (h : s.size ≤ 9000000000000) (w : World) : Calls Try.prog 48 #[.string s] w (RetBelow (.string s) w) := by
  go_enter Try.func48, Try.ntmps48
  go_wp2_with fail
  refine (Try.stringslite_Clone s _ (by omega)).mono ?_
  rintro e w1 ⟨rfl, g1⟩
  have G1 := Lib.hid g1; clear g1
  go_wp2_with fail
  go_ret
  exact ⟨rfl, G1.out⟩

end Go.Proofs.Ytcjpednhefeboaa

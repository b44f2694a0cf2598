/- CRC-32C: the chapter's examples. -/
import Derived.Test.YtnkpabndlcipdaaCrcE
namespace Go.Proofs.Ytnkpabndlcipdaa
open Go.RowKit
set_option linter.unusedVariables false

theorem frm_abc : Cr.frm ⟨#[97, 98, 99]⟩ = ⟨#[3, 0, 0, 0, 183, 63, 75, 54, 97, 98, 99]⟩ := by decide +kernel
theorem frm_none : Cr.frm ⟨#[]⟩ = ⟨#[0, 0, 0, 0, 0, 0, 0, 0]⟩ := by decide +kernel
theorem sum_nine : Cr.sum ⟨#[49, 50, 51, 52, 53, 54, 55, 56, 57]⟩ = 3808858755 := by decide +kernel
theorem read_abc : Cr.read (⟨#[3, 0, 0, 0, 183, 63, 75, 54, 97, 98, 99]⟩ ++ ⟨#[120]⟩) = (⟨#[97, 98, 99]⟩, 11, 0) := by decide +kernel

set_option maxHeartbeats 400000 in
theorem cAwake_any (w : World) : Calls Try.prog 8 #[] w (RetBelow (.bool true) w) := by
  have c1 := fun w => Frame_any ⟨#[97, 98, 99]⟩ w
  rw [frm_abc] at c1
  have c2 := fun w => Frame_any ⟨#[]⟩ w
  rw [frm_none] at c2
  have c3 := fun w => Read_any (⟨#[3, 0, 0, 0, 183, 63, 75, 54, 97, 98, 99]⟩ ++ ⟨#[120]⟩) w
  rw [read_abc] at c3
  have c4 := fun w => Sum_any ⟨#[49, 50, 51, 52, 53, 54, 55, 56, 57]⟩ (by decide) w
  rw [sum_nine] at c4
  have C1 := Lib.hid c1; have C2 := Lib.hid c2; have C3 := Lib.hid c3; have C4 := Lib.hid c4
  clear c1 c2 c3 c4
  go_enter Try.func8, Try.ntmps8
  go_wp2_with fail
  refine (C1.out _).mono ?_
  rintro e w1 ⟨rfl, g1⟩
  have G1 := Lib.hid g1; clear g1
  go_wp2_with fail
  refine (C3.out _).mono ?_
  rintro e w2 ⟨rfl, g2⟩
  have G2 := Lib.hid (below_trans G1.out g2); clear g2
  unfold Cr.ans
  go_wp2_with fail
  refine (C4.out _).mono ?_
  rintro e w3 ⟨rfl, rfl⟩
  go_wp2_with fail
  refine (C2.out _).mono ?_
  rintro e w4 ⟨rfl, g4⟩
  have G4 := Lib.hid (below_trans G2.out g4); clear g4
  go_wp2_with fail
  go_ret
  exact ⟨rfl, G4.out⟩

end Go.Proofs.Ytnkpabndlcipdaa

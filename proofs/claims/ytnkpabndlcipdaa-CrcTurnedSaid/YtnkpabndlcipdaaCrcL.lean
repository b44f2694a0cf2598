/- CRC-32C: the walks of the statements. -/
import Derived.Test.YtnkpabndlcipdaaCrcF
import Derived.Test.YtnkpabndlcipdaaCrcG
namespace Go.Proofs.Ytnkpabndlcipdaa
open Go.RowKit
set_option linter.unusedVariables false

set_option maxHeartbeats 1000000 in
theorem CrcSums_walk (s : ByteArray) (w : World) : Calls Try.prog 3 #[.string s] w (RetBelow (.bool true) w) := by
  by_cases h : 20000 < s.size
  · go_enter Try.func3, Try.ntmps3
    go_wp2_with fail
    refine (cAwake_any _).mono ?_
    rintro e w1 ⟨rfl, g1⟩
    have G1 := Lib.hid g1; clear g1
    go_wp2_with fail
    go_ret
    exact ⟨rfl, G1.out⟩
  · go_enter Try.func3, Try.ntmps3
    go_wp2_with fail
    refine (Sum_any s (by omega) _).mono ?_
    rintro e w1 ⟨rfl, rfl⟩
    go_wp2_with fail
    refine (rSum_any s (by omega) _).mono ?_
    rintro e w1 ⟨rfl, rfl⟩
    go_wp2_with fail
    refine (Frame_any s _).mono ?_
    rintro e w1 ⟨rfl, g1⟩
    have G1 := Lib.hid g1; clear g1
    go_wp2_with fail
    refine (rFrame_any s _).mono ?_
    rintro e w2 ⟨rfl, g2⟩
    have G2 := Lib.hid (below_trans G1.out g2); clear g2
    go_wp2_with fail
    refine (cAwake_any _).mono ?_
    rintro e w3 ⟨rfl, g3⟩
    have G3 := Lib.hid (below_trans G2.out g3); clear g3
    go_wp2_with fail
    go_ret
    exact ⟨rfl, G3.out⟩

set_option maxHeartbeats 1000000 in
theorem CrcReads_walk (s : ByteArray) (w : World) : Calls Try.prog 4 #[.string s] w (RetBelow (.bool true) w) := by
  by_cases h : 20000 < s.size
  · go_enter Try.func4, Try.ntmps4
    go_wp2_with fail
    refine (cAwake_any _).mono ?_
    rintro e w1 ⟨rfl, g1⟩
    have G1 := Lib.hid g1; clear g1
    go_wp2_with fail
    go_ret
    exact ⟨rfl, G1.out⟩
  · go_enter Try.func4, Try.ntmps4
    go_wp2_with fail
    refine (Read_any s _).mono ?_
    rintro e w1 ⟨rfl, g1⟩
    have G1 := Lib.hid g1; clear g1
    unfold Cr.ans
    go_wp2_with fail
    refine (rRead_any s (by omega) _).mono ?_
    rintro e w2 ⟨rfl, g2⟩
    have G2 := Lib.hid (below_trans G1.out g2); clear g2
    unfold Cr.ans
    go_wp2_with fail
    refine (cAwake_any _).mono ?_
    rintro e w3 ⟨rfl, g3⟩
    have G3 := Lib.hid (below_trans G2.out g3); clear g3
    go_wp2_with fail
    go_ret
    exact ⟨rfl, G3.out⟩

set_option maxHeartbeats 1000000 in
theorem CrcBack_walk (s t : ByteArray) (w : World) : Calls Try.prog 5 #[.string s, .string t] w (RetBelow (.bool true) w) := by
  by_cases h : 16384 < s.size
  · go_enter Try.func5, Try.ntmps5
    go_wp2_with fail
    refine (cAwake_any _).mono ?_
    rintro e w1 ⟨rfl, g1⟩
    have G1 := Lib.hid g1; clear g1
    go_wp2_with fail
    go_ret
    exact ⟨rfl, G1.out⟩
  by_cases h' : 20000 < t.size
  · go_enter Try.func5, Try.ntmps5
    go_wp2_with fail
    refine (cAwake_any _).mono ?_
    rintro e w1 ⟨rfl, g1⟩
    have G1 := Lib.hid g1; clear g1
    go_wp2_with fail
    go_ret
    exact ⟨rfl, G1.out⟩
  · have c3 := fun w => Read_any (Cr.frame s ++ t) w
    rw [read_frame s t (by omega)] at c3
    have C3 := Lib.hid c3; clear c3
    have z1 := Cr.frame_size s
    go_enter Try.func5, Try.ntmps5
    go_wp2_with fail
    refine (Frame_some s (by omega) _).mono ?_
    rintro e w1 ⟨rfl, g1⟩
    have G1 := Lib.hid g1; clear g1
    go_wp2_with fail
    refine (C3.out _).mono ?_
    rintro e w2 ⟨rfl, g2⟩
    have G2 := Lib.hid (below_trans G1.out g2); clear g2
    unfold Cr.ans
    go_wp2_with fail
    refine (cAwake_any _).mono ?_
    rintro e w3 ⟨rfl, g3⟩
    have G3 := Lib.hid (below_trans G2.out g3); clear g3
    go_wp2_with fail
    go_ret
    exact ⟨rfl, G3.out⟩

theorem uModN (a : Int) (m : Nat) (h : 0 < m) : ∃ k : Nat, k < m ∧ (IntKind.u64.wrap a).tmod (m : Int) = (k : Int) := by
  obtain ⟨r, hr, r0, r1⟩ := uMod a (m : Int) (by omega)
  exact ⟨r.toNat, by omega, by rw [hr]; omega⟩

set_option maxHeartbeats 1000000 in
theorem CrcShort_walk (s : ByteArray) (n : Int) (n0 : -9223372036854775808 ≤ n) (n1 : n ≤ 9223372036854775807) (w : World) : Calls Try.prog 7 #[.string s, .int .i64 n] w (RetBelow (.bool true) w) := by
  by_cases h : 16384 < s.size
  · go_enter Try.func7, Try.ntmps7
    go_wp2_with fail
    refine (cAwake_any _).mono ?_
    rintro e w1 ⟨rfl, g1⟩
    have G1 := Lib.hid g1; clear g1
    go_wp2_with fail
    go_ret
    exact ⟨rfl, G1.out⟩
  · have z1 := Cr.frame_size s
    obtain ⟨k, hk, ek⟩ := uModN n (s.size + 8) (by omega)
    have ek' : (IntKind.u64.wrap n).tmod ((s.size : Int) + 8) = (k : Int) := ek
    clear ek
    have c3 := fun w => Read_any ((Cr.frame s).extract 0 k) w
    rw [read_short s ((Cr.frame s).extract 0 k) k (by omega) hk (by rw [ba_cut, frame_list]; rfl)] at c3
    have C3 := Lib.hid c3; clear c3
    go_enter Try.func7, Try.ntmps7
    go_wp2_with fail
    refine (Frame_some s (by omega) _).mono ?_
    rintro e w1 ⟨rfl, g1⟩
    have G1 := Lib.hid g1; clear g1
    go_wp2_with fail
    refine (C3.out _).mono ?_
    rintro e w2 ⟨rfl, g2⟩
    have G2 := Lib.hid (below_trans G1.out g2); clear g2
    unfold Cr.ans
    go_wp2_with fail
    refine (cAwake_any _).mono ?_
    rintro e w3 ⟨rfl, g3⟩
    have G3 := Lib.hid (below_trans G2.out g3); clear g3
    go_wp2_with fail
    go_ret
    exact ⟨rfl, G3.out⟩

end Go.Proofs.Ytnkpabndlcipdaa

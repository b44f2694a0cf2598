/- The statement on Scan, over a journal that keeps its contracts. -/
import Derived.Test.YtcjpednhefeboaaJA
namespace Go.Proofs.Ytcjpednhefeboaa
open Go.RowKit
set_option linter.unusedVariables false

set_option maxRecDepth 8000 in
set_option maxHeartbeats 1000000 in
theorem JournalScans_walk (C : JC) (s : ByteArray) (w : World) : Calls Try.prog 3 #[.string s] w (RetBelow (.bool true) w) := by
  have a := Lib.hid (jAwake_any C)
  obtain ⟨z, hz⟩ : ∃ z : Int, (s.size : Int) = z := ⟨_, rfl⟩
  by_cases hb : 60000 < z
  · go_enter Try.func3, Try.ntmps3
    go_wp2_with fail
    refine (a.out _).mono ?_
    rintro e w1 ⟨rfl, g⟩
    have G := Lib.hid g; clear g
    go_wp2_with fail
    go_ret
    exact ⟨rfl, G.out⟩
  · have c1 := Lib.hid (C.scan s (by omega) w)
    have hr := fun w => rScan_any s (by omega) w
    have c2 := Lib.hid hr
    clear hr
    go_enter Try.func3, Try.ntmps3
    go_wp2_with fail
    refine c1.out.mono ?_
    rintro e w1 ⟨ao, ca, rfl, t1, h1, g1⟩
    have T1 := Lib.hid (And.intro t1 g1)
    clear t1 h1 g1 c1
    go_wp2_with fail
    refine (c2.out _).mono ?_
    rintro e w2 ⟨bo, cb, rfl, t2, h2, g2⟩
    obtain ⟨ba, la, _⟩ := (T1.out.1.below g2).lst
    obtain ⟨bb, lb, _⟩ := t2.lst
    have cs := Same_any la lb
    rw [decide_eq_true rfl] at cs
    have CS := Lib.hid cs
    have G2 := Lib.hid (below_trans T1.out.2 g2)
    clear cs la lb t2 h2 g2 T1 c2
    go_wp2_with fail
    refine CS.out.mono ?_
    rintro e w3 ⟨rfl, n, rfl⟩
    go_wp2_with fail
    refine (a.out _).mono ?_
    rintro e w4 ⟨rfl, g⟩
    have G := Lib.hid ((below_drewN G2.out n).trans (g.mono G2.out.size)); clear g
    go_wp2_with fail
    go_ret
    exact ⟨rfl, G.out⟩

end Go.Proofs.Ytcjpednhefeboaa

/- Quotas: what the program is held to; the statements' may, two, awake. -/
import Derived.Test.YtkaikekibmgmmaaGe
import Derived.Test.YtkaikekibmgmmaaGb
namespace Go.Proofs.Ytkaikekibmgmmaa
open Go.RowKit
set_option linter.unusedVariables false

theorem Sl.nil {α : Type} (enc : α → Array Value) (T : TypeId) (k : Nat) (w : World) : Sl enc T k w none 0 0 0 ([] : List α) :=
  ⟨by simp, fun h => by simp at h, fun i h => by simp at h, fun i x h => by simp at h⟩

namespace Qt
/-- The chapter's example. -/
def two : Cmd := ⟨0, [⟨-1, 1, ⟨0, 0, 0⟩, ⟨0, 0, 0⟩, ⟨0, 0, 0⟩⟩, ⟨0, 1, ⟨4, 4, 4⟩, ⟨4, 4, 4⟩, ⟨4, 4, 4⟩⟩, ⟨0, 1, ⟨4, 4, 4⟩, ⟨4, 4, 4⟩, ⟨1, 1, 1⟩⟩], [⟨0, 0, 0, ⟨8, 8, 8⟩⟩], 1, 0, Cm.zG, 0⟩
theorem check_two' : Cf.check two = 0 := by decide
theorem t1 : may two.nodes [] 2 ⟨8, 8, 8⟩ = true := by decide
theorem t2 : may two.nodes [] 1 ⟨5, 5, 5⟩ = true := by decide
theorem t3 : may two.nodes [] 1 ⟨6, 0, 0⟩ = false := by decide
theorem t4 : may two.nodes [] 0 ⟨0, 0, 0⟩ = false := by decide
theorem t5 : nominal two.nodes 0 = ⟨8, 8, 8⟩ := by decide
theorem t6 : kept two.nodes [] 0 1 = ⟨3, 3, 3⟩ := by decide
theorem t7 : within two.nodes [] 1 ⟨4, 4, 4⟩ = true := by decide
theorem t8 : borrows two.nodes [⟨0, 0, 0⟩, ⟨5, 0, 0⟩] 1 = true := by decide
theorem in_small {x : Int} (h0 : -100 ≤ x) (h1 : x ≤ 100) : In64 x := by unfold In64; omega
theorem v_small {x y z : Int} (h0 : 0 ≤ x ∧ x ≤ 100) (h1 : 0 ≤ y ∧ y ≤ 100) (h2 : 0 ≤ z ∧ z ≤ 100) : V3.wide ⟨x, y, z⟩ := by
  refine ⟨?_, ?_, ?_⟩
  · show In64 x; exact in_small (by omega) (by omega)
  · show In64 y; exact in_small (by omega) (by omega)
  · show In64 z; exact in_small (by omega) (by omega)
theorem two_wide : two.wide := by
  refine ⟨in64_zero, fun n h => ?_, fun n h => ?_, in_small (by decide) (by decide), in64_zero, gg_zero, in64_zero⟩
  · simp only [two, List.mem_cons, List.not_mem_nil, or_false] at h
    rcases h with rfl | rfl | rfl
    · exact ⟨in_small (by decide) (by decide), in_small (by decide) (by decide), v_small (by decide) (by decide) (by decide), v_small (by decide) (by decide) (by decide), v_small (by decide) (by decide) (by decide)⟩
    · exact ⟨in_small (by decide) (by decide), in_small (by decide) (by decide), v_small (by decide) (by decide) (by decide), v_small (by decide) (by decide) (by decide), v_small (by decide) (by decide) (by decide)⟩
    · exact ⟨in_small (by decide) (by decide), in_small (by decide) (by decide), v_small (by decide) (by decide) (by decide), v_small (by decide) (by decide) (by decide), v_small (by decide) (by decide) (by decide)⟩
  · simp only [two, List.mem_cons, List.not_mem_nil, or_false] at h
    subst h
    exact ⟨in_small (by decide) (by decide), in_small (by decide) (by decide), in_small (by decide) (by decide), v_small (by decide) (by decide) (by decide)⟩
end Qt

end Go.Proofs.Ytkaikekibmgmmaa

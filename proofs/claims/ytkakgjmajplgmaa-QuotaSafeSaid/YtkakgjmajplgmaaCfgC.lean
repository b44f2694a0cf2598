/- Configurations: what the program is held to; one, few, awake. -/
import Derived.Test.YtkakgjmajplgmaaCfgB
import Derived.Laws.OwnMore
namespace Go.Proofs.Ytkakgjmajplgmaa
open Go.RowKit
set_option linter.unusedVariables false

/-- A configuration's cells (of a command's fields of that name). -/
def Cmd.f (c : Cmd) (vn vh : Value) : Array Value := #[vn, vh, .int .i64 c.half, .int .i64 c.age]
/-- A slice of numbers. -/
def intC (k : Int) : Array Value := #[.int .i64 k]
def Cmd.few9 (c : Cmd) : Prop := c.nodes.length ≤ 300 ∧ c.hosts.length ≤ 2000

theorem rCheck9At {c : Cmd} {vn vh : Value} {w : World} (h : CmAt c vn vh w) : Calls Try.prog 19 #[.agg (c.f vn vh)] w (RetBelow (.int .i64 (Cf.check c)) w) := by
  obtain ⟨an, cn, nb, no, ah, ch, hb, ho, rfl, rfl, h1, h2⟩ := h
  exact rCheck9_any c an ah cn ch nb no hb ho w h1 h2

namespace Cf
/-- The least configuration. -/
def one : Cmd := ⟨0, [⟨-1, 1, ⟨0, 0, 0⟩, ⟨0, 0, 0⟩, ⟨0, 0, 0⟩⟩], [⟨0, 0, 0, ⟨0, 0, 0⟩⟩], 1, 0, Cm.zG, 0⟩
def none : Cmd := ⟨0, [], [], 0, 0, Cm.zG, 0⟩
theorem check_one : check one = 0 := by decide
theorem check_none : check none = 2 := by decide
theorem leaf_one : leaf one.nodes 0 = true := by decide
theorem leaf_two : leaf one.nodes 1 = false := by decide
theorem leaves_one : leaves one.nodes = [0] := by decide
theorem same_one : Cm.sameC one one = true := by decide
theorem one_wide : one.wide := by
  have i1 : In64 (-1) := by unfold In64; omega
  have i2 : In64 1 := by unfold In64; omega
  refine ⟨in64_zero, fun n h => ?_, fun n h => ?_, i2, in64_zero, gg_zero, in64_zero⟩
  · simp only [one, List.mem_singleton] at h
    subst h
    exact ⟨i1, i2, ⟨in64_zero, in64_zero, in64_zero⟩, ⟨in64_zero, in64_zero, in64_zero⟩, ⟨in64_zero, in64_zero, in64_zero⟩⟩
  · simp only [one, List.mem_singleton] at h
    subst h
    exact ⟨in64_zero, in64_zero, in64_zero, ⟨in64_zero, in64_zero, in64_zero⟩⟩
theorem none_wide : none.wide := ⟨in64_zero, fun n h => by simp [none] at h, fun n h => by simp [none] at h, in64_zero, in64_zero, gg_zero, in64_zero⟩
end Cf

end Go.Proofs.Ytkakgjmajplgmaa

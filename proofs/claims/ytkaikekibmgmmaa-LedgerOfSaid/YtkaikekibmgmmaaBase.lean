/- What every text stands on: the walk's kit, and the ways in which a call may end. -/
import Derived.Test.YtkaikekibmgmmaaRows
import Derived.Test.YtkaikekibmgmmaaShelf
import Derived.Laws.Externs
import Derived.WalkKit
import Derived.WalkSpells
import Derived.WalkLawsBesides
import Derived.Outline
import Derived.Lib.Hide
namespace Go.Proofs.Ytkaikekibmgmmaa
open Go.RowKit
set_option linter.unusedVariables false

theorem ret_u64 {a b : Int} (h : a = b) : Ending.returned (.int .u64 a) = .returned (.int .u64 b) := by rw [h]
theorem ret_i64 {a b : Int} (h : a = b) : Ending.returned (.int .i64 a) = .returned (.int .i64 b) := by rw [h]
theorem ret_u32 {a b : Int} (h : a = b) : Ending.returned (.int .u32 a) = .returned (.int .u32 b) := by rw [h]
theorem ret_str {a b : ByteArray} (h : a = b) : Ending.returned (.string a) = .returned (.string b) := by rw [h]

/-- A value is returned; answers may have been drawn, nothing else has turned. -/
def RetDrew (v : Value) (w : World) (e : Ending) (w' : World) : Prop := e = .returned v ∧ ∃ n, w' = w.drewN n

theorem retDrew_u64 {a b : Int} {w : World} {e : Ending} {w' : World} (h : a = b) (he : e = .returned (.int .u64 a)) (hw : ∃ n, w' = w.drewN n) : RetDrew (.int .u64 b) w e w' := by
  subst h; exact ⟨he, hw⟩

end Go.Proofs.Ytkaikekibmgmmaa

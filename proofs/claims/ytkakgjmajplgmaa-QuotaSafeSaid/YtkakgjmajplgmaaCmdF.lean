/- The plain answer's bytes of a command. -/
import Derived.Test.YtkakgjmajplgmaaCmdE
namespace Go.Proofs.Ytkakgjmajplgmaa
open Go.RowKit
set_option linter.unusedVariables false

theorem drop_more {α : Type} {l : List α} {k : Nat} {x : α} (h : l[k]? = some x) : l.drop k = x :: l.drop (k + 1) := by
  have hk : k < l.length := by
    rcases Nat.lt_or_ge k l.length with q | q
    · exact q
    · rw [List.getElem?_eq_none q] at h; cases h
  rw [List.drop_eq_getElem_cons hk]
  rw [List.getElem?_eq_getElem hk] at h
  injection h with h
  rw [h]
theorem all_at {α : Type} {o : α → Bool} {l : List α} {k : Nat} {x : α} (h : l.all o = true) (hx : l[k]? = some x) : o x = true := List.all_eq_true.1 h x (List.mem_of_getElem? hx)

theorem check_all {c : Cmd} (h : Cm.check c = 0) : (c.kind = 1 → Cm.okC c = true) ∧ (c.kind = 2 → Cm.okG c.gang = true) ∧ (c.kind = 3 ∨ c.kind = 4 ∨ c.kind = 5 → Cm.ok c.n = true) := by
  have hf := (Cm.check_zero h).1
  unfold Cm.fine at hf
  refine ⟨fun k => ?_, fun k => ?_, fun k => ?_⟩
  · rw [if_pos k] at hf; simp only [Bool.and_eq_true] at hf; exact hf.2
  · rw [if_neg (by omega), if_pos k] at hf; simp only [Bool.and_eq_true] at hf; exact hf.2
  · rw [if_neg (by omega), if_neg (by omega), if_pos k] at hf; simp only [Bool.and_eq_true] at hf; exact hf.2

end Go.Proofs.Ytkakgjmajplgmaa

/- A region, all of whose operations are quiet in a class of worlds: a cell is read that every world of the class has. -/
import Derived.Test.YtkakgjmajplgmaaQuiet
import Derived.Deep.MidRow
namespace Go.Proofs.Ytkakgjmajplgmaa
open Go.RowKit
set_option linter.unusedVariables false

section
variable {P : Program} {ops : Array Oper} {C : World → Prop}
theorem isAgg_not {t : TypeId} {d : TypeDesc} (h : P.underlying t = some d) (hd : d.isRow = false) (w : World) : (isAgg t).run P w = .ok false w := by
  cases d <;> simp_all [isAgg, run_underlying h, TypeDesc.isRow]
theorem load_plain {ty : TypeId} {d : TypeDesc} (hu : P.underlying ty = some d) (hd : d.isRow = false) {w : World} {p : Addr} {v : Value} (hc : w.cell? p = some v) :
    (Instr.loadAt ty (.pointer (some p))).run P w = .ok v w := by
  simp only [Instr.loadAt, Instr.sureAddr, Sem.run_bind, Sem.run_pure, Result.andThen_ok, loadVar, isAgg_not hu hd w]
  simp [run_load, hc]
theorem quiet_cell {Q : Act → Prop} {a : Act} {o : Oper} {rest : List Oper} (p : Addr) (v : Value) (ty : TypeId) (d : TypeDesc) (x : Operand) (hC : ∀ w, C w → w.cell? p = some v) (ho : o.op = .load ty x) (hx : a.eval x = .pointer (some p))
    (hw : Region.wanted o (yielded ops a.tmps) = true) (hu : P.underlying ty = some d) (hd : d.isRow = false)
    (h : wpQuiet P ops C Q rest (a.put o.dst v)) : wpQuiet P ops C Q (o :: rest) a := by
  unfold wpQuiet
  rw [if_pos hw]
  refine ⟨v, fun w hw' => ?_, h⟩
  unfold Oper.quietAt execOp
  simp only [ho, hx, Sem.run_bind, load_plain hu hd (hC w hw'), Result.andThen_ok]
  exact ⟨rfl, rfl⟩
end

end Go.Proofs.Ytkakgjmajplgmaa

/- A region that draws its order, all of whose operations are quiet in a class of worlds: loads of whole rows, calls that only make memory. -/
import Derived.Test.YtkakgjmajplgmaaStill
namespace Go.Proofs.Ytkakgjmajplgmaa
open Go.RowKit
set_option linter.unusedVariables false

section
variable {P : Program} {ops : Array Oper} {C : World → Prop}
theorem region_quiet {id : Nat} {Q : Exit → Act → World → Prop} {a : Act} {w : World} {l : List Oper} (C : World → Prop) (hm : P.follows .mixedOrders = true) (hB : Region.lexB .any l.toArray = true) (hC : C w.drew)
    (h : wpQuiet P l.toArray C (fun a' => ∀ w', C w' → Q .normal a' w') l a) : (Code.region id l.toArray true).wp P Q a w :=
  wp_region_quiet (C := C) hm hB hC (by simpa using h)

/-- An array or a struct is read out of a variable of which every world of the class has the same cells. -/
theorem quiet_row {Q : Act → Prop} {a : Act} {o : Oper} {rest : List Oper} (b : Nat) (cs : Array Value) (ty : TypeId) (d : TypeDesc) (x : Operand) (hC : ∀ w, C w → ∃ t fr, w.heap[b]? = some (.cells cs t fr)) (ho : o.op = .load ty x) (hx : a.eval x = .pointer (some ⟨b, 0, none⟩))
    (hw : Region.wanted o (yielded ops a.tmps) = true) (hu : P.underlying ty = some d) (hd : (match d with | .struct _ | .array _ _ => true | _ => false) = true) (hi : (P.info? ty).map (·.size) = some cs.size)
    (h : wpQuiet P ops C Q rest (a.put o.dst (.agg cs))) : wpQuiet P ops C Q (o :: rest) a := by
  unfold wpQuiet
  rw [if_pos hw]
  refine ⟨.agg cs, fun w hw' => ?_, h⟩
  obtain ⟨t, fr, hg⟩ := hC w hw'
  unfold Oper.quietAt execOp
  simp only [ho, hx, Instr.loadAt, Instr.sureAddr, Sem.run_bind, Sem.run_pure, Result.andThen_ok, run_loadVar_row w b t ty cs fr d hg hu hd hi]
  exact ⟨rfl, rfl⟩

/-- Two values are compared, or reckoned with, by a law that holds in every world. -/
theorem quiet_bin {Q : Act → Prop} {a : Act} {o : Oper} {rest : List Oper} (op : BinOp) (ty ty' : TypeId) (x y : Operand) (vx vy r : Value) (ho : o.op = .binOp op ty x y ty') (hx : a.eval x = vx) (hy : a.eval y = vy) (hr : ∀ w, (binOp op ty vx vy).run P w = .ok r w) (hg : ∀ w, (eqGuard op ty x y vx vy).run P w = .ok () w)
    (hw : Region.wanted o (yielded ops a.tmps) = true) (h : wpQuiet P ops C Q rest (a.put o.dst r)) : wpQuiet P ops C Q (o :: rest) a := by
  unfold wpQuiet
  rw [if_pos hw]
  refine ⟨r, fun w hw' => ?_, h⟩
  unfold Oper.quietAt execOp
  simp only [ho, hx, hy, Sem.run_bind, Sem.run_pure, Result.andThen_ok, hg, hr]
  exact ⟨rfl, rfl⟩
end

theorem grown_block {w w' : World} (g : Grown w w') {b : Nat} (h : b < w.heap.size) : w'.heap[b]? = w.heap[b]? := World.keptBut.block g.1 h (fun p f => f.elim)

theorem row_cells {w w' : World} (g : Grown w w') {b : Nat} {o : Obj} (h : w.heap[b]? = some o) : w'.heap[b]? = some o := (grown_block g (lt_of_block h)).trans h

/-- A block that was there is there in every later world. -/
theorem grown_row {w : World} {b : Nat} {cs : Array Value} {t : TypeId} {fr : Nat × Nat} (h : w.heap[b]? = some (.cells cs t fr)) : ∀ w', Grown w w' → ∃ t fr, w'.heap[b]? = some (.cells cs t fr) := fun w' g => ⟨t, fr, (grown_block g (lt_of_block h)).trans h⟩

theorem quiet_grown {P : Program} {f : FuncId} {args : Array Value} {W w : World} {v : Value} (g : Grown W w) (h : Calls P f args w (RetGrown v w)) : Calls P f args w fun e w'' => e = .returned v ∧ Grown W w'' := h.mono fun _ _ h => ⟨h.1, grown_trans g h.2⟩

/-- Three numbers. -/
def tri (x y z : Int) : Nat → Int
  | 0 => x
  | 1 => y
  | _ => z

end Go.Proofs.Ytkakgjmajplgmaa

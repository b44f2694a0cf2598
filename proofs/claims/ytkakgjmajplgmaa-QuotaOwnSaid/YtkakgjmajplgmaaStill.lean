/- A region of reads and quiet calls ahead of one store: its steps. -/
import Derived.Test.YtkakgjmajplgmaaBase
import Derived.Test.YtkakgjmajplgmaaTail
import Derived.Deep.QuietTactic
import Derived.BigQuiet
import Derived.StillTailTactics
import Derived.LoopTactic
import Derived.OneCell
import Derived.Deep.RegionHeld3
import Derived.Deep.MidRow
import Derived.Great.BuildSlice
namespace Go.Proofs.Ytkakgjmajplgmaa
open Go.RowKit
set_option linter.unusedVariables false

section
variable {P : Program} {ops : Array Oper} {w : World} {Q : Act → Prop} {a : Act} {o : Oper} {rest : List Oper}
theorem still_skip (hw : Region.wanted o (yielded ops a.tmps) = false) (h : wpStill P ops w Q rest (a.put o.dst undef)) : wpStill P ops w Q (o :: rest) a := by
  unfold wpStill; rw [if_neg (by rw [hw]; exact Bool.false_ne_true)]; exact h
end

theorem still_of {P : Program} {f : FuncId} {args : Array Value} {w : World} {v : Value} (h : Calls P f args w fun e w' => e = .returned v ∧ w = w') : Calls P f args w fun e w'' => e = .returned v ∧ w'' = w := h.mono fun _ _ h => ⟨h.1, h.2.symm⟩

/-- A value is returned; new blocks may have come, nothing that was there has turned. -/
def RetGrown (v : Value) (w : World) (e : Ending) (w' : World) : Prop := e = .returned v ∧ Grown w w'

theorem retGrown_u64 {a b : Int} {w : World} {e : Ending} {w' : World} (h : a = b) (he : e = .returned (.int .u64 a)) (hw : Grown w w') : RetGrown (.int .u64 b) w e w' := by
  subst h; exact ⟨he, hw⟩

theorem grown_drewN' {W w' : World} (h : Grown W w') (n : Nat) : Grown W (w'.drewN n) := h

theorem grown_trans {a b c : World} (h : Grown a b) (k : Grown b c) : Grown a c :=
  ⟨World.keptBut_trans h.1 k.1, fun x => (k.2.1 x).trans (h.2.1 x), Nat.le_trans h.2.2 k.2.2⟩

theorem quiet_left {P : Program} {f : FuncId} {args : Array Value} {w : World} {n : Nat} {v : Value}
    (h : Calls P f args (w.drewN n) fun e w' => e = .returned v ∧ w.drewN n = w') : Calls P f args (w.drewN n) fun e w'' => e = .returned v ∧ ∃ m, w'' = w.drewN m :=
  h.mono fun _ _ ⟨he, hm⟩ => ⟨he, n, hm.symm⟩

theorem grown_cell {w w' : World} (g : Grown w w') {b o : Nat} (h : b < w.heap.size) : w'.cell? ⟨b, o, none⟩ = w.cell? ⟨b, o, none⟩ :=
  World.cell?_of_block (w := w) (World.keptBut.block g.1 h (fun p f => f.elim))

theorem heap_second (w : World) (A B : Obj) (n g : Nat) (hg : w.heap.size = g) : (((w.alloc A).alloc B).drewN n).heap[g]? = some A := by
  subst hg
  exact heap_alloc2_old w A B

theorem ret_bool {a b : Bool} (h : a = b) : Ending.returned (.bool a) = .returned (.bool b) := by rw [h]

theorem heap_top (w : World) (A : Obj) (n g : Nat) (hg : w.heap.size = g) : ((w.alloc A).drewN n).heap[g]? = some A := by
  subst hg
  exact heap_alloc_new w A

theorem top_cell (V : World) (t n : Nat) (v : Value) : ((V.alloc (.cells #[v] t)).drewN n).cell? ⟨V.heap.size, 0, none⟩ = some v := World.cell?_alloc_at (w := V) #[v] t _ 0 rfl
theorem top_free (V : World) (c : Array Value) (t n r : Nat) : ((V.alloc (.cells c t)).drewN n).frozen? ⟨V.heap.size, r, none⟩ = false := World.frozen?_alloc_at (w := V) c t _ r rfl
theorem old_cell (V : World) (o : Obj) (n A r : Nat) (hA : A < V.heap.size) {v : Value} (h : V.cell? ⟨A, r, none⟩ = some v) : ((V.alloc o).drewN n).cell? ⟨A, r, none⟩ = some v := (World.cell?_alloc_past (w := V) o A r hA).trans h

/-- A store behind draws. -/
theorem setCell_drewN (w : World) (n : Nat) (a : Addr) (v : Value) : (w.drewN n).setCell a v = (w.setCell a v).drewN n := rfl

/-- A rest of what was turned into a number without a sign. -/
theorem uMod (a m : Int) (m0 : 0 < m) : ∃ r, (IntKind.u64.wrap a).tmod m = r ∧ 0 ≤ r ∧ r < m := by
  have h0 : 0 ≤ IntKind.u64.wrap a := by rw [IntKind.wrap_u64]; omega
  exact ⟨_, rfl, by rw [Int.tmod_eq_emod_of_nonneg h0]; exact Int.emod_nonneg _ (by omega), by rw [Int.tmod_eq_emod_of_nonneg h0]; exact Int.emod_lt_of_pos _ m0⟩

end Go.Proofs.Ytkakgjmajplgmaa

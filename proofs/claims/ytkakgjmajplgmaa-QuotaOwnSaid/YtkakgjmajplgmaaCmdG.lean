/- Bytes that are read: the plain answer's P; a number, an amount. -/
import Derived.Test.YtkakgjmajplgmaaCmdF
import Derived.Test.YtkakgjmajplgmaaNumT
namespace Go.Proofs.Ytkakgjmajplgmaa
open Go.RowKit
set_option linter.unusedVariables false

/-- All blocks that were there stand as they were, but for one. -/
structure But (b : Nat) (w w' : World) : Prop where
  os : w'.os = w.os
  tape : w'.tape = w.tape
  output : w'.output = w.output
  size : w.heap.size ≤ w'.heap.size
  block : ∀ k, k < w.heap.size → k ≠ b → w'.heap[k]? = w.heap[k]?
theorem But.refl (b : Nat) (w : World) : But b w w := ⟨rfl, rfl, rfl, Nat.le_refl _, fun _ _ _ => rfl⟩
theorem But.trans {b : Nat} {u v w : World} (h : But b u v) (g : But b v w) : But b u w :=
  ⟨g.os.trans h.os, g.tape.trans h.tape, g.output.trans h.output, Nat.le_trans h.size g.size, fun k hk hb => (g.block k (Nat.lt_of_lt_of_le hk h.size) hb).trans (h.block k hk hb)⟩
theorem But.of_below {b : Nat} {w w' : World} (g : Below w.heap.size w w') : But b w w' := ⟨g.os, g.tape, g.output, g.size, fun k hk _ => g.block k hk⟩
theorem But.alloc {b : Nat} {u w : World} (h : But b u w) (o : Obj) : But b u (w.alloc o) := h.trans (But.of_below ((Below.refl _ _).alloc (Nat.le_refl _) o))
theorem But.setCell {b : Nat} {u w : World} (h : But b u w) {p : Addr} (hp : u.heap.size ≤ p.block ∨ p.block = b) (v : Value) : But b u (w.setCell p v) :=
  ⟨h.os, h.tape, h.output, Nat.le_trans h.size (by simp), fun k hk hb => by
    rw [Below.heap_setCell w p v k (by have := h.size; omega)]
    exact h.block k hk hb⟩
theorem But.setRow {b : Nat} {u w : World} (h : But b u w) {g : Nat} (hp : u.heap.size ≤ g ∨ g = b) (cs : Array Value) : But b u (w.setRow g cs) :=
  ⟨h.os, h.tape, h.output, Nat.le_trans h.size (by simp), fun k hk hb => by
    rw [setRow_other w g k cs (by omega)]
    exact h.block k hk hb⟩
theorem But.drewN {b : Nat} {u w : World} (h : But b u w) (n : Nat) : But b u (w.drewN n) := ⟨h.os, h.tape, h.output, h.size, h.block⟩
theorem But.below {b B : Nat} {u w : World} (h : But b u w) (hB : B ≤ b) (hu : B ≤ u.heap.size) : Below B u w := ⟨h.os, h.tape, h.output, h.size, fun k hk => h.block k (by omega) (by omega)⟩

/-- A block's cells, none of them frozen. -/
def Row (w : World) (g : Nat) (cs : Array Value) (t : TypeId) : Prop := w.heap[g]? = some (.cells cs t (0, 0))
theorem Row.new (w : World) (cs : Array Value) (t : TypeId) : Row (w.alloc (.cells cs t)) w.heap.size cs t := Array.getElem?_push_size
theorem Row.lt {w : World} {g : Nat} {cs : Array Value} {t : TypeId} (h : Row w g cs t) : g < w.heap.size := lt_of_block h
theorem Row.keep {w w' : World} {b g : Nat} {cs : Array Value} {t : TypeId} (h : Row w g cs t) (k : But b w w') (hb : g ≠ b) : Row w' g cs t := (k.block g h.lt hb).trans h
theorem Row.under {w w' : World} {g : Nat} {cs : Array Value} {t : TypeId} (h : Row w g cs t) (k : Below w.heap.size w w') : Row w' g cs t := (k.block g h.lt).trans h
theorem Row.at_ {w : World} {g : Nat} {cs : Array Value} {t : TypeId} (h : Row w g cs t) (j : Nat) : w.cell? ⟨g, j, none⟩ = cs[j]? := cell_of_row _ _ _ _ _ _ h
theorem Row.soft {w : World} {g : Nat} {cs : Array Value} {t : TypeId} (h : Row w g cs t) (j : Nat) : w.frozen? ⟨g, j, none⟩ = false := by rw [frozen_of_row _ _ _ _ _ h]
theorem Row.set {w : World} {g : Nat} {cs : Array Value} {t : TypeId} (h : Row w g cs t) (j : Nat) (v : Value) : Row (w.setCell ⟨g, j, none⟩ v) g (cs.setIfInBounds j v) t := heap_setCell_same _ g j _ _ v h
theorem Row.setRow {w : World} {g : Nat} {cs : Array Value} {t : TypeId} (h : Row w g cs t) (ds : Array Value) : Row (w.setRow g ds) g ds t := setRow_heap w g cs ds t _ h
theorem Row.holds {w : World} {g : Nat} {cs : Array Value} {t : TypeId} (h : Row w g cs t) : Holds w g cs := fun j v hj => (h.at_ j).trans hj

theorem num_range (p : Cm.St) : 0 ≤ (Cm.num p).1 ∧ (Cm.num p).1 < 9223372036854775808 := by
  have h := Nu.get_range p.s
  unfold Cm.num
  split
  · simp
  · simp only; omega

theorem vec_one (x y z : Int) : (#[Value.int .i64 x, .int .i64 y, .int .i64 z].all (·.oneCell')) = true := one_cells x y z

end Go.Proofs.Ytkakgjmajplgmaa

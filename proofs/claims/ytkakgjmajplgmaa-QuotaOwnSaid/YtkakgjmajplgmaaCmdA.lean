/- Commands in memory; the plain answer's tests of numbers, amounts, gangs. -/
import Derived.Test.YtkakgjmajplgmaaCmdQ
import Derived.Test.YtkakgjmajplgmaaNumS
import Derived.Deep.MidRow
import Derived.Deep.WholeRow
namespace Go.Proofs.Ytkakgjmajplgmaa
open Go.RowKit
set_option linter.unusedVariables false

/-- A slice of flat structs of k cells: where each lies, what it holds. -/
structure Sl {α : Type} (enc : α → Array Value) (T : TypeId) (k : Nat) (w : World) (ao : Option Addr) (cap bb oo : Nat) (l : List α) : Prop where
  small : l.length ≤ 9223372036854775807
  lt : 0 < l.length → bb < w.heap.size
  idx : ∀ i : Nat, i < l.length → ∀ w0, (Instr.indexAt T (.slice ao l.length cap) (.int .i64 (i : Int))).run Try.prog w0 = .ok (.pointer (some ⟨bb, oo + i * k, none⟩)) w0
  at_ : ∀ (i : Nat) x, l[i]? = some x → w.rangeAt bb (oo + i * k) (enc x).toList

theorem Sl.kept {α : Type} {enc : α → Array Value} {T : TypeId} {k : Nat} {w w' : World} {ao : Option Addr} {cap bb oo : Nat} {l : List α} (h : Sl enc T k w ao cap bb oo l) (g : Below w.heap.size w w') : Sl enc T k w' ao cap bb oo l :=
  ⟨h.small, fun h0 => Nat.lt_of_lt_of_le (h.lt h0) g.size, h.idx, fun i x hi j v hj => by
    have hl : i < l.length := by
      rcases Nat.lt_or_ge i l.length with q | q
      · exact q
      · rw [List.getElem?_eq_none q] at hi; cases hi
    exact (g.cell (p := ⟨bb, _, none⟩) (h.lt (by omega))).trans (h.at_ i x hi j v hj)⟩
/-- The same from a base below which all is as it was. -/
theorem Sl.from {α : Type} {enc : α → Array Value} {T : TypeId} {k B : Nat} {w w' : World} {ao : Option Addr} {cap bb oo : Nat} {l : List α} (h : Sl enc T k w ao cap bb oo l) (hB : w.heap.size ≤ B) (g : Below B w w') : Sl enc T k w' ao cap bb oo l := h.kept (g.mono hB)

def Cf (nv hv : Value) (half age : Int) : Array Value := #[nv, hv, .int .i64 half, .int .i64 age]
def Cmd.c (c : Cmd) (nv hv : Value) : Array Value := #[.int .i64 c.kind, nv, hv, .int .i64 c.half, .int .i64 c.age, .int .i64 c.gang.id, .int .i64 c.gang.ten, .int .i64 c.gang.pods, .int .i64 c.gang.need.x, .int .i64 c.gang.need.y, .int .i64 c.gang.need.z, .int .i64 c.gang.run, .int .i64 c.gang.lev, .int .i64 c.gang.pre, .int .i64 c.n]

/-- Numbers in a block that was just made. -/
theorem in_cells (w : World) (l : List Int) (T : TypeId) : ∀ (j : Nat) x, l[j]? = some x → (w.alloc (.cells (l.map (Value.int .i64)).toArray T)).cell? ⟨w.heap.size, j, none⟩ = some (.int .i64 x) := by
  intro j x hx
  refine (World.cell?_alloc_at (w := w) _ _ _ j rfl).trans ?_
  simp [hx]

theorem range_new (w : World) (cs : Array Value) (t : TypeId) (o : Nat) (l : List Value) (h : ∀ j v, l[j]? = some v → cs[o + j]? = some v) : (w.alloc (.cells cs t)).rangeAt w.heap.size o l := fun j v hj => (World.cell?_alloc_at (w := w) _ _ _ _ rfl).trans (h j v hj)
theorem range_kept {w w' : World} {b o : Nat} {l : List Value} (h : w.rangeAt b o l) (hb : b < w.heap.size) (g : Below w.heap.size w w') : w'.rangeAt b o l := fun j v hj => (g.cell (p := ⟨b, o + j, none⟩) hb).trans (h j v hj)
theorem three_at {a b c : Value} {cs : Array Value} {o : Nat} (h0 : cs[o]? = some a) (h1 : cs[o + 1]? = some b) (h2 : cs[o + 2]? = some c) : ∀ j v, [a, b, c][j]? = some v → cs[o + j]? = some v := by
  intro j v hj
  rcases j with _ | _ | _ | j
  · simp only [List.getElem?_cons_zero] at hj; rw [← hj]; exact h0
  · simp only [List.getElem?_cons_succ, List.getElem?_cons_zero] at hj; rw [← hj]; exact h1
  · simp only [List.getElem?_cons_succ, List.getElem?_cons_zero] at hj; rw [← hj]; exact h2
  · simp at hj

end Go.Proofs.Ytkakgjmajplgmaa

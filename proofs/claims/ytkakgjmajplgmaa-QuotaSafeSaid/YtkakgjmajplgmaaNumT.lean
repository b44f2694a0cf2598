/- Numbers as bytes: the plain answer's GetVec. -/
import Derived.Test.YtkakgjmajplgmaaNumS
import Derived.Deep.MidRow
import Derived.Deep.WholeRow
namespace Go.Proofs.Ytkakgjmajplgmaa
open Go.RowKit
set_option linter.unusedVariables false

theorem results_cell_two {P : Program} {fn : Func} {p u v : Tmp} {ty : TypeId} (h : fn.results = #[.cell p ty, .tmp u, .tmp v]) (tmps : Array Value) (w : World) (g : Nat) (t : TypeId) (cs : Array Value) (fr : Nat × Nat) (d : TypeDesc)
    (hp : tmps.getD p undef = .pointer (some ⟨g, 0, none⟩)) (hg : w.heap[g]? = some (.cells cs t fr))
    (hu : P.underlying ty = some d) (hd : (match d with | .struct _ | .array _ _ => true | _ => false) = true) (hi : (P.info? ty).map (·.size) = some cs.size) :
    (results fn tmps).run P w = .ok (.tuple #[.agg cs, tmps.getD u undef, tmps.getD v undef]) w := by
  have hp' : tmps[p]?.getD undef = .pointer (some ⟨g, 0, none⟩) := by simpa using hp
  simp [results, h, hp', asAddr, run_loadVar_row w g t ty cs fr d hg hu hd hi, Result.andThen]

/-- The first r numbers, then 0. -/
def Nu.till (s : ByteArray) (r i : Nat) : Int := if i < r then ((Nu.part s i).1 : Int) else 0
def Nu.row (s : ByteArray) (r : Nat) : Array Value := #[.int .i64 (Nu.till s r 0), .int .i64 (Nu.till s r 1), .int .i64 (Nu.till s r 2)]
theorem till_set (s : ByteArray) (r : Nat) (hr : r < 3) : (Nu.row s r).setIfInBounds r (.int .i64 ((Nu.part s r).1 : Int)) = Nu.row s (r + 1) := by
  have h : r = 0 ∨ r = 1 ∨ r = 2 := by omega
  rcases h with rfl | rfl | rfl <;> rfl
def Nu.ansV (r : (Nat × Nat × Nat) × Nat × Int) : Value := .tuple #[.agg #[.int .i64 (r.1.1 : Int), .int .i64 (r.1.2.1 : Int), .int .i64 (r.1.2.2 : Int)], .int .i64 (r.2.1 : Int), .int .i64 r.2.2]
theorem getV_yes {s : ByteArray} (h : ∀ i, i < 3 → (Nu.part s i).2.2 = 0) : Nu.getV s = (((Nu.part s 0).1, (Nu.part s 1).1, (Nu.part s 2).1), Nu.seek s 3, 0) := by
  unfold Nu.getV
  rw [if_neg (by simp [h 0 (by decide), h 1 (by decide), h 2 (by decide)])]
theorem getV_no {s : ByteArray} {r : Nat} (hr : r < 3) (h : (Nu.part s r).2.2 ≠ 0) : Nu.getV s = ((0, 0, 0), 0, 10) := by
  unfold Nu.getV
  rw [if_pos]
  have e : r = 0 ∨ r = 1 ∨ r = 2 := by omega
  rcases e with rfl | rfl | rfl
  · exact .inl h
  · exact .inr (.inl h)
  · exact .inr (.inr h)

/-- An amount is stored below the block that was made last. -/
theorem vec_there (w : World) (R : Array Value) : ((w.alloc (.cells #[.int .i64 0, .int .i64 0, .int .i64 0] 29)).alloc (.cells R 29)).there w.heap.size 0 3 := by
  have hh : ((w.alloc (.cells #[.int .i64 0, .int .i64 0, .int .i64 0] 29)).alloc (.cells R 29)).heap[w.heap.size]? = some (.cells #[.int .i64 0, .int .i64 0, .int .i64 0] 29 (0, 0)) := heap_second w _ _ 0 _ rfl
  intro j hj
  rw [cell_of_row _ _ _ _ _ _ hh, frozen_of_row _ _ _ _ _ hh]
  have h : j = 0 ∨ j = 1 ∨ j = 2 := by omega
  rcases h with rfl | rfl | rfl <;> exact ⟨rfl, rfl⟩
theorem vec_under (w : World) (R : Array Value) (x y z : Int) : (((w.alloc (.cells #[.int .i64 0, .int .i64 0, .int .i64 0] 29)).alloc (.cells R 29)).setCells w.heap.size 0 [.int .i64 x, .int .i64 y, .int .i64 z]).heap[w.heap.size]? = some (.cells #[.int .i64 x, .int .i64 y, .int .i64 z] 29 (0, 0)) ∧
    Below w.heap.size w (((w.alloc (.cells #[.int .i64 0, .int .i64 0, .int .i64 0] 29)).alloc (.cells R 29)).setCells w.heap.size 0 [.int .i64 x, .int .i64 y, .int .i64 z]) := by
  have hh : ((w.alloc (.cells #[.int .i64 0, .int .i64 0, .int .i64 0] 29)).alloc (.cells R 29)).heap[w.heap.size]? = some (.cells #[.int .i64 0, .int .i64 0, .int .i64 0] 29 (0, 0)) := heap_second w _ _ 0 _ rfl
  refine ⟨?_, ?_⟩
  · have h1 := heap_setCell_same _ w.heap.size 0 _ _ (.int .i64 x) hh
    have h2 := heap_setCell_same _ w.heap.size (0 + 1) _ _ (.int .i64 y) h1
    exact heap_setCell_same _ w.heap.size (0 + 1 + 1) _ _ (.int .i64 z) h2
  · have g := ((Below.refl w.heap.size w).alloc (Nat.le_refl _) (.cells #[.int .i64 0, .int .i64 0, .int .i64 0] 29)).alloc (by simp) (.cells R 29)
    exact ((g.setCell (p := ⟨w.heap.size, 0, none⟩) (Nat.le_refl _) _).setCell (p := ⟨w.heap.size, 0 + 1, none⟩) (Nat.le_refl _) _).setCell (p := ⟨w.heap.size, 0 + 1 + 1, none⟩) (Nat.le_refl _) _
theorem vec_range (w : World) (x y z : Int) : (w.alloc (.cells #[.int .i64 x, .int .i64 y, .int .i64 z] 29)).rangeAt w.heap.size 0 [.int .i64 x, .int .i64 y, .int .i64 z] := by
  intro j v hj
  refine (World.cell?_alloc_at (w := w) _ _ _ _ rfl).trans ?_
  rw [Nat.zero_add]
  simpa using hj
theorem one_cells (x y z : Int) : (#[Value.int .i64 x, .int .i64 y, .int .i64 z].all (·.oneCell')) = true := by simp [Value.oneCell']

end Go.Proofs.Ytkakgjmajplgmaa

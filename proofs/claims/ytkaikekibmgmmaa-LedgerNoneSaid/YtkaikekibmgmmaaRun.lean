/- Gangs that run: in memory; among the arguments. -/
import Derived.Test.YtkaikekibmgmmaaGc
namespace Go.Proofs.Ytkaikekibmgmmaa
open Go.RowKit Go.Joins Go.ChangeShapes Go.WideShapes Go.Deep
set_option linter.unusedVariables false

/-- A gang that runs; the same with its list's value. -/
structure Rn where
  g : Gg
  seq : Int
  at_ : Int
  start : Int
  fl : Int
  hs : List Int
structure Rv where
  r : Rn
  v : Value
def Rv.c (x : Rv) : Array Value := #[.int .i64 x.r.g.id, .int .i64 x.r.g.ten, .int .i64 x.r.g.pods, .int .i64 x.r.g.need.x, .int .i64 x.r.g.need.y, .int .i64 x.r.g.need.z, .int .i64 x.r.g.run, .int .i64 x.r.g.lev, .int .i64 x.r.g.pre, .int .i64 x.r.seq, .int .i64 x.r.at_, .int .i64 x.r.start, .int .i64 x.r.fl, x.v]
def Rn.wide (x : Rn) : Prop := x.g.wide ∧ In64 x.seq ∧ In64 x.at_ ∧ In64 x.start ∧ In64 x.fl ∧ ∀ h ∈ x.hs, In64 h
/-- Its hosts' numbers lie in memory. -/
def Rv.at (x : Rv) (w : World) : Prop := ∃ (ao : Option Addr) (cap bb oo : Nat), x.v = .slice ao x.r.hs.length cap ∧ Sl iC 68 1 w ao cap bb oo x.r.hs
theorem Rv.at.kept {x : Rv} {w w' : World} (h : x.at w) (g : Below w.heap.size w w') : x.at w' := by
  obtain ⟨ao, cap, bb, oo, e, s⟩ := h
  exact ⟨ao, cap, bb, oo, e, s.kept g⟩

section
variable {H : Type} {enc : TypeId × Value → H} {w : World}
theorem int_index_at (b o len cap i : Nat) (hi : i < len) (w0 : World) : (Instr.indexAt 68 (.slice (some ⟨b, o, none⟩) len cap) (.int .i64 (i : Int))).run Try.prog w0 = .ok (.pointer (some ⟨b, o + i * 1, none⟩)) w0 := by
  have e : (⟨b, o, none⟩ : Addr).add (i * 1) = ⟨b, o + i * 1, none⟩ := by unfold Addr.add; split <;> simp_all
  have h : (0 : Int) ≤ (i : Int) ∧ (i : Int) < (len : Int) := by omega
  rw [Nat.mul_one] at e
  simp [Instr.indexAt, run_underlying Try.underlying68, asIntOf, hi, e]
theorem running_index_at (b o len cap i : Nat) (hi : i < len) (w0 : World) : (Instr.indexAt 48 (.slice (some ⟨b, o, none⟩) len cap) (.int .i64 (i : Int))).run Try.prog w0 = .ok (.pointer (some ⟨b, o + i * 14, none⟩)) w0 := by
  have e : (⟨b, o, none⟩ : Addr).add (i * 14) = ⟨b, o + i * 14, none⟩ := by unfold Addr.add; split <;> simp_all
  have h : (0 : Int) ≤ (i : Int) ∧ (i : Int) < (len : Int) := by omega
  simp [Instr.indexAt, run_underlying Try.underlying48, asIntOf, hi, e]
theorem cells_ints : Try.prog.cellsOf 68 = 1 := by kernel_rfl
theorem cells_running : Try.prog.cellsOf 73 = 14 := by kernel_rfl
theorem running_len : (Try.prog.info? 73).map (·.size) = some 14 := by kernel_rfl
theorem gang9_len : (Try.prog.info? 71).map (·.size) = some 9 := by kernel_rfl
theorem ints_cell {n : Nat} {v : Value} {y : DataW H × List MemPlace} (h : DataW.trod enc Try.prog w 0 (fun _ => true) true n 68 [v] = some y) :
    ∃ (ao : Option Addr) (cap bb oo : Nat) (l : List Int), v = .slice ao l.length cap ∧ Sl iC 68 1 w ao cap bb oo l ∧ ∀ k ∈ l, In64 k := by
  obtain ⟨ao, cp, bb, oo, l, e, sl, wl, _⟩ := open_rows iC In64 68 3 1 (by decide) 0 Try.underlying68 cells_int (by rw [show Try.prog.bytesOf 3 = 8 by kernel_rfl]; decide) int_index_at (fun n cs y hl h => by
    match cs, hl with
    | [c0], _ =>
      obtain ⟨k, rfl, wk⟩ := int_cell h
      exact ⟨k, rfl, wk⟩) h
  exact ⟨ao, cp, bb, oo, l, e, sl, wl⟩
theorem running_cells {n : Nat} {cs : List Value} {y : DataW H × List MemPlace} (hl : cs.length = 14) (h : DataW.trod enc Try.prog w 0 (fun _ => true) true n 73 cs = some y) : ∃ x : Rv, cs = x.c.toList ∧ (x.r.wide ∧ x.at w) := by
  match cs, hl with
  | [c0, c1, c2, c3, c4, c5, c6, c7, c8, c9, c10, c11, c12, c13], _ =>
    obtain ⟨_, _, h0, _⟩ := field_at Try.underlying73 h 0 _ rfl 9 cells_gang [c0, c1, c2, c3, c4, c5, c6, c7, c8] rfl
    obtain ⟨_, _, h1, _⟩ := field_at Try.underlying73 h 1 _ rfl 1 cells_int [c9] rfl
    obtain ⟨_, _, h2, _⟩ := field_at Try.underlying73 h 2 _ rfl 1 cells_int [c10] rfl
    obtain ⟨_, _, h3, _⟩ := field_at Try.underlying73 h 3 _ rfl 1 cells_int [c11] rfl
    obtain ⟨_, _, h4, _⟩ := field_at Try.underlying73 h 4 _ rfl 1 cells_int [c12] rfl
    obtain ⟨_, _, h5, _⟩ := field_at Try.underlying73 h 5 _ rfl 1 cells_ints [c13] rfl
    obtain ⟨g, eg, wg⟩ := gang_cells h0
    obtain ⟨k1, rfl, w1⟩ := int_cell h1
    obtain ⟨k2, rfl, w2⟩ := int_cell h2
    obtain ⟨k3, rfl, w3⟩ := int_cell h3
    obtain ⟨k4, rfl, w4⟩ := int_cell h4
    obtain ⟨ao, cap, bb, oo, l, rfl, sl, wl⟩ := ints_cell h5
    obtain ⟨g1', g2', g3', ⟨gx, gy, gz⟩, g4', g5', g6'⟩ := g
    simp only [Gg.c, List.cons.injEq, and_true] at eg
    obtain ⟨rfl, rfl, rfl, rfl, rfl, rfl, rfl, rfl, rfl⟩ := eg
    exact ⟨⟨⟨⟨g1', g2', g3', ⟨gx, gy, gz⟩, g4', g5', g6'⟩, k1, k2, k3, k4, l⟩, _⟩, rfl, ⟨wg, w1, w2, w3, w4, wl⟩, ao, cap, bb, oo, rfl, sl⟩
theorem rows_running {n : Nat} {v : Value} {y : DataW H × List MemPlace} (h : DataW.trod enc Try.prog w 0 (fun _ => true) true n 48 [v] = some y) :
    ∃ (ao : Option Addr) (cap bb oo : Nat) (l : List Rv), v = .slice ao l.length cap ∧ Sl Rv.c 48 14 w ao cap bb oo l ∧ ∀ x ∈ l, x.r.wide ∧ x.at w := by
  obtain ⟨ao, cp, bb, oo, l, e, sl, wl, _⟩ := open_rows Rv.c (fun x => x.r.wide ∧ x.at w) 48 73 14 (by decide) ⟨⟨⟨0, 0, 0, ⟨0, 0, 0⟩, 0, 0, 0⟩, 0, 0, 0, 0, []⟩, .slice none 0 0⟩ Try.underlying48 cells_running (by rw [show Try.prog.bytesOf 73 = 128 by kernel_rfl]; decide) running_index_at (fun n cs y hl h => running_cells hl h) h
  exact ⟨ao, cp, bb, oo, l, e, sl, wl⟩
/-- A list of gangs that run, opened. -/
theorem open_running {r : Reach} {b0 : Nat} {v : Value} {d : DataW H} {p : List MemPlace} (hv : Value.okWide Try.prog w r b0 48 v) (h : DataW.Trod enc Try.prog w 0 (fun _ => true) true 48 v d p) :
    ∃ (ao : Option Addr) (cap bb oo : Nat) (l : List Rv), v = .slice ao l.length cap ∧ Sl Rv.c 48 14 w ao cap bb oo l ∧ ∀ x ∈ l, x.r.wide ∧ x.at w := by
  obtain ⟨a0, len0, cap0, rfl⟩ := okWide_slice Try.underlying48 hv
  obtain ⟨fuel, hf⟩ := h
  have hf' : DataW.trod enc Try.prog w 0 (fun _ => true) true fuel 48 [.slice a0 len0 cap0] = some (d, p) := by simpa [Value.cells] using hf
  exact rows_running hf'
end

end Go.Proofs.Ytkaikekibmgmmaa

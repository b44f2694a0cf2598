/- Deeds among the arguments: opened. -/
import Derived.Test.YtkaikekibmgmmaaLgD
import Derived.Test.YtkaikekibmgmmaaGe
namespace Go.Proofs.Ytkaikekibmgmmaa
open Go.RowKit Go.Joins Go.ChangeShapes Go.WideShapes Go.Deep
set_option linter.unusedVariables false

theorem cells_bool : Try.prog.cellsOf 4 = 1 := by kernel_rfl
theorem cells_deed : Try.prog.cellsOf 37 = 5 := by kernel_rfl
theorem deed_index_at (b o len cap i : Nat) (hi : i < len) (w0 : World) : (Instr.indexAt 26 (.slice (some ⟨b, o, none⟩) len cap) (.int .i64 (i : Int))).run Try.prog w0 = .ok (.pointer (some ⟨b, o + i * 5, none⟩)) w0 := by
  have e : (⟨b, o, none⟩ : Addr).add (i * 5) = ⟨b, o + i * 5, none⟩ := by unfold Addr.add; split <;> simp_all
  have h : (0 : Int) ≤ (i : Int) ∧ (i : Int) < (len : Int) := by omega
  simp [Instr.indexAt, run_underlying Try.underlying26, asIntOf, hi, e]
theorem deed_cells {H : Type} {enc : TypeId × Value → H} {w : World} {n : Nat} {cs : List Value} {y : DataW H × List MemPlace} (hl : cs.length = 5) (h : DataW.trod enc Try.prog w 0 (fun _ => true) true n 37 cs = some y) : ∃ x : De, cs = x.c.toList ∧ x.wide := by
  match cs, hl with
  | [c0, c1, c2, c3, c4], _ =>
    obtain ⟨_, _, h0, _⟩ := field_at Try.underlying37 h 0 _ rfl 1 cells_bool [c0] rfl
    obtain ⟨_, _, h1, _⟩ := field_at Try.underlying37 h 1 _ rfl 1 cells_int [c1] rfl
    obtain ⟨_, _, h2, _⟩ := field_at Try.underlying37 h 2 _ rfl 3 cells_vec [c2, c3, c4] rfl
    obtain ⟨b, e0, _⟩ := DataW.trod_bool Try.underlying4 h0
    simp only [List.cons.injEq, and_true] at e0
    subst e0
    obtain ⟨k1, rfl, w1⟩ := int_cell h1
    obtain ⟨v2, rfl, rfl, rfl, w2⟩ := vec_cells h2
    exact ⟨⟨b, k1, v2⟩, rfl, w1, w2⟩
theorem open_deeds {H : Type} {enc : TypeId × Value → H} {w : World} {r : Reach} {b0 : Nat} {v : Value} {d : DataW H} {p : List MemPlace} (hv : Value.okWide Try.prog w r b0 26 v) (h : DataW.Trod enc Try.prog w 0 (fun _ => true) true 26 v d p) :
    ∃ (ao : Option Addr) (cap bb oo : Nat) (l : List De), v = .slice ao l.length cap ∧ Sl De.c 26 5 w ao cap bb oo l ∧ ∀ y ∈ l, y.wide := by
  obtain ⟨a0, len0, cap0, rfl⟩ := okWide_slice Try.underlying26 hv
  obtain ⟨fuel, hf⟩ := h
  have hf' : DataW.trod enc Try.prog w 0 (fun _ => true) true fuel 26 [.slice a0 len0 cap0] = some (d, p) := by simpa [Value.cells] using hf
  obtain ⟨ao, cp, bb, oo, l, e, sl, wl, _⟩ := open_rows De.c De.wide 26 37 5 (by decide) ⟨false, 0, ⟨0, 0, 0⟩⟩ Try.underlying26 cells_deed (by rw [show Try.prog.bytesOf 37 = 40 by kernel_rfl]; decide) deed_index_at (fun n cs y hl h => deed_cells hl h) hf'
  exact ⟨ao, cp, bb, oo, l, e, sl, wl⟩
theorem open_deed {H : Type} {enc : TypeId × Value → H} {w : World} {r : Reach} {b0 : Nat} {v : Value} {d : DataW H} {p : List MemPlace} (hv : Value.okWide Try.prog w r b0 37 v) (h : DataW.Trod enc Try.prog w 0 (fun _ => true) true 37 v d p) :
    ∃ x : De, v = .agg x.c ∧ x.wide := by
  obtain ⟨⟨l⟩, rfl, hsz⟩ := okWide_struct Try.underlying37 hv
  rw [cells_deed] at hsz
  obtain ⟨fuel, hf⟩ := h
  have h1 : DataW.trod enc Try.prog w 0 (fun _ => true) true fuel 37 l = some (d, p) := by simpa [Value.cells] using hf
  obtain ⟨x, rfl, hx⟩ := deed_cells hsz h1
  exact ⟨x, rfl, hx⟩

end Go.Proofs.Ytkaikekibmgmmaa

/- Amounts and numbers among the arguments: opened. -/
import Derived.Test.YtkakgjmajplgmaaQtI
import Derived.Test.YtkakgjmajplgmaaCfgO
namespace Go.Proofs.Ytkakgjmajplgmaa
open Go.RowKit Go.Joins Go.ChangeShapes Go.WideShapes Go.Deep
set_option linter.unusedVariables false

theorem vec_index_at (b o len cap i : Nat) (hi : i < len) (w0 : World) : (Instr.indexAt 26 (.slice (some ⟨b, o, none⟩) len cap) (.int .i64 (i : Int))).run Try.prog w0 = .ok (.pointer (some ⟨b, o + i * 3, none⟩)) w0 := by
  have e : (⟨b, o, none⟩ : Addr).add (i * 3) = ⟨b, o + i * 3, none⟩ := by unfold Addr.add; split <;> simp_all
  have h : (0 : Int) ≤ (i : Int) ∧ (i : Int) < (len : Int) := by omega
  simp [Instr.indexAt, run_underlying Try.underlying26, asIntOf, hi, e]
theorem vec3_cells {H : Type} {enc : TypeId × Value → H} {w : World} {n : Nat} {cs : List Value} {y : DataW H × List MemPlace} (hl : cs.length = 3) (h : DataW.trod enc Try.prog w 0 (fun _ => true) true n 29 cs = some y) : ∃ x : V3, cs = x.c.toList ∧ x.wide := by
  match cs, hl with
  | [a, b, c], _ =>
    obtain ⟨v, rfl, rfl, rfl, wv⟩ := vec_cells h
    exact ⟨v, rfl, wv⟩
theorem open_used {H : Type} {enc : TypeId × Value → H} {w : World} {r : Reach} {b0 : Nat} {v : Value} {d : DataW H} {p : List MemPlace} (hv : Value.okWide Try.prog w r b0 26 v) (h : DataW.Trod enc Try.prog w 0 (fun _ => true) true 26 v d p) :
    ∃ (ao : Option Addr) (cap bb oo : Nat) (l : List V3), v = .slice ao l.length cap ∧ Sl V3.c 26 3 w ao cap bb oo l ∧ ∀ y ∈ l, y.wide := by
  obtain ⟨a0, len0, cap0, rfl⟩ := okWide_slice Try.underlying26 hv
  obtain ⟨fuel, hf⟩ := h
  have hf' : DataW.trod enc Try.prog w 0 (fun _ => true) true fuel 26 [.slice a0 len0 cap0] = some (d, p) := by simpa [Value.cells] using hf
  obtain ⟨ao, cp, bb, oo, l, e, sl, wl, _⟩ := open_rows V3.c V3.wide 26 29 3 (by decide) ⟨0, 0, 0⟩ Try.underlying26 cells_vec (by rw [show Try.prog.bytesOf 29 = 24 by kernel_rfl]; decide) vec_index_at (fun n cs y hl h => vec3_cells hl h) hf'
  exact ⟨ao, cp, bb, oo, l, e, sl, wl⟩

theorem open_ints4 {H : Type} {enc : TypeId × Value → H} {w : World} {r : Reach} {b0 : Nat} {v : Value} {d : DataW H} {p : List MemPlace} (hv : Value.okWide Try.prog w r b0 27 v) (h : DataW.Trod enc Try.prog w 0 (fun _ => true) true 27 v d p) :
    ∃ k0 k1 k2 k3 : Int, v = .agg #[.int .i64 k0, .int .i64 k1, .int .i64 k2, .int .i64 k3] ∧ In64 k0 ∧ In64 k1 ∧ In64 k2 ∧ In64 k3 := by
  obtain ⟨cs, rfl, hsz, _⟩ : ∃ cs, v = .agg cs ∧ cs.size = Try.prog.cellsOf 27 ∧ Row.okWide Try.prog w r b0 27 cs := by
    simpa [Value.okWide, Try.underlying27] using hv
  rw [show Try.prog.cellsOf 27 = 4 by kernel_rfl] at hsz
  obtain ⟨l⟩ := cs
  obtain ⟨fuel, hf⟩ := h
  match l, hsz with
  | [c0, c1, c2, c3], _ =>
    have h1 : DataW.trod enc Try.prog w 0 (fun _ => true) true fuel 27 [c0, c1, c2, c3] = some (d, p) := by simpa [Value.cells] using hf
    obtain ⟨xs, m, _, _, _, hl, hi⟩ := DataW.trod_array Try.underlying27 h1
    rw [cells_int] at hi
    have e0 : DataW.trod enc Try.prog w 0 (fun _ => true) true m 3 [c0] = some xs[0] := (hi 0 (by decide)).trans (List.getElem?_eq_getElem (by omega))
    obtain ⟨k0, rfl, w0⟩ := int_cell e0
    have e1 : DataW.trod enc Try.prog w 0 (fun _ => true) true m 3 [c1] = some xs[1] := (hi 1 (by decide)).trans (List.getElem?_eq_getElem (by omega))
    obtain ⟨k1, rfl, w1⟩ := int_cell e1
    have e2 : DataW.trod enc Try.prog w 0 (fun _ => true) true m 3 [c2] = some xs[2] := (hi 2 (by decide)).trans (List.getElem?_eq_getElem (by omega))
    obtain ⟨k2, rfl, w2⟩ := int_cell e2
    have e3 : DataW.trod enc Try.prog w 0 (fun _ => true) true m 3 [c3] = some xs[3] := (hi 3 (by decide)).trans (List.getElem?_eq_getElem (by omega))
    obtain ⟨k3, rfl, w3⟩ := int_cell e3
    exact ⟨k0, k1, k2, k3, rfl, w0, w1, w2, w3⟩

theorem open_ints5 {H : Type} {enc : TypeId × Value → H} {w : World} {r : Reach} {b0 : Nat} {v : Value} {d : DataW H} {p : List MemPlace} (hv : Value.okWide Try.prog w r b0 44 v) (h : DataW.Trod enc Try.prog w 0 (fun _ => true) true 44 v d p) :
    ∃ k0 k1 k2 k3 k4 : Int, v = .agg #[.int .i64 k0, .int .i64 k1, .int .i64 k2, .int .i64 k3, .int .i64 k4] ∧ In64 k0 ∧ In64 k1 ∧ In64 k2 ∧ In64 k3 ∧ In64 k4 := by
  obtain ⟨cs, rfl, hsz, _⟩ : ∃ cs, v = .agg cs ∧ cs.size = Try.prog.cellsOf 44 ∧ Row.okWide Try.prog w r b0 44 cs := by
    simpa [Value.okWide, Try.underlying44] using hv
  rw [show Try.prog.cellsOf 44 = 5 by kernel_rfl] at hsz
  obtain ⟨l⟩ := cs
  obtain ⟨fuel, hf⟩ := h
  match l, hsz with
  | [c0, c1, c2, c3, c4], _ =>
    have h1 : DataW.trod enc Try.prog w 0 (fun _ => true) true fuel 44 [c0, c1, c2, c3, c4] = some (d, p) := by simpa [Value.cells] using hf
    obtain ⟨xs, m, _, _, _, hl, hi⟩ := DataW.trod_array Try.underlying44 h1
    rw [cells_int] at hi
    have e0 : DataW.trod enc Try.prog w 0 (fun _ => true) true m 3 [c0] = some xs[0] := (hi 0 (by decide)).trans (List.getElem?_eq_getElem (by omega))
    obtain ⟨k0, rfl, w0⟩ := int_cell e0
    have e1 : DataW.trod enc Try.prog w 0 (fun _ => true) true m 3 [c1] = some xs[1] := (hi 1 (by decide)).trans (List.getElem?_eq_getElem (by omega))
    obtain ⟨k1, rfl, w1⟩ := int_cell e1
    have e2 : DataW.trod enc Try.prog w 0 (fun _ => true) true m 3 [c2] = some xs[2] := (hi 2 (by decide)).trans (List.getElem?_eq_getElem (by omega))
    obtain ⟨k2, rfl, w2⟩ := int_cell e2
    have e3 : DataW.trod enc Try.prog w 0 (fun _ => true) true m 3 [c3] = some xs[3] := (hi 3 (by decide)).trans (List.getElem?_eq_getElem (by omega))
    obtain ⟨k3, rfl, w3⟩ := int_cell e3
    have e4 : DataW.trod enc Try.prog w 0 (fun _ => true) true m 3 [c4] = some xs[4] := (hi 4 (by decide)).trans (List.getElem?_eq_getElem (by omega))
    obtain ⟨k4, rfl, w4⟩ := int_cell e4
    exact ⟨k0, k1, k2, k3, k4, rfl, w0, w1, w2, w3, w4⟩

end Go.Proofs.Ytkakgjmajplgmaa

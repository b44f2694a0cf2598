/- A deed by value, a slice of deeds: opened. -/
import Derived.Test.YtigampjbhicfcaaBelow
import Derived.Lib.SmallJoins
import Derived.Deep.Slices
import Derived.Deep.Fields
import Derived.ChangeSame
namespace Go.Proofs.Ytigampjbhicfcaa
open Go.RowKit Go.Joins Go.ChangeShapes Go.WideShapes Go.Deep
set_option linter.unusedVariables false

theorem deed_three : Try.prog.cellsOf 29 = 3 := by kernel_rfl

section
variable {H : Type} {enc : TypeId × Value → H} {w : World} {base : Nat} {spare : Nat → Bool} {held : Bool}
theorem open_deed {r : Reach} {b0 : Nat} {v : Value} {d : DataW H} {p : List MemPlace} (hv : Value.okWide Try.prog w r b0 29 v) (h : DataW.Trod enc Try.prog w base spare held 29 v d p) :
    ∃ (k n : Int) (s : ByteArray), v = .agg #[.int .i64 k, .int .i64 n, .string s] ∧ s.size ≤ maxLen := by
  obtain ⟨c0, c1, c2, y0, y1, y2, m, rfl, _, _, h0, h1, h2⟩ := open_agg3 Try.underlying29 (by kernel_rfl) deed_three hv h
  obtain ⟨k, e0, _, _⟩ := DataW.trod_int Try.underlying3 h0
  obtain ⟨n, e1, _, _⟩ := DataW.trod_int Try.underlying3 h1
  obtain ⟨s, e2, _, hs⟩ := DataW.trod_string Try.underlying9 h2
  simp only [List.cons.injEq, and_true] at e0 e1 e2
  subst e0 e1 e2
  exact ⟨k, n, s, rfl, hs⟩
end

/-- A slice of deeds that came in: where each lies, what it holds. -/
structure Deeds (w : World) (ao : Option Addr) (len cap bb oo : Nat) (K N : Nat → Int) (S : Nat → ByteArray) : Prop where
  small : len ≤ 9223372036854775807
  lt : 0 < len → bb < w.heap.size
  idx : ∀ i : Nat, i < len → ∀ w0, (Instr.indexAt 22 (.slice ao len cap) (.int .i64 (i : Int))).run Try.prog w0 = .ok (.pointer (some ⟨bb, oo + i * 3, none⟩)) w0
  at0 : ∀ i : Nat, i < len → w.cell? ⟨bb, oo + i * 3, none⟩ = some (.int .i64 (K i))
  at1 : ∀ i : Nat, i < len → w.cell? ⟨bb, oo + i * 3 + 1, none⟩ = some (.int .i64 (N i))
  at2 : ∀ i : Nat, i < len → w.cell? ⟨bb, oo + i * 3 + 2, none⟩ = some (.string (S i))

theorem Deeds.kept {w w' : World} {ao : Option Addr} {len cap bb oo : Nat} {K N : Nat → Int} {S : Nat → ByteArray} (h : Deeds w ao len cap bb oo K N S) (g : Below w.heap.size w w') : Deeds w' ao len cap bb oo K N S :=
  ⟨h.small, fun h0 => Nat.lt_of_lt_of_le (h.lt h0) g.size, h.idx, fun i hi => (g.cell (p := ⟨bb, _, none⟩) (h.lt (by omega))).trans (h.at0 i hi), fun i hi => (g.cell (p := ⟨bb, _, none⟩) (h.lt (by omega))).trans (h.at1 i hi), fun i hi => (g.cell (p := ⟨bb, _, none⟩) (h.lt (by omega))).trans (h.at2 i hi)⟩

section
variable {H : Type} {enc : TypeId × Value → H} {P : Program} {w : World} {base : Nat} {spare : Nat → Bool} {held : Bool}
/-- A struct of three fields, a cell each, read out of three cells. -/
theorem three_cells {e : TypeId} {f0 f1 f2 : Field} {fuel : Nat} {cs : List Value} {x : DataW H × List MemPlace} (he : P.underlying e = some (.struct #[f0, f1, f2])) (hone : oneCellFields P #[f0, f1, f2] = true) (hl : cs.length = 3) (h : DataW.trod enc P w base spare held fuel e cs = some x) :
    ∃ (c0 c1 c2 : Value) (y0 y1 y2 : DataW H × List MemPlace) (n : Nat), cs = [c0, c1, c2] ∧ DataW.trod enc P w base spare held n f0.type [c0] = some y0 ∧ DataW.trod enc P w base spare held n f1.type [c1] = some y1 ∧ DataW.trod enc P w base spare held n f2.type [c2] = some y2 := by
  obtain ⟨xs, n, _, _, _, hxl, hg⟩ := DataW.trod_struct he h
  obtain ⟨o0, k0⟩ := hone_of hone 0 f0 rfl
  obtain ⟨o1, k1⟩ := hone_of hone 1 f1 rfl
  obtain ⟨o2, k2⟩ := hone_of hone 2 f2 rfl
  match cs, hl, xs, hxl with
  | [c0, c1, c2], _, [y0, y1, y2], _ =>
    exact ⟨c0, c1, c2, y0, y1, y2, n, rfl, by simpa [o0, k0] using hg 0 f0 rfl, by simpa [o1, k1] using hg 1 f1 rfl, by simpa [o2, k2] using hg 2 f2 rfl⟩
end

theorem deed_index (b o len cap i : Nat) (hi : i < len) (w0 : World) : (Instr.indexAt 22 (.slice (some ⟨b, o, none⟩) len cap) (.int .i64 (i : Int))).run Try.prog w0 = .ok (.pointer (some ⟨b, o + i * 3, none⟩)) w0 := by
  have e : (⟨b, o, none⟩ : Addr).add (i * 3) = ⟨b, o + i * 3, none⟩ := by unfold Addr.add; split <;> simp_all
  have h : (0 : Int) ≤ (i : Int) ∧ (i : Int) < (len : Int) := by omega
  simp [Instr.indexAt, run_underlying Try.underlying22, asIntOf, hi, e]

theorem open_deeds {H : Type} {enc : TypeId × Value → H} {w : World} {r : Reach} {b0 : Nat} {v : Value} {d : DataW H} {p : List MemPlace} (hv : Value.okWide Try.prog w r b0 22 v) (h : DataW.Trod enc Try.prog w 0 (fun _ => true) true 22 v d p) :
    ∃ (ao : Option Addr) (len cap bb oo : Nat) (K N : Nat → Int) (S : Nat → ByteArray), v = .slice ao len cap ∧ Deeds w ao len cap bb oo K N S := by
  obtain ⟨a0, len0, cap0, rfl⟩ := okWide_slice Try.underlying22 hv
  obtain ⟨fuel, hf⟩ := h
  have hf' : DataW.trod enc Try.prog w 0 (fun _ => true) true fuel 22 [.slice a0 len0 cap0] = some (d, p) := by simpa [Value.cells] using hf
  rcases open_slice Try.underlying22 hf' with ⟨e, _⟩ | ⟨a, len, cap, m, n, D, Pl, e, _, hl, hm, hmm, _, hall⟩
  · simp only [List.cons.injEq, Value.slice.injEq, and_true] at e
    obtain ⟨rfl, rfl, rfl⟩ := e
    exact ⟨none, 0, 0, 0, 0, fun _ => 0, fun _ => 0, fun _ => ⟨#[]⟩, rfl, ⟨by omega, fun h => by omega, fun i h => by omega, fun i h => by omega, fun i h => by omega, fun i h => by omega⟩⟩
  · simp only [List.cons.injEq, Value.slice.injEq, and_true] at e
    obtain ⟨rfl, rfl, rfl⟩ := e
    have hm' : m = cap0 := by simpa using hmm
    have each : ∀ i, i < len0 → ∃ (k n : Int) (s : ByteArray), w.cell? (a.add (i * 3)) = some (.int .i64 k) ∧ w.cell? (a.add (i * 3 + 1)) = some (.int .i64 n) ∧ w.cell? (a.add (i * 3 + 2)) = some (.string s) := by
      intro i hi
      obtain ⟨cs', hc, ht⟩ := hall i (by omega)
      rw [deed_three] at hc
      obtain ⟨_, hlen, hat⟩ := World.cells?_some hc
      obtain ⟨c0, c1, c2, y0, y1, y2, n', rfl, q0, q1, q2⟩ := three_cells Try.underlying29 (by kernel_rfl) hlen ht
      obtain ⟨k, e0, _, _⟩ := DataW.trod_int Try.underlying3 q0
      obtain ⟨nn, e1, _, _⟩ := DataW.trod_int Try.underlying3 q1
      obtain ⟨s, e2, _, hs⟩ := DataW.trod_string Try.underlying9 q2
      simp only [List.cons.injEq, and_true] at e0 e1 e2
      subst e0 e1 e2
      have h0 := hat 0 (by omega)
      have h1 := hat 1 (by omega)
      have h2 := hat 2 (by omega)
      rw [add_add] at h0 h1 h2
      exact ⟨k, nn, s, h0, h1, h2⟩
    have small : len0 ≤ 9223372036854775807 := by simp only [maxLen] at hm; omega
    by_cases h0 : len0 = 0
    · subst h0
      exact ⟨some a, 0, cap0, 0, 0, fun _ => 0, fun _ => 0, fun _ => ⟨#[]⟩, rfl, ⟨by omega, fun h => by omega, fun i h => by omega, fun i h => by omega, fun i h => by omega, fun i h => by omega⟩⟩
    · obtain ⟨b, off, spot⟩ := a
      obtain ⟨_, _, _, c0, _⟩ := each 0 (by omega)
      have hspot : spot = none := by simpa [Addr.add] using World.cell?_spot c0
      subst hspot
      have ea : ∀ j, (⟨b, off, none⟩ : Addr).add j = ⟨b, off + j, none⟩ := fun j => by unfold Addr.add; split <;> simp_all
      simp only [ea] at each c0
      have ex : ∀ i, ∃ x : Int × Int × ByteArray, i < len0 → w.cell? ⟨b, off + i * 3, none⟩ = some (.int .i64 x.1) ∧ w.cell? ⟨b, off + (i * 3 + 1), none⟩ = some (.int .i64 x.2.1) ∧ w.cell? ⟨b, off + (i * 3 + 2), none⟩ = some (.string x.2.2) := by
        intro i
        by_cases hi : i < len0
        · obtain ⟨k, n, s, q⟩ := each i hi
          exact ⟨(k, n, s), fun _ => q⟩
        · exact ⟨(0, 0, ⟨#[]⟩), fun h => absurd h hi⟩
      refine ⟨some ⟨b, off, none⟩, len0, cap0, b, off, fun i => (Classical.choose (ex i)).1, fun i => (Classical.choose (ex i)).2.1, fun i => (Classical.choose (ex i)).2.2, rfl, ⟨small, fun _ => World.block_lt_of_cell? w _ c0, fun i hi w0 => deed_index b off len0 cap0 i hi w0, fun i hi => ?_, fun i hi => ?_, fun i hi => ?_⟩⟩
      · exact (Classical.choose_spec (ex i) hi).1
      · exact (Classical.choose_spec (ex i) hi).2.1
      · exact (Classical.choose_spec (ex i) hi).2.2

end Go.Proofs.Ytigampjbhicfcaa

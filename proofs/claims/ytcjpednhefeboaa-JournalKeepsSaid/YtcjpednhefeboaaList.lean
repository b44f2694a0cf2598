/- A list of texts that came in: opened; how great each of its texts is. -/
import Derived.Test.YtcjpednhefeboaaJrnA
import Derived.Test.YtcjpednhefeboaaBelow
import Derived.Lib.SmallJoins
import Derived.Deep.Slices
import Derived.Deep.Fields
import Derived.SizedLaws
import Derived.ChangeSame
namespace Go.Proofs.Ytcjpednhefeboaa
open Go.RowKit Go.Joins Go.ChangeShapes Go.WideShapes Go.Deep
set_option linter.unusedVariables false

theorem text_cells : Try.prog.cellsOf 9 = 1 := by kernel_rfl

section
variable {H : Type} {P : Program}
theorem weights_all_mem {e : TypeId} : ∀ {l : List (DataW H)} {d : DataW H}, d ∈ l → ∀ n ∈ d.weights P e, n ∈ DataW.weightsAll P e l
  | d' :: r, d, hd, n, hn => by
    simp only [DataW.weightsAll, List.mem_append]
    rcases List.mem_cons.1 hd with rfl | h
    · exact Or.inl hn
    · exact Or.inr (weights_all_mem h n hn)
theorem sized_mem {ts : List TypeId} {ds : List (DataW H)} (h : (DataW.weightsEach P ts ds).all (· ≤ reachBytes) = true) {j : Nat} {t : TypeId} {d : DataW H} (ht : ts[j]? = some t) (hd : ds[j]? = some d) {n : Nat} (hn : n ∈ d.weights P t) : n ≤ 140737488351232 := by
  have := List.all_eq_true.1 h _ (DataW.weights_mem_each ht hd n hn)
  exact of_decide_eq_true this
end

theorem open_list {H : Type} {enc : TypeId × Value → H} {w : World} {r : Reach} {b0 : Nat} {v : Value} {d : DataW H} {p : List MemPlace} (hv : Value.okWide Try.prog w r b0 23 v) (h : DataW.Trod enc Try.prog w 0 (fun _ => true) true 23 v d p) :
    ∃ (ao : Option Addr) (len cap bb oo : Nat) (S : Nat → ByteArray), v = .slice ao len cap ∧ Lst w ao len cap bb oo S ∧ ∀ i, i < len → (S i).size ∈ d.weights Try.prog 23 := by
  obtain ⟨a0, len0, cap0, rfl⟩ := okWide_slice Try.underlying23 hv
  obtain ⟨fuel, hf⟩ := h
  have hf' : DataW.trod enc Try.prog w 0 (fun _ => true) true fuel 23 [.slice a0 len0 cap0] = some (d, p) := by simpa [Value.cells] using hf
  rcases open_slice1 Try.underlying23 text_cells hf' with ⟨e, _⟩ | ⟨a, len, cap, m, n, V, D, Pl, e, _, hl, hm, hmm, ex, hall⟩
  · simp only [List.cons.injEq, Value.slice.injEq, and_true] at e
    obtain ⟨rfl, rfl, rfl⟩ := e
    exact ⟨none, 0, 0, 0, 0, fun _ => ⟨#[]⟩, rfl, ⟨by omega, fun h => by omega, fun i h => by omega, fun i h => by omega⟩, fun i h => by omega⟩
  · simp only [List.cons.injEq, Value.slice.injEq, and_true] at e
    obtain ⟨rfl, rfl, rfl⟩ := e
    obtain ⟨rfl, _⟩ := Prod.mk.injEq .. ▸ ex
    have hm' : m = cap0 := by simpa using hmm
    have each : ∀ i, ∃ s : ByteArray, i < len0 → w.cell? (a.add i) = some (.string s) ∧ D i = .lit (.string s.data.toList) := by
      intro i
      by_cases hi : i < len0
      · obtain ⟨hc, ht⟩ := hall i (by omega)
        obtain ⟨s, e0, e1, _⟩ := DataW.trod_string Try.underlying9 ht
        simp only [List.cons.injEq, and_true] at e0
        rw [e0] at hc
        exact ⟨s, fun _ => ⟨hc, (Prod.mk.inj e1).1⟩⟩
      · exact ⟨⟨#[]⟩, fun h => absurd h hi⟩
    obtain ⟨S, hS⟩ : ∃ S : Nat → ByteArray, ∀ i, i < len0 → w.cell? (a.add i) = some (.string (S i)) ∧ D i = .lit (.string (S i).data.toList) := ⟨fun i => Classical.choose (each i), fun i => Classical.choose_spec (each i)⟩
    clear each
    have small : len0 ≤ 9223372036854775807 := by simp only [maxLen] at hm; omega
    have wt : ∀ i, i < len0 → (S i).size ∈ (DataW.slice ((List.range len0).map D) ((List.range (m - len0)).map fun j => D (len0 + j))).weights Try.prog 23 := by
      intro i hi
      have hD := (hS i hi).2
      have hu : Try.prog.underlying 23 = some (.slice 9) := Try.underlying23
      simp only [DataW.weights, hu, List.mem_cons, List.mem_append]
      refine .inr (.inl (weights_all_mem (List.mem_map.2 ⟨i, List.mem_range.2 hi, rfl⟩) _ ?_))
      rw [hD]
      simp [DataW.weights]
    by_cases h0 : len0 = 0
    · subst h0
      exact ⟨some a, 0, cap0, 0, 0, fun _ => ⟨#[]⟩, rfl, ⟨by omega, fun h => by omega, fun i h => by omega, fun i h => by omega⟩, fun i h => by omega⟩
    · obtain ⟨b, off, spot⟩ := a
      have c0 := (hS 0 (by omega)).1
      have hspot : spot = none := by simpa [Addr.add] using World.cell?_spot c0
      subst hspot
      have ea : ∀ j, (⟨b, off, none⟩ : Addr).add j = ⟨b, off + j, none⟩ := fun j => by unfold Addr.add; split <;> simp_all
      refine ⟨some ⟨b, off, none⟩, len0, cap0, b, off, S, rfl, ⟨small, fun _ => World.block_lt_of_cell? w _ c0, fun i hi w0 => text_index b off len0 cap0 i hi w0, fun i hi => ?_⟩, wt⟩
      have := (hS i hi).1
      rwa [ea] at this

end Go.Proofs.Ytcjpednhefeboaa

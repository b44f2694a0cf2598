/- Slices of structs among the arguments: opened. -/
import Derived.Test.YtkakgjmajplgmaaCmdW
import Derived.Laws.IdiomArrays
import Derived.Lib.SmallJoins
import Derived.Deep.Slices
import Derived.Deep.Fields
import Derived.SizedLaws
import Derived.ChangeSame
import Derived.ChangeArms
namespace Go.Proofs.Ytkakgjmajplgmaa
open Go.RowKit Go.Joins Go.ChangeShapes Go.WideShapes Go.Deep
set_option linter.unusedVariables false

section
variable {H : Type} {enc : TypeId × Value → H} {P : Program} {w : World} {base : Nat} {spare : Nat → Bool} {held : Bool}
theorem field_at {t : TypeId} {fs : Array Field} {fuel : Nat} {cs : List Value} {x : DataW H × List MemPlace} (ht : P.underlying t = some (.struct fs)) (h : DataW.trod enc P w base spare held fuel t cs = some x) (i : Nat) (f : Field) (hi : fs[i]? = some f) (k : Nat) (hk : P.cellsOf f.type = k) (ds : List Value) (hd : (cs.drop f.offset).take k = ds) :
    ∃ n y, DataW.trod enc P w base spare held n f.type ds = some y ∧ ∀ m ∈ y.1.weights P f.type, m ∈ x.1.weights P t := by
  obtain ⟨xs, n, _, rfl, _, hxl, hg⟩ := DataW.trod_struct ht h
  have hlt : i < fs.size := by
    rcases Nat.lt_or_ge i fs.size with q | q
    · exact q
    · rw [Array.getElem?_eq_none q] at hi; cases hi
  have hx : xs[i]? = some xs[i] := List.getElem?_eq_getElem (by omega)
  refine ⟨n, xs[i], by rw [← hd, ← hk, hg i f hi, hx], fun m hm => ?_⟩
  simp only [DataW.weights, ht]
  exact DataW.weights_mem_each (j := i) (t := f.type) (d := xs[i].1) (by simp [hi]) (by simp [hx]) m hm
theorem weights_elem {e : TypeId} : ∀ {l : List (DataW H)} {d : DataW H}, d ∈ l → ∀ n ∈ d.weights P e, n ∈ DataW.weightsAll P e l
  | d' :: r, d, hd, n, hn => by
    simp only [DataW.weightsAll, List.mem_append]
    rcases List.mem_cons.1 hd with rfl | h
    · exact Or.inl hn
    · exact Or.inr (weights_elem h n hn)
end

theorem int_bounds {k : Int} (h : (Lit.int .i64 k).wf = true) : In64 k := by
  have := bounds_i64 h
  unfold In64; omega

section
variable {H : Type} {enc : TypeId × Value → H} {w : World} {base : Nat} {spare : Nat → Bool} {held : Bool}

theorem int_cell {n : Nat} {v : Value} {y : DataW H × List MemPlace} (h : DataW.trod enc Try.prog w base spare held n 3 [v] = some y) : ∃ k : Int, v = .int .i64 k ∧ In64 k := by
  obtain ⟨k, e0, _, wf⟩ := DataW.trod_int Try.underlying3 h
  simp only [List.cons.injEq, and_true] at e0
  exact ⟨k, e0, int_bounds wf⟩

theorem vec_cells {n : Nat} {a b c : Value} {y : DataW H × List MemPlace} (h : DataW.trod enc Try.prog w base spare held n 29 [a, b, c] = some y) : ∃ v : V3, a = .int .i64 v.x ∧ b = .int .i64 v.y ∧ c = .int .i64 v.z ∧ v.wide := by
  obtain ⟨y0, y1, y2, m, _, h0, h1, h2⟩ := trod_array3 Try.underlying29 (by kernel_rfl) h
  obtain ⟨k0, e0, w0⟩ := int_cell h0
  obtain ⟨k1, e1, w1⟩ := int_cell h1
  obtain ⟨k2, e2, w2⟩ := int_cell h2
  exact ⟨⟨k0, k1, k2⟩, e0, e1, e2, w0, w1, w2⟩
theorem cells_int : Try.prog.cellsOf 3 = 1 := by kernel_rfl
theorem cells_vec : Try.prog.cellsOf 29 = 3 := by kernel_rfl

theorem cells_node : Try.prog.cellsOf 42 = 11 := by kernel_rfl

theorem cells_host : Try.prog.cellsOf 62 = 6 := by kernel_rfl

theorem cells_config : Try.prog.cellsOf 25 = 4 := by kernel_rfl

theorem cells_nodes : Try.prog.cellsOf 22 = 1 := by kernel_rfl

theorem cells_hosts : Try.prog.cellsOf 23 = 1 := by kernel_rfl

theorem node_cells {n : Nat} {cs : List Value} {y : DataW H × List MemPlace} (hl : cs.length = 11) (h : DataW.trod enc Try.prog w base spare held n 42 cs = some y) : ∃ x : Nd, cs = x.c.toList ∧ x.wide := by
  match cs, hl with
  | [c0, c1, c2, c3, c4, c5, c6, c7, c8, c9, c10], _ =>
    obtain ⟨_, _, h0, _⟩ := field_at Try.underlying42 h 0 _ rfl 1 cells_int [c0] rfl
    obtain ⟨_, _, h1, _⟩ := field_at Try.underlying42 h 1 _ rfl 1 cells_int [c1] rfl
    obtain ⟨_, _, h2, _⟩ := field_at Try.underlying42 h 2 _ rfl 3 cells_vec [c2, c3, c4] rfl
    obtain ⟨_, _, h3, _⟩ := field_at Try.underlying42 h 3 _ rfl 3 cells_vec [c5, c6, c7] rfl
    obtain ⟨_, _, h4, _⟩ := field_at Try.underlying42 h 4 _ rfl 3 cells_vec [c8, c9, c10] rfl
    obtain ⟨k0, rfl, w0⟩ := int_cell h0
    obtain ⟨k1, rfl, w1⟩ := int_cell h1
    obtain ⟨v2, rfl, rfl, rfl, w2⟩ := vec_cells h2
    obtain ⟨v3, rfl, rfl, rfl, w3⟩ := vec_cells h3
    obtain ⟨v4, rfl, rfl, rfl, w4⟩ := vec_cells h4
    exact ⟨⟨k0, k1, v2, v3, v4⟩, rfl, w0, w1, w2, w3, w4⟩

theorem host_cells {n : Nat} {cs : List Value} {y : DataW H × List MemPlace} (hl : cs.length = 6) (h : DataW.trod enc Try.prog w base spare held n 62 cs = some y) : ∃ x : Hs, cs = x.c.toList ∧ x.wide := by
  match cs, hl with
  | [c0, c1, c2, c3, c4, c5], _ =>
    obtain ⟨_, _, h0, _⟩ := field_at Try.underlying62 h 0 _ rfl 1 cells_int [c0] rfl
    obtain ⟨_, _, h1, _⟩ := field_at Try.underlying62 h 1 _ rfl 1 cells_int [c1] rfl
    obtain ⟨_, _, h2, _⟩ := field_at Try.underlying62 h 2 _ rfl 1 cells_int [c2] rfl
    obtain ⟨_, _, h3, _⟩ := field_at Try.underlying62 h 3 _ rfl 3 cells_vec [c3, c4, c5] rfl
    obtain ⟨k0, rfl, w0⟩ := int_cell h0
    obtain ⟨k1, rfl, w1⟩ := int_cell h1
    obtain ⟨k2, rfl, w2⟩ := int_cell h2
    obtain ⟨v3, rfl, rfl, rfl, w3⟩ := vec_cells h3
    exact ⟨⟨k0, k1, k2, v3⟩, rfl, w0, w1, w2, w3⟩

end

section
variable {H : Type} {enc : TypeId × Value → H} {w : World}
/-- A slice of flat structs, opened. -/
theorem open_rows {α : Type} (en : α → Array Value) (wide : α → Prop) (T e : TypeId) (k : Nat) (hk : 0 < k) (dflt : α) (hT : Try.prog.underlying T = some (.slice e)) (hce : Try.prog.cellsOf e = k) (hbe : 0 < Try.prog.bytesOf e)
    (hidx : ∀ (b o len cap i : Nat), i < len → ∀ w0 : World, (Instr.indexAt T (.slice (some ⟨b, o, none⟩) len cap) (.int .i64 (i : Int))).run Try.prog w0 = .ok (.pointer (some ⟨b, o + i * k, none⟩)) w0)
    (hel : ∀ (n : Nat) (cs : List Value) (y : DataW H × List MemPlace), cs.length = k → DataW.trod enc Try.prog w 0 (fun _ => true) true n e cs = some y → ∃ x : α, cs = (en x).toList ∧ wide x)
    {fuel : Nat} {v : Value} {x : DataW H × List MemPlace} (h : DataW.trod enc Try.prog w 0 (fun _ => true) true fuel T [v] = some x) :
    ∃ (ao : Option Addr) (cap bb oo : Nat) (l : List α), v = .slice ao l.length cap ∧ Sl en T k w ao cap bb oo l ∧ (∀ y ∈ l, wide y) ∧ (l.length = 0 ∨ ∃ m ∈ x.1.weights Try.prog T, l.length ≤ m) := by
  rcases open_slice hT h with ⟨e0, _⟩ | ⟨a, len, cap, m, n, D, Pl, e0, _, hl, hm, hmm, ex, hall⟩
  · simp only [List.cons.injEq, and_true] at e0
    exact ⟨none, 0, 0, 0, [], e0, ⟨by simp, fun h => by simp at h, fun i h => by simp at h, fun i x hx => by simp at hx⟩, fun y hy => by simp at hy, .inl rfl⟩
  · simp only [List.cons.injEq, and_true] at e0
    subst e0
    have hm' : m = cap := by simpa using hmm
    have each : ∀ i, ∃ y : α, i < len → wide y ∧ ∀ (j : Nat) u, (en y).toList[j]? = some u → w.cell? (a.add (i * k + j)) = some u := by
      intro i
      by_cases hi : i < len
      · obtain ⟨cs', hc, ht⟩ := hall i (by omega)
        rw [hce] at hc
        obtain ⟨_, hlen, hat⟩ := World.cells?_some hc
        obtain ⟨y, rfl, hw⟩ := hel n cs' _ hlen ht
        refine ⟨y, fun _ => ⟨hw, fun j u hu => ?_⟩⟩
        have hj : j < k := by
          rcases Nat.lt_or_ge j k with q | q
          · exact q
          · rw [List.getElem?_eq_none (by omega)] at hu; cases hu
        have h1 := hat j hj
        rw [add_add] at h1
        rw [h1]
        simpa using hu
      · exact ⟨dflt, fun h => absurd h hi⟩
    obtain ⟨S, hS⟩ : ∃ S : Nat → α, ∀ i, i < len → wide (S i) ∧ ∀ (j : Nat) u, (en (S i)).toList[j]? = some u → w.cell? (a.add (i * k + j)) = some u := ⟨fun i => Classical.choose (each i), fun i => Classical.choose_spec (each i)⟩
    clear each
    have small : len ≤ 9223372036854775807 := by simp only [maxLen] at hm; omega
    have hlenl : ((List.range len).map S).length = len := by simp
    have hwt : len = 0 ∨ ∃ m ∈ x.1.weights Try.prog T, len ≤ m := by
      right
      rw [ex]
      refine ⟨_, by simp only [DataW.weights, hT]; exact List.mem_cons_self .., ?_⟩
      simp only [List.length_map, List.length_range]
      have : len ≤ (len + (m - len)) * 1 := by omega
      exact Nat.le_trans this (Nat.mul_le_mul_left _ hbe)
    by_cases h0 : len = 0
    · subst h0
      exact ⟨some a, cap, 0, 0, [], rfl, ⟨by simp, fun h => by simp at h, fun i h => by simp at h, fun i x hx => by simp at hx⟩, fun y hy => by simp at hy, .inl rfl⟩
    · obtain ⟨b, off, spot⟩ := a
      obtain ⟨cs', hc, _⟩ := hall 0 (by omega)
      rw [hce] at hc
      obtain ⟨_, hlen, hat⟩ := World.cells?_some hc
      have h2 := hat 0 hk
      rw [add_add, List.getElem?_eq_getElem (by omega)] at h2
      have hspot : spot = none := by simpa [Addr.add] using World.cell?_spot h2
      subst hspot
      have ea : ∀ j, (⟨b, off, none⟩ : Addr).add j = ⟨b, off + j, none⟩ := fun j => by unfold Addr.add; split <;> simp_all
      simp only [ea] at hS h2
      refine ⟨some ⟨b, off, none⟩, cap, b, off, (List.range len).map S, by rw [hlenl], ⟨by rw [hlenl]; exact small, fun _ => World.block_lt_of_cell? w _ h2, fun i hi w0 => ?_, fun i y hy j u hu => ?_⟩, fun y hy => ?_, by rw [hlenl]; exact hwt⟩
      · rw [hlenl] at hi ⊢
        exact hidx b off len cap i hi w0
      · have hi : i < len := by
          rcases Nat.lt_or_ge i len with q | q
          · exact q
          · rw [List.getElem?_eq_none (by rw [hlenl]; exact q)] at hy; cases hy
        have : y = S i := by
          rw [List.getElem?_map, List.getElem?_range hi] at hy
          simpa using hy.symm
        subst this
        have := (hS i hi).2 j u hu
        rw [Nat.add_assoc]
        exact this
      · obtain ⟨i, hi, rfl⟩ := List.mem_map.1 hy
        exact (hS i (List.mem_range.1 hi)).1

theorem node_index_at (b o len cap i : Nat) (hi : i < len) (w0 : World) : (Instr.indexAt 22 (.slice (some ⟨b, o, none⟩) len cap) (.int .i64 (i : Int))).run Try.prog w0 = .ok (.pointer (some ⟨b, o + i * 11, none⟩)) w0 := by
  have e : (⟨b, o, none⟩ : Addr).add (i * 11) = ⟨b, o + i * 11, none⟩ := by unfold Addr.add; split <;> simp_all
  have h : (0 : Int) ≤ (i : Int) ∧ (i : Int) < (len : Int) := by omega
  simp [Instr.indexAt, run_underlying Try.underlying22, asIntOf, hi, e]
theorem host_index_at (b o len cap i : Nat) (hi : i < len) (w0 : World) : (Instr.indexAt 23 (.slice (some ⟨b, o, none⟩) len cap) (.int .i64 (i : Int))).run Try.prog w0 = .ok (.pointer (some ⟨b, o + i * 6, none⟩)) w0 := by
  have e : (⟨b, o, none⟩ : Addr).add (i * 6) = ⟨b, o + i * 6, none⟩ := by unfold Addr.add; split <;> simp_all
  have h : (0 : Int) ≤ (i : Int) ∧ (i : Int) < (len : Int) := by omega
  simp [Instr.indexAt, run_underlying Try.underlying23, asIntOf, hi, e]

end
end Go.Proofs.Ytkakgjmajplgmaa

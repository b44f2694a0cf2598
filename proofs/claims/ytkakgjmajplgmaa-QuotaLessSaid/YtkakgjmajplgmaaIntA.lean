/- Rows of numbers that grow. -/
import Derived.Test.YtkakgjmajplgmaaCmdI
namespace Go.Proofs.Ytkakgjmajplgmaa
open Go.RowKit
set_option linter.unusedVariables false

theorem cellsOf_cons {α : Type} (enc : α → Array Value) (x : α) (l : List α) : cellsOf enc (x :: l) = (enc x).toList ++ cellsOf enc l := by simp [cellsOf]

/-- A number's cell; a row of numbers. -/
def iC (k : Int) : Array Value := #[.int .i64 k]
theorem int_index (b len cap i : Nat) (hi : i < len) (w0 : World) : (Instr.indexAt 36 (.slice (some ⟨b, 0, none⟩) len cap) (.int .i64 (i : Int))).run Try.prog w0 = .ok (.pointer (some ⟨b, 0 + i * 1, none⟩)) w0 := by
  have e : (⟨b, 0, none⟩ : Addr).add (i * 1) = ⟨b, 0 + i * 1, none⟩ := by unfold Addr.add; split <;> simp_all
  have h : (0 : Int) ≤ (i : Int) ∧ (i : Int) < (len : Int) := by omega
  rw [Nat.mul_one] at e
  simp [Instr.indexAt, run_underlying Try.underlying36, asIntOf, hi, e]
theorem int_info : (Try.prog.info? 3).map (fun i => (i.zero, i.size, i.bytes)) = some (some (.int .i64 0), 1, 8) := by kernel_rfl
theorem iC_one (n : Int) : ∀ u ∈ (iC n).toList, u.oneCell' = true := by
  intro u hu
  simp only [iC, List.mem_cons, List.not_mem_nil, or_false] at hu
  subst hu; rfl
theorem iC_len (l : List Int) : (cellsOf iC l).length = l.length * 1 := by
  induction l with
  | nil => rfl
  | cons x l ih => rw [cellsOf_cons, List.length_append, ih, List.length_cons]; simp [iC]; omega
theorem iC_all (l : List Int) : ∀ u ∈ cellsOf iC l, u.oneCell' = true := by
  intro u hu
  induction l with
  | nil => simp [cellsOf] at hu
  | cons x l ih =>
    rw [cellsOf_cons] at hu
    rcases List.mem_append.1 hu with h | h
    · exact iC_one x u h
    · exact ih h

/-- A number appended to a row of one's own; a row of one's own appended to a number. -/
theorem int_append (w : World) (base : Nat) (v : Value) (l : List Int) (x : Int) (hl : l.length ≤ 1000) (g : Nat) (hown : w.ownsRow base 3 1 v l.length (cellsOf iC l)) (hg : Row w g #[.int .i64 x] 3) (hb : base ≤ w.heap.size) :
    ∃ v' w', (Builtin.append_ #[36, 36] 36 #[v, .slice (some ⟨g, 0, none⟩) 1 1]).run Try.prog w = .ok v' w' ∧ w'.ownsRow base 3 1 v' (l ++ [x]).length (cellsOf iC (l ++ [x])) ∧ w.grownBy w' v.ownBlock := by
  obtain ⟨i0, hi, hz0, hz1, hz2⟩ := info_parts int_info
  obtain ⟨v', w', h1, h2, h3, _⟩ := run_append_own (P := Try.prog) w base 36 36 3 i0 _ 1 8 Try.underlying36 hi hz0 hz1 hz2 rfl (by decide) v l.length (cellsOf iC l) hown ⟨g, 0, none⟩ 1 1 (iC x).toList rfl
    (fun j u hu => by
      rw [Addr.add_mid, Nat.zero_add, hg.at_]
      simpa [iC] using hu) (iC_one x) (by unfold maxLen; omega) (by omega) hb
  refine ⟨v', w', h1, ?_, h3⟩
  rw [cellsOf_snoc, List.length_append]
  exact h2
theorem int_prepend (w : World) (base : Nat) (v : Value) (l : List Int) (x : Int) (hl : l.length ≤ 1000) (g : Nat) (hbg : base ≤ g) (hown : w.ownsRow base 3 1 v l.length (cellsOf iC l)) (hg : Row w g #[.int .i64 x] 3) (hb : base ≤ w.heap.size) :
    ∃ v' w', (Builtin.append_ #[36, 36] 36 #[.slice (some ⟨g, 0, none⟩) 1 1, v]).run Try.prog w = .ok v' w' ∧ w'.ownsRow base 3 1 v' (x :: l).length (cellsOf iC (x :: l)) ∧ w.grownBy w' (some g) := by
  obtain ⟨i0, hi, hz0, hz1, hz2⟩ := info_parts int_info
  have h1 : w.ownsRow base 3 1 (.slice (some ⟨g, 0, none⟩) 1 1) 1 (iC x).toList := ⟨rfl, .inr ⟨g, 1, _, rfl, hbg, hg, Nat.le_refl _, by unfold maxLen; omega, rfl, rfl⟩⟩
  rcases hown.2 with ⟨hv, hn⟩ | ⟨q, cap, cur, hv, hbq, hq, hnc, hm, hs, ht⟩
  · subst hv
    have : l = [] := List.eq_nil_of_length_eq_zero hn
    subst this
    exact ⟨_, w, run_append_owned_none w base 36 36 3 i0 1 Try.underlying36 hi _ 1 _ h1, h1, ⟨rfl, rfl, rfl, Nat.le_refl _, fun _ _ _ => rfl⟩⟩
  · subst hv
    obtain ⟨v', w', e1, e2, e3, _⟩ := run_append_own (P := Try.prog) w base 36 36 3 i0 _ 1 8 Try.underlying36 hi hz0 hz1 hz2 rfl (by decide) _ 1 _ h1 ⟨q, 0, none⟩ l.length cap (cellsOf iC l) (iC_len l)
      (fun j u hu => by
        rw [Addr.add_mid, Nat.zero_add, cell_of_row _ _ _ _ _ _ hq]
        rw [← ht] at hu
        have hlt : j < l.length * 1 := by
          rcases Nat.lt_or_ge j (l.length * 1) with h | h
          · exact h
          · rw [List.getElem?_eq_none (by rw [List.length_take]; omega)] at hu; cases hu
        rw [List.getElem?_take_of_lt hlt] at hu
        simpa using hu) (iC_all l) (by unfold maxLen; omega) (by omega) hb
    refine ⟨v', w', e1, ?_, e3⟩
    rw [cellsOf_cons, List.length_cons, Nat.add_comm l.length 1]
    exact e2

end Go.Proofs.Ytkakgjmajplgmaa

/- Rows that grow: structs appended. -/
import Derived.Test.YtkakgjmajplgmaaCmdH
import Derived.Laws.AppendOwn
import Derived.Great.BuildSlice
namespace Go.Proofs.Ytkakgjmajplgmaa
open Go.RowKit
set_option linter.unusedVariables false

/-- All elements' cells. -/
def cellsOf {α : Type} (enc : α → Array Value) (l : List α) : List Value := (l.map fun x => (enc x).toList).flatten
theorem cellsOf_snoc {α : Type} (enc : α → Array Value) (l : List α) (x : α) : cellsOf enc (l ++ [x]) = cellsOf enc l ++ (enc x).toList := by simp [cellsOf]
theorem cellsOf_at {α : Type} (enc : α → Array Value) (k : Nat) (hk : ∀ x, (enc x).size = k) : ∀ (l : List α) (i : Nat) x (j : Nat) v, l[i]? = some x → (enc x).toList[j]? = some v → (cellsOf enc l)[i * k + j]? = some v
  | [], i, x, j, v, h, _ => by simp at h
  | y :: l, 0, x, j, v, h, hv => by
    simp only [List.getElem?_cons_zero, Option.some.injEq] at h
    subst h
    have hj : j < (enc y).toList.length := by
      rcases Nat.lt_or_ge j (enc y).toList.length with q | q
      · exact q
      · rw [List.getElem?_eq_none q] at hv; cases hv
    rw [cellsOf, List.map_cons, List.flatten_cons, Nat.zero_mul, Nat.zero_add, List.getElem?_append_left hj]
    exact hv
  | y :: l, i + 1, x, j, v, h, hv => by
    simp only [List.getElem?_cons_succ] at h
    have hl : (enc y).toList.length = k := by rw [Array.length_toList, hk]
    have ih := cellsOf_at enc k hk l i x j v h hv
    rw [cellsOf, List.map_cons, List.flatten_cons, List.getElem?_append_right (by rw [hl, Nat.succ_mul]; omega), hl, show (i + 1) * k + j - k = i * k + j by rw [Nat.succ_mul]; omega]
    exact ih

theorem own_slice {α : Type} (enc : α → Array Value) (T : TypeId) {e : TypeId} {k : Nat} (hk : ∀ x, (enc x).size = k) {w : World} {base : Nat} {v : Value} {l : List α} (h : w.ownsRow base e k v l.length (cellsOf enc l))
    (hT : ∀ (b len cap i : Nat), i < len → ∀ w0 : World, (Instr.indexAt T (.slice (some ⟨b, 0, none⟩) len cap) (.int .i64 (i : Int))).run Try.prog w0 = .ok (.pointer (some ⟨b, 0 + i * k, none⟩)) w0) :
    ∃ (ao : Option Addr) (cap bb : Nat), v = .slice ao l.length cap ∧ Sl enc T k w ao cap bb 0 l := by
  rcases h.2 with ⟨rfl, hn⟩ | ⟨g, cap, cur, rfl, hb, hg, hnc, hm, hs, ht⟩
  · refine ⟨none, 0, 0, by rw [hn], ⟨by omega, fun h => by omega, fun i h => by omega, fun i x hx => ?_⟩⟩
    have : l = [] := List.eq_nil_of_length_eq_zero hn
    subst this
    simp at hx
  · refine ⟨some ⟨g, 0, none⟩, cap, g, rfl, ⟨by unfold maxLen at hm; omega, fun _ => lt_of_block hg, fun i hi w0 => hT g l.length cap i hi w0, fun i x hx j v hj => ?_⟩⟩
    rw [cell_of_row _ _ _ _ _ _ hg, Nat.zero_add]
    have hc := cellsOf_at enc k hk l i x j v hx hj
    rw [← ht] at hc
    have hlt : i * k + j < l.length * k := by
      rcases Nat.lt_or_ge (i * k + j) (l.length * k) with q | q
      · exact q
      · rw [List.getElem?_eq_none (by rw [List.length_take]; omega)] at hc; cases hc
    rw [List.getElem?_take_of_lt hlt] at hc
    simpa using hc

theorem own_keep {w w' : World} {b base : Nat} {e : TypeId} {k n : Nat} {v : Value} {xs : List Value} (h : w.ownsRow base e k v n xs) (g : But b w w') (hb : v.ownBlock ≠ some b) : w'.ownsRow base e k v n xs :=
  h.kept (row := some b) ⟨g.os, g.tape, g.output, g.size, fun j hj hne => g.block j hj (fun e => hne (by rw [e]))⟩ (.inr hb)
theorem own_low {w : World} {b base : Nat} {e : TypeId} {k n : Nat} {v : Value} {xs : List Value} (h : w.ownsRow base e k v n xs) (hb : b < base) : v.ownBlock ≠ some b := fun e => by have := (h.lt b e).1; omega
theorem own_high {w : World} {base : Nat} {e : TypeId} {k n : Nat} {v : Value} {xs : List Value} (h : w.ownsRow base e k v n xs) : v.ownBlock ≠ some w.heap.size := fun e => by have := (h.lt _ e).2; omega
theorem own_form {w : World} {base : Nat} {e : TypeId} {k n : Nat} {v : Value} {xs : List Value} (h : w.ownsRow base e k v n xs) : ∃ ao len cap, v = .slice ao len cap := by
  rcases h.2 with ⟨rfl, _⟩ | ⟨g, cap, cur, rfl, _⟩
  · exact ⟨_, _, _, rfl⟩
  · exact ⟨_, _, _, rfl⟩
theorem own_base {w : World} {base B : Nat} {e : TypeId} {k n : Nat} {v : Value} {xs : List Value} (h : w.ownsRow B e k v n xs) (hB : base ≤ B) : w.ownsRow base e k v n xs := by
  rcases h.2 with ⟨h1, h2⟩ | ⟨g, cap, cur, h1, h2, h3⟩
  · exact ⟨h.1, .inl ⟨h1, h2⟩⟩
  · exact ⟨h.1, .inr ⟨g, cap, cur, h1, Nat.le_trans hB h2, h3⟩⟩
theorem But.grown {b : Nat} {u w w' : World} {row : Option Nat} (h : But b u w) (g : w.grownBy w' row) (hr : ∀ k, row = some k → u.heap.size ≤ k) : But b u w' :=
  ⟨g.os.trans h.os, g.tape.trans h.tape, g.output.trans h.output, Nat.le_trans h.size g.size, fun k hk hb => (g.block k (Nat.lt_of_lt_of_le hk h.size) (fun e => by have := hr k e.symm; omega)).trans (h.block k hk hb)⟩
theorem Row.grown {w w' : World} {row : Option Nat} {g : Nat} {cs : Array Value} {t : TypeId} (h : Row w g cs t) (k : w.grownBy w' row) (hb : row ≠ some g) : Row w' g cs t := (k.block g h.lt (Ne.symm hb)).trans h

section
variable {P : Program} {w : World}
/-- An append by an equation of its own. -/
theorem wpList_append_by {ops : Array Oper} {rest : List Oper} {o : Oper} {a : Act} {Q : Exit → Act → World → Prop} (hgd : o.guard = none) (s x : Operand) (t tx : TypeId)
    (ho : o.op = .call { callee := .builtin .append, args := #[s, x], argTypes := #[t, tx] }) (vs vx v' : Value) (w' : World) (hs : a.eval s = vs) (hx : a.eval x = vx) (hr : (Builtin.append_ #[t, tx] o.type #[vs, vx]).run P w = .ok v' w')
    (h : wpList P ops Q rest (a.put o.dst v') w') : wpList P ops Q (o :: rest) a w := by
  refine wpList_plain hgd fun K hK => ?_
  unfold Oper.wp execOp
  simp only [ho, resolve, invoke, builtin, Sem.run_bind, Sem.run_pure, Result.andThen_ok, List.map_toArray, List.map_cons, List.map_nil, hs, hx, hr]
  exact hK _ _ h
end

theorem node_index (b len cap i : Nat) (hi : i < len) (w0 : World) : (Instr.indexAt 22 (.slice (some ⟨b, 0, none⟩) len cap) (.int .i64 (i : Int))).run Try.prog w0 = .ok (.pointer (some ⟨b, 0 + i * 11, none⟩)) w0 := by
  have e : (⟨b, 0, none⟩ : Addr).add (i * 11) = ⟨b, 0 + i * 11, none⟩ := by unfold Addr.add; split <;> simp_all
  have h : (0 : Int) ≤ (i : Int) ∧ (i : Int) < (len : Int) := by omega
  simp [Instr.indexAt, run_underlying Try.underlying22, asIntOf, hi, e]
theorem host_index (b len cap i : Nat) (hi : i < len) (w0 : World) : (Instr.indexAt 23 (.slice (some ⟨b, 0, none⟩) len cap) (.int .i64 (i : Int))).run Try.prog w0 = .ok (.pointer (some ⟨b, 0 + i * 6, none⟩)) w0 := by
  have e : (⟨b, 0, none⟩ : Addr).add (i * 6) = ⟨b, 0 + i * 6, none⟩ := by unfold Addr.add; split <;> simp_all
  have h : (0 : Int) ≤ (i : Int) ∧ (i : Int) < (len : Int) := by omega
  simp [Instr.indexAt, run_underlying Try.underlying23, asIntOf, hi, e]
theorem node_info : (Try.prog.info? 42).map (fun i => (i.zero, i.size, i.bytes)) = some (some (.agg (⟨0, 0, ⟨0, 0, 0⟩, ⟨0, 0, 0⟩, ⟨0, 0, 0⟩⟩ : Nd).c), 11, 88) := by kernel_rfl
theorem host_info : (Try.prog.info? 62).map (fun i => (i.zero, i.size, i.bytes)) = some (some (.agg (⟨0, 0, 0, ⟨0, 0, 0⟩⟩ : Hs).c), 6, 48) := by kernel_rfl
theorem Nd.one (n : Nd) : ∀ u ∈ n.c.toList, u.oneCell' = true := by
  intro u hu
  simp only [Nd.c, List.mem_cons, List.not_mem_nil, or_false] at hu
  rcases hu with rfl | rfl | rfl | rfl | rfl | rfl | rfl | rfl | rfl | rfl | rfl <;> rfl
theorem Hs.one (n : Hs) : ∀ u ∈ n.c.toList, u.oneCell' = true := by
  intro u hu
  simp only [Hs.c, List.mem_cons, List.not_mem_nil, or_false] at hu
  rcases hu with rfl | rfl | rfl | rfl | rfl | rfl <;> rfl

/-- A node appended to a row of one's own. -/
theorem node_append (w : World) (base : Nat) (v : Value) (l : List Nd) (x : Nd) (hl : l.length ≤ 100) (g : Nat) (hown : w.ownsRow base 42 11 v l.length (cellsOf Nd.c l)) (hg : Row w g x.c 42) (hb : base ≤ w.heap.size) :
    ∃ v' w', (Builtin.append_ #[22, 22] 22 #[v, .slice (some ⟨g, 0, none⟩) 1 1]).run Try.prog w = .ok v' w' ∧ w'.ownsRow base 42 11 v' (l ++ [x]).length (cellsOf Nd.c (l ++ [x])) ∧ w.grownBy w' v.ownBlock := by
  obtain ⟨i0, hi, hz0, hz1, hz2⟩ := info_parts node_info
  obtain ⟨v', w', h1, h2, h3, _⟩ := run_append_own (P := Try.prog) w base 22 22 42 i0 _ 11 88 Try.underlying22 hi hz0 hz1 hz2 rfl (by decide) v l.length (cellsOf Nd.c l) hown ⟨g, 0, none⟩ 1 1 x.c.toList rfl
    (fun j u hu => by
      rw [Addr.add_mid, Nat.zero_add, hg.at_]
      simpa using hu) x.one (by unfold maxLen; omega) (by omega) hb
  refine ⟨v', w', h1, ?_, h3⟩
  rw [cellsOf_snoc, List.length_append]
  exact h2
theorem host_append (w : World) (base : Nat) (v : Value) (l : List Hs) (x : Hs) (hl : l.length ≤ 100) (g : Nat) (hown : w.ownsRow base 62 6 v l.length (cellsOf Hs.c l)) (hg : Row w g x.c 62) (hb : base ≤ w.heap.size) :
    ∃ v' w', (Builtin.append_ #[23, 23] 23 #[v, .slice (some ⟨g, 0, none⟩) 1 1]).run Try.prog w = .ok v' w' ∧ w'.ownsRow base 62 6 v' (l ++ [x]).length (cellsOf Hs.c (l ++ [x])) ∧ w.grownBy w' v.ownBlock := by
  obtain ⟨i0, hi, hz0, hz1, hz2⟩ := info_parts host_info
  obtain ⟨v', w', h1, h2, h3, _⟩ := run_append_own (P := Try.prog) w base 23 23 62 i0 _ 6 48 Try.underlying23 hi hz0 hz1 hz2 rfl (by decide) v l.length (cellsOf Hs.c l) hown ⟨g, 0, none⟩ 1 1 x.c.toList rfl
    (fun j u hu => by
      rw [Addr.add_mid, Nat.zero_add, hg.at_]
      simpa using hu) x.one (by unfold maxLen; omega) (by omega) hb
  refine ⟨v', w', h1, ?_, h3⟩
  rw [cellsOf_snoc, List.length_append]
  exact h2

theorem config_len : (Try.prog.info? 25).map (·.size) = some 4 := by kernel_rfl

end Go.Proofs.Ytkakgjmajplgmaa

/- The program's journal: the closure that takes a frame; Scan. -/
import Derived.Test.YtcjpednhefeboaaJC
import Derived.Deep.RegionLaw
import Derived.BigQuiet
namespace Go.Proofs.Ytcjpednhefeboaa
open Go.RowKit
set_option linter.unusedVariables false

section
variable {P : Program} {w : World}
/-- An append by an equation of its own, as one step of a region that draws. -/
theorem step_append_at {ops : Array Oper} {o : Oper} {a : Act} {K : Act → World → Prop} {Q : Exit → Act → World → Prop} {E : Prop} (hgd : o.guard = none) (s x : Operand) (t tx : TypeId)
    (ho : o.op = .call { callee := .builtin .append, args := #[s, x], argTypes := #[t, tx] }) (vs vx v' : Value) (w' : World) (hs : a.eval s = vs) (hx : a.eval x = vx) (hr : (Builtin.append_ #[t, tx] o.type #[vs, vx]).run P w = .ok v' w')
    (h : K (a.put o.dst v') w') : if Region.wanted o (yielded ops a.tmps) = true then Oper.wp P o a w K Q else E := by
  have hw : Region.wanted o (yielded ops a.tmps) = true := by simp [Region.wanted, hgd]
  rw [if_pos hw]
  unfold Oper.wp execOp
  simp only [ho, resolve, invoke, builtin, Sem.run_bind, Sem.run_pure, Result.andThen_ok, List.map_toArray, List.map_cons, List.map_nil, hs, hx, hr]
  exact h
end

/-- What is owned is owned, where only a block below the base has turned. -/
theorem owns_keeps {w w' : World} {B b : Nat} {e : TypeId} {n : Nat} {v : Value} {xs : List Value} (h : w.ownsRow B e 1 v n xs) (hb : b < B) (g : Keeps (fun k => k < w.heap.size ∧ ¬ k = b) w w') : w'.ownsRow B e 1 v n xs :=
  h.kept (row := some b) ⟨g.os, g.tape, g.output, g.size, fun k hk hne => g.block k ⟨hk, fun e => hne (by rw [e])⟩⟩ (by
    cases hv : v.ownBlock with
    | none => exact .inl rfl
    | some g => refine .inr fun e => ?_; have := (h.lt g hv).1; injection e with e; omega)

/-- What Scan's closure holds: the texts that it took, and the rest. -/
def Took (w : World) (b : Nat) (r : ByteArray) (ts : List ByteArray) : Prop :=
  ∃ v, w.cell? ⟨b, 0, none⟩ = some v ∧ w.frozen? ⟨b, 0, none⟩ = false ∧ w.cell? ⟨b + 1, 0, none⟩ = some (.string r) ∧ w.frozen? ⟨b + 1, 0, none⟩ = false ∧ w.ownsRow (b + 2) 9 1 v ts.length (ts.map Value.string)
theorem Took.lt {w : World} {b : Nat} {r : ByteArray} {ts : List ByteArray} (h : Took w b r ts) : b + 1 < w.heap.size := by
  obtain ⟨v, _, _, h, _⟩ := h
  exact World.block_lt_of_cell? w _ h
theorem Took.below {w w' : World} {b : Nat} {r : ByteArray} {ts : List ByteArray} (h : Took w b r ts) (g : Below w.heap.size w w') : Took w' b r ts := by
  have hl := h.lt
  obtain ⟨v, h1, h2, h3, h4, h5⟩ := h
  exact ⟨v, (g.cell (p := ⟨b, 0, none⟩) (by simp only; omega)).trans h1, (World.frozen?_of_block (w := w) (g.block b (by omega))).trans h2, (g.cell (p := ⟨b + 1, 0, none⟩) hl).trans h3, (World.frozen?_of_block (w := w) (g.block (b + 1) hl)).trans h4, owns_below h5 g⟩

set_option maxHeartbeats 1000000 in
theorem take_yes {w : World} {b : Nat} {r x : ByteArray} {ts : List ByteArray} {m : Nat} (h : Took w b r ts) (hr : Cr.read r = (x, (m : Int), 0)) (hl : ts.length ≤ 1099511627776) :
    Calls Try.prog 30 #[.pointer (some ⟨b + 1, 0, none⟩), .pointer (some ⟨b, 0, none⟩)] w fun e w' => e = .returned (.bool true) ∧ Took w' b (r.extract m r.size) (ts ++ [x]) ∧ Below b w w' := by
  obtain ⟨i0, hi, hz0, hz1, hz2⟩ := info_parts text_info
  have hR := Read_any r w
  rw [hr] at hR
  obtain ⟨m', hm, h8, hs, -⟩ := Cr.read_range r (by rw [hr])
  rw [hr] at hm
  simp only at hm
  have em : m = m' := by omega
  subst em
  have hcut := text_from r m hs
  have hlt := h.lt
  have H := Lib.hid h
  have hc : w.cell? ⟨b + 1, 0, none⟩ = some (.string r) := by obtain ⟨v, _, _, h, _⟩ := h; exact h
  have HR := Lib.hid hR; clear hR hr hm h
  go_enter Try.func30, Try.ntmps30
  go_wp2_with fail
  refine HR.out.mono ?_
  rintro e w1 ⟨rfl, g⟩
  obtain ⟨v, hA, hfA, hR, hfR, hown⟩ := H.out.below g
  have hz := g.size
  have hl1 : b + 1 < w1.heap.size := by omega
  have G0 : Hid (Below b w w1) := Lib.hid (g.mono (by omega))
  have hown1 : (w1.alloc (.cells #[.string x] 9)).drew.ownsRow (b + 2) 9 1 v ts.length (ts.map Value.string) := World.ownsRow.alloc (w := w1) hown _
  obtain ⟨v', w3, hrun, hown', hgrow, -⟩ := run_append_own (P := Try.prog) (w1.alloc (.cells #[.string x] 9)).drew (b + 2) 23 23 9 i0 (.string ⟨#[]⟩) 1 16 Try.underlying23 hi hz0 hz1 hz2 rfl (by decide) v ts.length (ts.map Value.string) hown1 ⟨w1.heap.size, 0, none⟩ 1 1 [.string x] rfl (one_cell w1 _) (one_text x) (by unfold maxLen; omega) (by omega) (by simp; omega)
  have hno : ∀ k, k < b + 2 → some k ≠ v.ownBlock := fun k hk e => by have := (hown.lt k e.symm).1; omega
  have e0 : w3.heap[b]? = w1.heap[b]? := (hgrow.block b (by simp; omega) (hno b (by omega))).trans (Below.heap_alloc _ _ _ (by omega))
  have e1 : w3.heap[b + 1]? = w1.heap[b + 1]? := (hgrow.block (b + 1) (by simp; omega) (hno (b + 1) (by omega))).trans (Below.heap_alloc _ _ _ (by omega))
  have cv : (w1.alloc (.cells #[.string x] 9)).cell? ⟨b + 1, 0, none⟩ = some (.string r) := (World.cell?_alloc_past (w := w1) _ (b + 1) 0 hl1).trans hR
  have cw : (w1.alloc (.cells #[.string x] 9)).cell? ⟨b, 0, none⟩ = some v := (World.cell?_alloc_past (w := w1) _ b 0 (by omega)).trans hA
  have c0 : w3.cell? ⟨b, 0, none⟩ = some v := (World.cell?_of_block (w := w1) (a := ⟨b, 0, none⟩) e0).trans hA
  have c1 : w3.cell? ⟨b + 1, 0, none⟩ = some (.string r) := (World.cell?_of_block (w := w1) (a := ⟨b + 1, 0, none⟩) e1).trans hR
  have f0 : w3.frozen? ⟨b, 0, none⟩ = false := (World.frozen?_of_block (w := w1) (a := ⟨b, 0, none⟩) e0).trans hfA
  have f1 : w3.frozen? ⟨b + 1, 0, none⟩ = false := (World.frozen?_of_block (w := w1) (a := ⟨b + 1, 0, none⟩) e1).trans hfR
  have G3 : Hid (Below b w w3) := Lib.hid ((Below.drew (G0.out.alloc (by omega) _)).grown hgrow (by simp; omega) (fun k hk => by have := (hown.lt k hk).1; omega))
  have ow := owns_push hown'
  obtain ⟨ao', cap', hv', -, -⟩ := Texts.of_owned ow (by simp; omega)
  subst hv'
  have hle : Value.slice ao' (ts ++ [x]).length cap' = Value.slice ao' (ts.length + 1) cap' := by simp
  rw [hle] at ow hrun
  have OW := Lib.hid ow
  clear ow hle
  have c1' : (w3.setCell ⟨b, 0, none⟩ (.slice ao' (ts.length + 1) cap')).cell? ⟨b + 1, 0, none⟩ = some (.string r) := (World.cell?_setCell_other _ _ _ _ (by simp)).trans c1
  have E : Hid (Took ((w3.setCell ⟨b, 0, none⟩ (.slice ao' (ts.length + 1) cap')).setCell ⟨b + 1, 0, none⟩ (.string (r.extract m r.size))) b (r.extract m r.size) (ts ++ [x]) ∧ Below b w ((w3.setCell ⟨b, 0, none⟩ (.slice ao' (ts.length + 1) cap')).setCell ⟨b + 1, 0, none⟩ (.string (r.extract m r.size)))) := Lib.hid (by
    refine ⟨⟨.slice ao' (ts.length + 1) cap', ?_, by simpa using f0, ?_, by simpa using f1, ?_⟩, ((G3.out.setCell (p := ⟨b, 0, none⟩) (Nat.le_refl _) _).setCell (p := ⟨b + 1, 0, none⟩) (Nat.le_succ _) _)⟩
    · exact (World.cell?_setCell_other _ _ _ _ (by simp)).trans (World.cell?_setCell_same _ _ _ c0)
    · exact World.cell?_setCell_same _ _ _ c1'
    · exact owns_keeps (b := b + 1) (owns_keeps (b := b) OW.out (by omega) ((Keeps.refl _ _).setCell (p := ⟨b, 0, none⟩) (fun h => h.2 rfl) _)) (by omega) ((Keeps.refl _ _).setCell (p := ⟨b + 1, 0, none⟩) (fun h => h.2 rfl) _))
  clear g H hown hown1 hown' hgrow hno e0 e1 hi hz0 hz1 hz2 hlt hz G0 G3 OW c1'
  unfold Cr.ans
  go_wp2_with fail
  go_region_law (first | (refine step_append_at rfl _ _ _ _ rfl _ _ _ _ rfl rfl hrun ?_) | fail)
  all_goals (
    go_wp2_with fail
    go_ret
    exact ⟨rfl, E.out⟩)

theorem take_no {w : World} {b : Nat} {r : ByteArray} {ts : List ByteArray} (h : Took w b r ts) (hr : (Cr.read r).2.2 ≠ 0) :
    Calls Try.prog 30 #[.pointer (some ⟨b + 1, 0, none⟩), .pointer (some ⟨b, 0, none⟩)] w (RetBelow (.bool false) w) := by
  have hc : w.cell? ⟨b + 1, 0, none⟩ = some (.string r) := by obtain ⟨v, _, _, h, _⟩ := h; exact h
  have hR := Read_any r w
  obtain ⟨q, hq⟩ : ∃ q, Cr.read r = q := ⟨_, rfl⟩
  rw [hq] at hR hr
  obtain ⟨x, m, er⟩ := q
  have he : (er != 0) = true := by simpa using hr
  have HR := Lib.hid hR; clear hR hr hq h
  go_enter Try.func30, Try.ntmps30
  go_wp2_with fail
  refine HR.out.mono ?_
  rintro e w1 ⟨rfl, g⟩
  have G := Lib.hid g; clear g
  unfold Cr.ans
  go_wp2_with fail
  go_ret
  exact ⟨rfl, G.out⟩

end Go.Proofs.Ytcjpednhefeboaa

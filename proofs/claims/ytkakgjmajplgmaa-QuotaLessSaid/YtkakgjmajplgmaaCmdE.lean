/- The plain answer's bytes of a gang; sizes. -/
import Derived.Test.YtkakgjmajplgmaaCmdD
namespace Go.Proofs.Ytkakgjmajplgmaa
open Go.RowKit
set_option linter.unusedVariables false

/-- A block's cells, as they stand in a world. -/
def Holds (w : World) (b : Nat) (cs : Array Value) : Prop := ∀ (j : Nat) v, cs[j]? = some v → w.cell? ⟨b, j, none⟩ = some v
theorem Holds.new (w : World) (cs : Array Value) (t : TypeId) : Holds (w.alloc (.cells cs t)) w.heap.size cs := fun j v hj => (World.cell?_alloc_at (w := w) _ _ _ _ rfl).trans hj
theorem Holds.kept {w w' : World} {b : Nat} {cs : Array Value} (h : Holds w b cs) (hb : b < w.heap.size) (g : Below w.heap.size w w') : Holds w' b cs := fun j v hj => (g.cell (p := ⟨b, j, none⟩) hb).trans (h j v hj)

section
variable {P : Program} {ops : Array Oper} {C : World → Prop}
theorem quiet_load {Q : Act → Prop} {a : Act} {o : Oper} {rest : List Oper} (p : Value) (v : Value) (ty : TypeId) (x : Operand) (hC : ∀ w, C w → (Instr.loadAt ty p).run P w = .ok v w) (ho : o.op = .load ty x) (hx : a.eval x = p)
    (hw : Region.wanted o (yielded ops a.tmps) = true) (h : wpQuiet P ops C Q rest (a.put o.dst v)) : wpQuiet P ops C Q (o :: rest) a := by
  unfold wpQuiet
  rw [if_pos hw]
  refine ⟨v, fun w hw' => ?_, h⟩
  unfold Oper.quietAt execOp
  simp only [ho, hx, Sem.run_bind, hC w hw', Result.andThen_ok]
  exact ⟨rfl, rfl⟩
/-- A cell of a block of which every world of the class has the cells. -/
theorem quiet_hold {Q : Act → Prop} {a : Act} {o : Oper} {rest : List Oper} {b : Nat} {cs : Array Value} (hC : ∀ w, C w → Holds w b cs) (ty : TypeId) (d : TypeDesc) (hu : P.underlying ty = some d) (hd : d.isRow = false) (x : Operand) (j : Nat) (v : Value) (ho : o.op = .load ty x) (hx : a.eval x = .pointer (some ⟨b, j, none⟩)) (hj : cs[j]? = some v)
    (hw : Region.wanted o (yielded ops a.tmps) = true) (h : wpQuiet P ops C Q rest (a.put o.dst v)) : wpQuiet P ops C Q (o :: rest) a :=
  quiet_cell _ v ty d x (fun w hw' => hC w hw' j v hj) ho hx hw hu hd h
/-- Three cells of it, as one value. -/
theorem quiet_hold3 {Q : Act → Prop} {a : Act} {o : Oper} {rest : List Oper} {b : Nat} {cs : Array Value} (hC : ∀ w, C w → Holds w b cs) (ty : TypeId) (d : TypeDesc) (hu : P.underlying ty = some d) (hd : d.isRow = true) (hi : (P.info? ty).map (·.size) = some 3) (x : Operand) (j : Nat) (v0 v1 v2 : Value) (ho : o.op = .load ty x) (hx : a.eval x = .pointer (some ⟨b, j, none⟩)) (h0 : cs[j]? = some v0) (h1 : cs[j + 1]? = some v1) (h2 : cs[j + 2]? = some v2)
    (hw : Region.wanted o (yielded ops a.tmps) = true) (h : wpQuiet P ops C Q rest (a.put o.dst (.agg #[v0, v1, v2]))) : wpQuiet P ops C Q (o :: rest) a :=
  quiet_load _ (.agg #[v0, v1, v2]) ty x (fun w hw' => run_loadAt_mid w b j ty [v0, v1, v2] d (fun k v hk => hC w hw' (j + k) v (three_at h0 h1 h2 k v hk)) hu hd hi) ho hx hw h
end
theorem vec_len : (Try.prog.info? 29).map (·.size) = some 3 := by kernel_rfl

namespace Cm
theorem pn_size (x : Int) (h : x < 9223372036854775808) : (pn x).size ≤ 9 := (Nu.put_size x.toNat (by omega)).2
theorem ok_lt {x : Int} (h : ok x = true) : x < 9223372036854775808 := by rw [ok_iff] at h; omega
theorem pv_size {v : V3} (h : okV v = true) : (pv v).size ≤ 27 := by
  simp only [okV, Bool.and_eq_true] at h
  have h0 := pn_size _ (ok_lt h.1.1); have h1 := pn_size _ (ok_lt h.1.2); have h2 := pn_size _ (ok_lt h.2)
  unfold pv
  rw [ByteArray.size_append, ByteArray.size_append]; omega
theorem pN_size {n : Nd} (h : okN n = true) : (pN n).size ≤ 99 := by
  simp only [okN, Bool.and_eq_true, okP_iff] at h
  have h0 := pn_size (n.par + 1) (by have := h.1.1.1.1; omega); have h1 := pn_size _ (ok_lt h.1.1.1.2); have h2 := pv_size h.1.1.2; have h3 := pv_size h.1.2; have h4 := pv_size h.2
  unfold pN
  rw [ByteArray.size_append, ByteArray.size_append, ByteArray.size_append, ByteArray.size_append]; omega
theorem pH_size {n : Hs} (h : okH n = true) : (pH n).size ≤ 54 := by
  simp only [okH, Bool.and_eq_true] at h
  have h0 := pn_size _ (ok_lt h.1.1.1); have h1 := pn_size _ (ok_lt h.1.1.2); have h2 := pn_size _ (ok_lt h.1.2); have h4 := pv_size h.2
  unfold pH
  rw [ByteArray.size_append, ByteArray.size_append, ByteArray.size_append]; omega
theorem pG_size {g : Gg} (h : okG g = true) : (pG g).size ≤ 81 := by
  simp only [okG, Bool.and_eq_true] at h
  have h0 := pn_size _ (ok_lt h.1.1.1.1.1.1); have h1 := pn_size _ (ok_lt h.1.1.1.1.1.2); have h2 := pn_size _ (ok_lt h.1.1.1.1.2); have h3 := pn_size _ (ok_lt h.1.1.1.2); have h4 := pn_size _ (ok_lt h.1.1.2); have h5 := pn_size _ (ok_lt h.1.2); have h6 := pv_size h.2
  unfold pG
  simp only [ByteArray.size_append]; omega
theorem cat_size {α : Type} (q : α → ByteArray) (o : α → Bool) (m : Nat) (h : ∀ x, o x = true → (q x).size ≤ m) (r : ByteArray) : ∀ l : List α, l.all o = true → (cat q l r).size ≤ l.length * m + r.size
  | [], _ => by simp [cat]
  | x :: l, hl => by
    simp only [List.all_cons, Bool.and_eq_true] at hl
    have ih := cat_size q o m h r l hl.2
    have hx := h x hl.1
    rw [cat, ByteArray.size_append, List.length_cons, Nat.succ_mul]; omega
theorem pC_size {c : Cmd} (h : okC c = true) (hn : c.nodes.length ≤ 12) (hh : c.hosts.length ≤ 24) : (pC c).size ≤ 2600 := by
  simp only [okC, Bool.and_eq_true] at h
  have h1 := pn_size _ (ok_lt h.1.2); have h2 := pn_size _ (ok_lt h.2)
  have h3 := pn_size (c.nodes.length : Int) (by omega); have h4 := pn_size (c.hosts.length : Int) (by omega)
  have h5 := cat_size pH okH 54 (fun x hx => pH_size hx) (pn c.half ++ pn c.age) c.hosts h.1.1.2
  have h6 := cat_size pN okN 99 (fun x hx => pN_size hx) (pn c.hosts.length ++ cat pH c.hosts (pn c.half ++ pn c.age)) c.nodes h.1.1.1
  unfold pC
  rw [ByteArray.size_append] at h5 ⊢
  rw [ByteArray.size_append] at h6
  omega
end Cm

end Go.Proofs.Ytkakgjmajplgmaa

/- CmdE CmdF CmdG CmdH CmdI IntA CmdT CmdW CmdU: joined. -/
import Derived.Test.YtkaikekibmgmmaaGb
import Derived.Test.YtkaikekibmgmmaaGa
import Derived.Laws.AppendOwn
import Derived.Great.BuildSlice
import Derived.Laws.IdiomArrays
import Derived.Lib.SmallJoins
import Derived.Deep.Slices
import Derived.Deep.Fields
import Derived.SizedLaws
import Derived.ChangeSame
import Derived.ChangeArms
namespace Go.Proofs.Ytkaikekibmgmmaa
open Go.RowKit
set_option linter.unusedVariables false

/-- A block's cells, as they stand in a world. -/
def Holds (w : World) (b : Nat) (cs : Array Value) : Prop := ∀ (j : Nat) v, cs[j]? = some v → w.cell? ⟨b, j, none⟩ = some v
theorem Holds.new (w : World) (cs : Array Value) (t : TypeId) : Holds (w.alloc (.cells cs t)) w.heap.size cs := fun j v hj => (World.cell?_alloc_at (w := w) _ _ _ _ rfl).trans hj
theorem Holds.kept {w w' : World} {b : Nat} {cs : Array Value} (h : Holds w b cs) (hb : b < w.heap.size) (g : Below w.heap.size w w') : Holds w' b cs := fun j v hj => (g.cell (p := ⟨b, j, none⟩) hb).trans (h j v hj)

section
variable {P : Program} {ops : Array Oper} {C : World → Prop}
theorem quiet_load {Q : Act → Prop} {a : Act} {o : Oper} {rest : List Oper} (p : Value) (v : Value) (ty : TypeId) (x : Operand) (hC : ∀ w, C w → (Instr.loadAt ty p).run P w = .ok v w) (ho : o.op = .load ty x) (hx : a.eval x = p)
    (hw : Region.wanted o (yielded ops a.tmps) = true) (h : wpQuiet P ops C Q rest (a.put o.dst v)) : wpQuiet P ops C Q (o :: rest) a := by
  unfold wpQuiet
  rw [if_pos hw]
  refine ⟨v, fun w hw' => ?_, h⟩
  unfold Oper.quietAt execOp
  simp only [ho, hx, Sem.run_bind, hC w hw', Result.andThen_ok]
  exact ⟨rfl, rfl⟩
/-- A cell of a block of which every world of the class has the cells. -/
theorem quiet_hold {Q : Act → Prop} {a : Act} {o : Oper} {rest : List Oper} {b : Nat} {cs : Array Value} (hC : ∀ w, C w → Holds w b cs) (ty : TypeId) (d : TypeDesc) (hu : P.underlying ty = some d) (hd : d.isRow = false) (x : Operand) (j : Nat) (v : Value) (ho : o.op = .load ty x) (hx : a.eval x = .pointer (some ⟨b, j, none⟩)) (hj : cs[j]? = some v)
    (hw : Region.wanted o (yielded ops a.tmps) = true) (h : wpQuiet P ops C Q rest (a.put o.dst v)) : wpQuiet P ops C Q (o :: rest) a :=
  quiet_cell _ v ty d x (fun w hw' => hC w hw' j v hj) ho hx hw hu hd h
/-- Three cells of it, as one value. -/
theorem quiet_hold3 {Q : Act → Prop} {a : Act} {o : Oper} {rest : List Oper} {b : Nat} {cs : Array Value} (hC : ∀ w, C w → Holds w b cs) (ty : TypeId) (d : TypeDesc) (hu : P.underlying ty = some d) (hd : d.isRow = true) (hi : (P.info? ty).map (·.size) = some 3) (x : Operand) (j : Nat) (v0 v1 v2 : Value) (ho : o.op = .load ty x) (hx : a.eval x = .pointer (some ⟨b, j, none⟩)) (h0 : cs[j]? = some v0) (h1 : cs[j + 1]? = some v1) (h2 : cs[j + 2]? = some v2)
    (hw : Region.wanted o (yielded ops a.tmps) = true) (h : wpQuiet P ops C Q rest (a.put o.dst (.agg #[v0, v1, v2]))) : wpQuiet P ops C Q (o :: rest) a :=
  quiet_load _ (.agg #[v0, v1, v2]) ty x (fun w hw' => run_loadAt_mid w b j ty [v0, v1, v2] d (fun k v hk => hC w hw' (j + k) v (three_at h0 h1 h2 k v hk)) hu hd hi) ho hx hw h
end
theorem vec_len : (Try.prog.info? 35).map (·.size) = some 3 := by kernel_rfl

namespace Cm
theorem pn_size (x : Int) (h : x < 9223372036854775808) : (pn x).size ≤ 9 := (Nu.put_size x.toNat (by omega)).2
theorem ok_lt {x : Int} (h : ok x = true) : x < 9223372036854775808 := by rw [ok_iff] at h; omega
theorem pv_size {v : V3} (h : okV v = true) : (pv v).size ≤ 27 := by
  simp only [okV, Bool.and_eq_true] at h
  have h0 := pn_size _ (ok_lt h.1.1); have h1 := pn_size _ (ok_lt h.1.2); have h2 := pn_size _ (ok_lt h.2)
  unfold pv
  rw [ByteArray.size_append, ByteArray.size_append]; omega
theorem pN_size {n : Nd} (h : okN n = true) : (pN n).size ≤ 99 := by
  simp only [okN, Bool.and_eq_true, okP_iff] at h
  have h0 := pn_size (n.par + 1) (by have := h.1.1.1.1; omega); have h1 := pn_size _ (ok_lt h.1.1.1.2); have h2 := pv_size h.1.1.2; have h3 := pv_size h.1.2; have h4 := pv_size h.2
  unfold pN
  rw [ByteArray.size_append, ByteArray.size_append, ByteArray.size_append, ByteArray.size_append]; omega
theorem pH_size {n : Hs} (h : okH n = true) : (pH n).size ≤ 54 := by
  simp only [okH, Bool.and_eq_true] at h
  have h0 := pn_size _ (ok_lt h.1.1.1); have h1 := pn_size _ (ok_lt h.1.1.2); have h2 := pn_size _ (ok_lt h.1.2); have h4 := pv_size h.2
  unfold pH
  rw [ByteArray.size_append, ByteArray.size_append, ByteArray.size_append]; omega
theorem pG_size {g : Gg} (h : okG g = true) : (pG g).size ≤ 81 := by
  simp only [okG, Bool.and_eq_true] at h
  have h0 := pn_size _ (ok_lt h.1.1.1.1.1.1); have h1 := pn_size _ (ok_lt h.1.1.1.1.1.2); have h2 := pn_size _ (ok_lt h.1.1.1.1.2); have h3 := pn_size _ (ok_lt h.1.1.1.2); have h4 := pn_size _ (ok_lt h.1.1.2); have h5 := pn_size _ (ok_lt h.1.2); have h6 := pv_size h.2
  unfold pG
  simp only [ByteArray.size_append]; omega
theorem cat_size {α : Type} (q : α → ByteArray) (o : α → Bool) (m : Nat) (h : ∀ x, o x = true → (q x).size ≤ m) (r : ByteArray) : ∀ l : List α, l.all o = true → (cat q l r).size ≤ l.length * m + r.size
  | [], _ => by simp [cat]
  | x :: l, hl => by
    simp only [List.all_cons, Bool.and_eq_true] at hl
    have ih := cat_size q o m h r l hl.2
    have hx := h x hl.1
    rw [cat, ByteArray.size_append, List.length_cons, Nat.succ_mul]; omega
theorem pC_size {c : Cmd} (h : okC c = true) (hn : c.nodes.length ≤ 12) (hh : c.hosts.length ≤ 24) : (pC c).size ≤ 2600 := by
  simp only [okC, Bool.and_eq_true] at h
  have h1 := pn_size _ (ok_lt h.1.2); have h2 := pn_size _ (ok_lt h.2)
  have h3 := pn_size (c.nodes.length : Int) (by omega); have h4 := pn_size (c.hosts.length : Int) (by omega)
  have h5 := cat_size pH okH 54 (fun x hx => pH_size hx) (pn c.half ++ pn c.age) c.hosts h.1.1.2
  have h6 := cat_size pN okN 99 (fun x hx => pN_size hx) (pn c.hosts.length ++ cat pH c.hosts (pn c.half ++ pn c.age)) c.nodes h.1.1.1
  unfold pC
  rw [ByteArray.size_append] at h5 ⊢
  rw [ByteArray.size_append] at h6
  omega
end Cm

end Go.Proofs.Ytkaikekibmgmmaa
namespace Go.Proofs.Ytkaikekibmgmmaa
open Go.RowKit
set_option linter.unusedVariables false

theorem drop_more {α : Type} {l : List α} {k : Nat} {x : α} (h : l[k]? = some x) : l.drop k = x :: l.drop (k + 1) := by
  have hk : k < l.length := by
    rcases Nat.lt_or_ge k l.length with q | q
    · exact q
    · rw [List.getElem?_eq_none q] at h; cases h
  rw [List.drop_eq_getElem_cons hk]
  rw [List.getElem?_eq_getElem hk] at h
  injection h with h
  rw [h]
theorem all_at {α : Type} {o : α → Bool} {l : List α} {k : Nat} {x : α} (h : l.all o = true) (hx : l[k]? = some x) : o x = true := List.all_eq_true.1 h x (List.mem_of_getElem? hx)

theorem check_all {c : Cmd} (h : Cm.check c = 0) : (c.kind = 1 → Cm.okC c = true) ∧ (c.kind = 2 → Cm.okG c.gang = true) ∧ (c.kind = 3 ∨ c.kind = 4 ∨ c.kind = 5 → Cm.ok c.n = true) := by
  have hf := (Cm.check_zero h).1
  unfold Cm.fine at hf
  refine ⟨fun k => ?_, fun k => ?_, fun k => ?_⟩
  · rw [if_pos k] at hf; simp only [Bool.and_eq_true] at hf; exact hf.2
  · rw [if_neg (by omega), if_pos k] at hf; simp only [Bool.and_eq_true] at hf; exact hf.2
  · rw [if_neg (by omega), if_neg (by omega), if_pos k] at hf; simp only [Bool.and_eq_true] at hf; exact hf.2

end Go.Proofs.Ytkaikekibmgmmaa
namespace Go.Proofs.Ytkaikekibmgmmaa
open Go.RowKit
set_option linter.unusedVariables false

/-- All blocks that were there stand as they were, but for one. -/
structure But (b : Nat) (w w' : World) : Prop where
  os : w'.os = w.os
  tape : w'.tape = w.tape
  output : w'.output = w.output
  size : w.heap.size ≤ w'.heap.size
  block : ∀ k, k < w.heap.size → k ≠ b → w'.heap[k]? = w.heap[k]?
theorem But.refl (b : Nat) (w : World) : But b w w := ⟨rfl, rfl, rfl, Nat.le_refl _, fun _ _ _ => rfl⟩
theorem But.trans {b : Nat} {u v w : World} (h : But b u v) (g : But b v w) : But b u w :=
  ⟨g.os.trans h.os, g.tape.trans h.tape, g.output.trans h.output, Nat.le_trans h.size g.size, fun k hk hb => (g.block k (Nat.lt_of_lt_of_le hk h.size) hb).trans (h.block k hk hb)⟩
theorem But.of_below {b : Nat} {w w' : World} (g : Below w.heap.size w w') : But b w w' := ⟨g.os, g.tape, g.output, g.size, fun k hk _ => g.block k hk⟩
theorem But.alloc {b : Nat} {u w : World} (h : But b u w) (o : Obj) : But b u (w.alloc o) := h.trans (But.of_below ((Below.refl _ _).alloc (Nat.le_refl _) o))
theorem But.setCell {b : Nat} {u w : World} (h : But b u w) {p : Addr} (hp : u.heap.size ≤ p.block ∨ p.block = b) (v : Value) : But b u (w.setCell p v) :=
  ⟨h.os, h.tape, h.output, Nat.le_trans h.size (by simp), fun k hk hb => by
    rw [Below.heap_setCell w p v k (by have := h.size; omega)]
    exact h.block k hk hb⟩
theorem But.setRow {b : Nat} {u w : World} (h : But b u w) {g : Nat} (hp : u.heap.size ≤ g ∨ g = b) (cs : Array Value) : But b u (w.setRow g cs) :=
  ⟨h.os, h.tape, h.output, Nat.le_trans h.size (by simp), fun k hk hb => by
    rw [setRow_other w g k cs (by omega)]
    exact h.block k hk hb⟩
theorem But.drewN {b : Nat} {u w : World} (h : But b u w) (n : Nat) : But b u (w.drewN n) := ⟨h.os, h.tape, h.output, h.size, h.block⟩
theorem But.below {b B : Nat} {u w : World} (h : But b u w) (hB : B ≤ b) (hu : B ≤ u.heap.size) : Below B u w := ⟨h.os, h.tape, h.output, h.size, fun k hk => h.block k (by omega) (by omega)⟩

/-- A block's cells, none of them frozen. -/
def Row (w : World) (g : Nat) (cs : Array Value) (t : TypeId) : Prop := w.heap[g]? = some (.cells cs t (0, 0))
theorem Row.new (w : World) (cs : Array Value) (t : TypeId) : Row (w.alloc (.cells cs t)) w.heap.size cs t := Array.getElem?_push_size
theorem Row.lt {w : World} {g : Nat} {cs : Array Value} {t : TypeId} (h : Row w g cs t) : g < w.heap.size := lt_of_block h
theorem Row.keep {w w' : World} {b g : Nat} {cs : Array Value} {t : TypeId} (h : Row w g cs t) (k : But b w w') (hb : g ≠ b) : Row w' g cs t := (k.block g h.lt hb).trans h
theorem Row.under {w w' : World} {g : Nat} {cs : Array Value} {t : TypeId} (h : Row w g cs t) (k : Below w.heap.size w w') : Row w' g cs t := (k.block g h.lt).trans h
theorem Row.at_ {w : World} {g : Nat} {cs : Array Value} {t : TypeId} (h : Row w g cs t) (j : Nat) : w.cell? ⟨g, j, none⟩ = cs[j]? := cell_of_row _ _ _ _ _ _ h
theorem Row.soft {w : World} {g : Nat} {cs : Array Value} {t : TypeId} (h : Row w g cs t) (j : Nat) : w.frozen? ⟨g, j, none⟩ = false := by rw [frozen_of_row _ _ _ _ _ h]
theorem Row.set {w : World} {g : Nat} {cs : Array Value} {t : TypeId} (h : Row w g cs t) (j : Nat) (v : Value) : Row (w.setCell ⟨g, j, none⟩ v) g (cs.setIfInBounds j v) t := heap_setCell_same _ g j _ _ v h
theorem Row.setRow {w : World} {g : Nat} {cs : Array Value} {t : TypeId} (h : Row w g cs t) (ds : Array Value) : Row (w.setRow g ds) g ds t := setRow_heap w g cs ds t _ h
theorem Row.holds {w : World} {g : Nat} {cs : Array Value} {t : TypeId} (h : Row w g cs t) : Holds w g cs := fun j v hj => (h.at_ j).trans hj

theorem num_range (p : Cm.St) : 0 ≤ (Cm.num p).1 ∧ (Cm.num p).1 < 9223372036854775808 := by
  have h := Nu.get_range p.s
  unfold Cm.num
  split
  · simp
  · simp only; omega

theorem vec_one (x y z : Int) : (#[Value.int .i64 x, .int .i64 y, .int .i64 z].all (·.oneCell')) = true := one_cells x y z

end Go.Proofs.Ytkaikekibmgmmaa
namespace Go.Proofs.Ytkaikekibmgmmaa
open Go.RowKit
set_option linter.unusedVariables false

theorem Row.set3 {w : World} {g : Nat} {cs : Array Value} {t : TypeId} (h : Row w g cs t) (o : Nat) (a b c : Value) : Row (w.setCells g o [a, b, c]) g (((cs.setIfInBounds o a).setIfInBounds (o + 1) b).setIfInBounds (o + 1 + 1) c) t :=
  ((h.set o a).set (o + 1) b).set (o + 1 + 1) c
theorem Row.there {w : World} {g : Nat} {cs : Array Value} {t : TypeId} (h : Row w g cs t) (o n : Nat) (hn : o + n ≤ cs.size) : w.there g o n := fun j hj => by
  rw [h.at_, h.soft]
  refine ⟨?_, rfl⟩
  rw [Array.getElem?_eq_getElem (by omega)]
  rfl
theorem But.set3 {b : Nat} {u w : World} (h : But b u w) {g : Nat} (hp : u.heap.size ≤ g ∨ g = b) (o : Nat) (x y z : Value) : But b u (w.setCells g o [x, y, z]) :=
  ((h.setCell (p := ⟨g, o, none⟩) hp x).setCell (p := ⟨g, o + 1, none⟩) hp y).setCell (p := ⟨g, o + 1 + 1, none⟩) hp z
theorem gang_len : (Try.prog.info? 71).map (·.size) = some 9 := by kernel_rfl
theorem Gg.one (a b c d e f g h i : Int) : (#[Value.int .i64 a, .int .i64 b, .int .i64 c, .int .i64 d, .int .i64 e, .int .i64 f, .int .i64 g, .int .i64 h, .int .i64 i].all (·.oneCell')) = true := by simp [Value.oneCell']
/-- A block of one's own stands where another one is written. -/
theorem Row.aside {w w' : World} {b g : Nat} {cs : Array Value} {t : TypeId} (h : Row w g cs t) (k : But b w w') (hb : b ≠ g) : Row w' g cs t := h.keep k (Ne.symm hb)

end Go.Proofs.Ytkaikekibmgmmaa
namespace Go.Proofs.Ytkaikekibmgmmaa
open Go.RowKit
set_option linter.unusedVariables false

/-- All elements' cells. -/
def cellsOf {α : Type} (enc : α → Array Value) (l : List α) : List Value := (l.map fun x => (enc x).toList).flatten
theorem cellsOf_snoc {α : Type} (enc : α → Array Value) (l : List α) (x : α) : cellsOf enc (l ++ [x]) = cellsOf enc l ++ (enc x).toList := by simp [cellsOf]
theorem cellsOf_at {α : Type} (enc : α → Array Value) (k : Nat) (hk : ∀ x, (enc x).size = k) : ∀ (l : List α) (i : Nat) x (j : Nat) v, l[i]? = some x → (enc x).toList[j]? = some v → (cellsOf enc l)[i * k + j]? = some v
  | [], i, x, j, v, h, _ => by simp at h
  | y :: l, 0, x, j, v, h, hv => by
    simp only [List.getElem?_cons_zero, Option.some.injEq] at h
    subst h
    have hj : j < (enc y).toList.length := by
      rcases Nat.lt_or_ge j (enc y).toList.length with q | q
      · exact q
      · rw [List.getElem?_eq_none q] at hv; cases hv
    rw [cellsOf, List.map_cons, List.flatten_cons, Nat.zero_mul, Nat.zero_add, List.getElem?_append_left hj]
    exact hv
  | y :: l, i + 1, x, j, v, h, hv => by
    simp only [List.getElem?_cons_succ] at h
    have hl : (enc y).toList.length = k := by rw [Array.length_toList, hk]
    have ih := cellsOf_at enc k hk l i x j v h hv
    rw [cellsOf, List.map_cons, List.flatten_cons, List.getElem?_append_right (by rw [hl, Nat.succ_mul]; omega), hl, show (i + 1) * k + j - k = i * k + j by rw [Nat.succ_mul]; omega]
    exact ih

theorem own_slice {α : Type} (enc : α → Array Value) (T : TypeId) {e : TypeId} {k : Nat} (hk : ∀ x, (enc x).size = k) {w : World} {base : Nat} {v : Value} {l : List α} (h : w.ownsRow base e k v l.length (cellsOf enc l))
    (hT : ∀ (b len cap i : Nat), i < len → ∀ w0 : World, (Instr.indexAt T (.slice (some ⟨b, 0, none⟩) len cap) (.int .i64 (i : Int))).run Try.prog w0 = .ok (.pointer (some ⟨b, 0 + i * k, none⟩)) w0) :
    ∃ (ao : Option Addr) (cap bb : Nat), v = .slice ao l.length cap ∧ Sl enc T k w ao cap bb 0 l := by
  rcases h.2 with ⟨rfl, hn⟩ | ⟨g, cap, cur, rfl, hb, hg, hnc, hm, hs, ht⟩
  · refine ⟨none, 0, 0, by rw [hn], ⟨by omega, fun h => by omega, fun i h => by omega, fun i x hx => ?_⟩⟩
    have : l = [] := List.eq_nil_of_length_eq_zero hn
    subst this
    simp at hx
  · refine ⟨some ⟨g, 0, none⟩, cap, g, rfl, ⟨by unfold maxLen at hm; omega, fun _ => lt_of_block hg, fun i hi w0 => hT g l.length cap i hi w0, fun i x hx j v hj => ?_⟩⟩
    rw [cell_of_row _ _ _ _ _ _ hg, Nat.zero_add]
    have hc := cellsOf_at enc k hk l i x j v hx hj
    rw [← ht] at hc
    have hlt : i * k + j < l.length * k := by
      rcases Nat.lt_or_ge (i * k + j) (l.length * k) with q | q
      · exact q
      · rw [List.getElem?_eq_none (by rw [List.length_take]; omega)] at hc; cases hc
    rw [List.getElem?_take_of_lt hlt] at hc
    simpa using hc

theorem own_keep {w w' : World} {b base : Nat} {e : TypeId} {k n : Nat} {v : Value} {xs : List Value} (h : w.ownsRow base e k v n xs) (g : But b w w') (hb : v.ownBlock ≠ some b) : w'.ownsRow base e k v n xs :=
  h.kept (row := some b) ⟨g.os, g.tape, g.output, g.size, fun j hj hne => g.block j hj (fun e => hne (by rw [e]))⟩ (.inr hb)
theorem own_low {w : World} {b base : Nat} {e : TypeId} {k n : Nat} {v : Value} {xs : List Value} (h : w.ownsRow base e k v n xs) (hb : b < base) : v.ownBlock ≠ some b := fun e => by have := (h.lt b e).1; omega
theorem own_high {w : World} {base : Nat} {e : TypeId} {k n : Nat} {v : Value} {xs : List Value} (h : w.ownsRow base e k v n xs) : v.ownBlock ≠ some w.heap.size := fun e => by have := (h.lt _ e).2; omega
theorem own_form {w : World} {base : Nat} {e : TypeId} {k n : Nat} {v : Value} {xs : List Value} (h : w.ownsRow base e k v n xs) : ∃ ao len cap, v = .slice ao len cap := by
  rcases h.2 with ⟨rfl, _⟩ | ⟨g, cap, cur, rfl, _⟩
  · exact ⟨_, _, _, rfl⟩
  · exact ⟨_, _, _, rfl⟩
theorem own_base {w : World} {base B : Nat} {e : TypeId} {k n : Nat} {v : Value} {xs : List Value} (h : w.ownsRow B e k v n xs) (hB : base ≤ B) : w.ownsRow base e k v n xs := by
  rcases h.2 with ⟨h1, h2⟩ | ⟨g, cap, cur, h1, h2, h3⟩
  · exact ⟨h.1, .inl ⟨h1, h2⟩⟩
  · exact ⟨h.1, .inr ⟨g, cap, cur, h1, Nat.le_trans hB h2, h3⟩⟩
theorem But.grown {b : Nat} {u w w' : World} {row : Option Nat} (h : But b u w) (g : w.grownBy w' row) (hr : ∀ k, row = some k → u.heap.size ≤ k) : But b u w' :=
  ⟨g.os.trans h.os, g.tape.trans h.tape, g.output.trans h.output, Nat.le_trans h.size g.size, fun k hk hb => (g.block k (Nat.lt_of_lt_of_le hk h.size) (fun e => by have := hr k e.symm; omega)).trans (h.block k hk hb)⟩
theorem Row.grown {w w' : World} {row : Option Nat} {g : Nat} {cs : Array Value} {t : TypeId} (h : Row w g cs t) (k : w.grownBy w' row) (hb : row ≠ some g) : Row w' g cs t := (k.block g h.lt (Ne.symm hb)).trans h

section
variable {P : Program} {w : World}
/-- An append by an equation of its own. -/
theorem wpList_append_by {ops : Array Oper} {rest : List Oper} {o : Oper} {a : Act} {Q : Exit → Act → World → Prop} (hgd : o.guard = none) (s x : Operand) (t tx : TypeId)
    (ho : o.op = .call { callee := .builtin .append, args := #[s, x], argTypes := #[t, tx] }) (vs vx v' : Value) (w' : World) (hs : a.eval s = vs) (hx : a.eval x = vx) (hr : (Builtin.append_ #[t, tx] o.type #[vs, vx]).run P w = .ok v' w')
    (h : wpList P ops Q rest (a.put o.dst v') w') : wpList P ops Q (o :: rest) a w := by
  refine wpList_plain hgd fun K hK => ?_
  unfold Oper.wp execOp
  simp only [ho, resolve, invoke, builtin, Sem.run_bind, Sem.run_pure, Result.andThen_ok, List.map_toArray, List.map_cons, List.map_nil, hs, hx, hr]
  exact hK _ _ h
end

theorem node_index (b len cap i : Nat) (hi : i < len) (w0 : World) : (Instr.indexAt 22 (.slice (some ⟨b, 0, none⟩) len cap) (.int .i64 (i : Int))).run Try.prog w0 = .ok (.pointer (some ⟨b, 0 + i * 11, none⟩)) w0 := by
  have e : (⟨b, 0, none⟩ : Addr).add (i * 11) = ⟨b, 0 + i * 11, none⟩ := by unfold Addr.add; split <;> simp_all
  have h : (0 : Int) ≤ (i : Int) ∧ (i : Int) < (len : Int) := by omega
  simp [Instr.indexAt, run_underlying Try.underlying22, asIntOf, hi, e]
theorem host_index (b len cap i : Nat) (hi : i < len) (w0 : World) : (Instr.indexAt 23 (.slice (some ⟨b, 0, none⟩) len cap) (.int .i64 (i : Int))).run Try.prog w0 = .ok (.pointer (some ⟨b, 0 + i * 6, none⟩)) w0 := by
  have e : (⟨b, 0, none⟩ : Addr).add (i * 6) = ⟨b, 0 + i * 6, none⟩ := by unfold Addr.add; split <;> simp_all
  have h : (0 : Int) ≤ (i : Int) ∧ (i : Int) < (len : Int) := by omega
  simp [Instr.indexAt, run_underlying Try.underlying23, asIntOf, hi, e]
theorem node_info : (Try.prog.info? 60).map (fun i => (i.zero, i.size, i.bytes)) = some (some (.agg (⟨0, 0, ⟨0, 0, 0⟩, ⟨0, 0, 0⟩, ⟨0, 0, 0⟩⟩ : Nd).c), 11, 88) := by kernel_rfl
theorem host_info : (Try.prog.info? 58).map (fun i => (i.zero, i.size, i.bytes)) = some (some (.agg (⟨0, 0, 0, ⟨0, 0, 0⟩⟩ : Hs).c), 6, 48) := by kernel_rfl
theorem Nd.one (n : Nd) : ∀ u ∈ n.c.toList, u.oneCell' = true := by
  intro u hu
  simp only [Nd.c, List.mem_cons, List.not_mem_nil, or_false] at hu
  rcases hu with rfl | rfl | rfl | rfl | rfl | rfl | rfl | rfl | rfl | rfl | rfl <;> rfl
theorem Hs.one (n : Hs) : ∀ u ∈ n.c.toList, u.oneCell' = true := by
  intro u hu
  simp only [Hs.c, List.mem_cons, List.not_mem_nil, or_false] at hu
  rcases hu with rfl | rfl | rfl | rfl | rfl | rfl <;> rfl

/-- A node appended to a row of one's own. -/
theorem node_append (w : World) (base : Nat) (v : Value) (l : List Nd) (x : Nd) (hl : l.length ≤ 100) (g : Nat) (hown : w.ownsRow base 60 11 v l.length (cellsOf Nd.c l)) (hg : Row w g x.c 60) (hb : base ≤ w.heap.size) :
    ∃ v' w', (Builtin.append_ #[22, 22] 22 #[v, .slice (some ⟨g, 0, none⟩) 1 1]).run Try.prog w = .ok v' w' ∧ w'.ownsRow base 60 11 v' (l ++ [x]).length (cellsOf Nd.c (l ++ [x])) ∧ w.grownBy w' v.ownBlock := by
  obtain ⟨i0, hi, hz0, hz1, hz2⟩ := info_parts node_info
  obtain ⟨v', w', h1, h2, h3, _⟩ := run_append_own (P := Try.prog) w base 22 22 60 i0 _ 11 88 Try.underlying22 hi hz0 hz1 hz2 rfl (by decide) v l.length (cellsOf Nd.c l) hown ⟨g, 0, none⟩ 1 1 x.c.toList rfl
    (fun j u hu => by
      rw [Addr.add_mid, Nat.zero_add, hg.at_]
      simpa using hu) x.one (by unfold maxLen; omega) (by omega) hb
  refine ⟨v', w', h1, ?_, h3⟩
  rw [cellsOf_snoc, List.length_append]
  exact h2
theorem host_append (w : World) (base : Nat) (v : Value) (l : List Hs) (x : Hs) (hl : l.length ≤ 100) (g : Nat) (hown : w.ownsRow base 58 6 v l.length (cellsOf Hs.c l)) (hg : Row w g x.c 58) (hb : base ≤ w.heap.size) :
    ∃ v' w', (Builtin.append_ #[23, 23] 23 #[v, .slice (some ⟨g, 0, none⟩) 1 1]).run Try.prog w = .ok v' w' ∧ w'.ownsRow base 58 6 v' (l ++ [x]).length (cellsOf Hs.c (l ++ [x])) ∧ w.grownBy w' v.ownBlock := by
  obtain ⟨i0, hi, hz0, hz1, hz2⟩ := info_parts host_info
  obtain ⟨v', w', h1, h2, h3, _⟩ := run_append_own (P := Try.prog) w base 23 23 58 i0 _ 6 48 Try.underlying23 hi hz0 hz1 hz2 rfl (by decide) v l.length (cellsOf Hs.c l) hown ⟨g, 0, none⟩ 1 1 x.c.toList rfl
    (fun j u hu => by
      rw [Addr.add_mid, Nat.zero_add, hg.at_]
      simpa using hu) x.one (by unfold maxLen; omega) (by omega) hb
  refine ⟨v', w', h1, ?_, h3⟩
  rw [cellsOf_snoc, List.length_append]
  exact h2

theorem config_len : (Try.prog.info? 25).map (·.size) = some 4 := by kernel_rfl

end Go.Proofs.Ytkaikekibmgmmaa
namespace Go.Proofs.Ytkaikekibmgmmaa
open Go.RowKit
set_option linter.unusedVariables false

theorem cellsOf_cons {α : Type} (enc : α → Array Value) (x : α) (l : List α) : cellsOf enc (x :: l) = (enc x).toList ++ cellsOf enc l := by simp [cellsOf]

/-- A number's cell; a row of numbers. -/
def iC (k : Int) : Array Value := #[.int .i64 k]
theorem int_index (b len cap i : Nat) (hi : i < len) (w0 : World) : (Instr.indexAt 68 (.slice (some ⟨b, 0, none⟩) len cap) (.int .i64 (i : Int))).run Try.prog w0 = .ok (.pointer (some ⟨b, 0 + i * 1, none⟩)) w0 := by
  have e : (⟨b, 0, none⟩ : Addr).add (i * 1) = ⟨b, 0 + i * 1, none⟩ := by unfold Addr.add; split <;> simp_all
  have h : (0 : Int) ≤ (i : Int) ∧ (i : Int) < (len : Int) := by omega
  rw [Nat.mul_one] at e
  simp [Instr.indexAt, run_underlying Try.underlying68, asIntOf, hi, e]
theorem int_info : (Try.prog.info? 3).map (fun i => (i.zero, i.size, i.bytes)) = some (some (.int .i64 0), 1, 8) := by kernel_rfl
theorem iC_one (n : Int) : ∀ u ∈ (iC n).toList, u.oneCell' = true := by
  intro u hu
  simp only [iC, List.mem_cons, List.not_mem_nil, or_false] at hu
  subst hu; rfl
theorem iC_len (l : List Int) : (cellsOf iC l).length = l.length * 1 := by
  induction l with
  | nil => rfl
  | cons x l ih => rw [cellsOf_cons, List.length_append, ih, List.length_cons]; simp [iC]; omega
theorem iC_all (l : List Int) : ∀ u ∈ cellsOf iC l, u.oneCell' = true := by
  intro u hu
  induction l with
  | nil => simp [cellsOf] at hu
  | cons x l ih =>
    rw [cellsOf_cons] at hu
    rcases List.mem_append.1 hu with h | h
    · exact iC_one x u h
    · exact ih h

/-- A number appended to a row of one's own; a row of one's own appended to a number. -/
theorem int_append (w : World) (base : Nat) (v : Value) (l : List Int) (x : Int) (hl : l.length ≤ 1000) (g : Nat) (hown : w.ownsRow base 3 1 v l.length (cellsOf iC l)) (hg : Row w g #[.int .i64 x] 3) (hb : base ≤ w.heap.size) :
    ∃ v' w', (Builtin.append_ #[68, 68] 68 #[v, .slice (some ⟨g, 0, none⟩) 1 1]).run Try.prog w = .ok v' w' ∧ w'.ownsRow base 3 1 v' (l ++ [x]).length (cellsOf iC (l ++ [x])) ∧ w.grownBy w' v.ownBlock := by
  obtain ⟨i0, hi, hz0, hz1, hz2⟩ := info_parts int_info
  obtain ⟨v', w', h1, h2, h3, _⟩ := run_append_own (P := Try.prog) w base 68 68 3 i0 _ 1 8 Try.underlying68 hi hz0 hz1 hz2 rfl (by decide) v l.length (cellsOf iC l) hown ⟨g, 0, none⟩ 1 1 (iC x).toList rfl
    (fun j u hu => by
      rw [Addr.add_mid, Nat.zero_add, hg.at_]
      simpa [iC] using hu) (iC_one x) (by unfold maxLen; omega) (by omega) hb
  refine ⟨v', w', h1, ?_, h3⟩
  rw [cellsOf_snoc, List.length_append]
  exact h2
theorem int_prepend (w : World) (base : Nat) (v : Value) (l : List Int) (x : Int) (hl : l.length ≤ 1000) (g : Nat) (hbg : base ≤ g) (hown : w.ownsRow base 3 1 v l.length (cellsOf iC l)) (hg : Row w g #[.int .i64 x] 3) (hb : base ≤ w.heap.size) :
    ∃ v' w', (Builtin.append_ #[68, 68] 68 #[.slice (some ⟨g, 0, none⟩) 1 1, v]).run Try.prog w = .ok v' w' ∧ w'.ownsRow base 3 1 v' (x :: l).length (cellsOf iC (x :: l)) ∧ w.grownBy w' (some g) := by
  obtain ⟨i0, hi, hz0, hz1, hz2⟩ := info_parts int_info
  have h1 : w.ownsRow base 3 1 (.slice (some ⟨g, 0, none⟩) 1 1) 1 (iC x).toList := ⟨rfl, .inr ⟨g, 1, _, rfl, hbg, hg, Nat.le_refl _, by unfold maxLen; omega, rfl, rfl⟩⟩
  rcases hown.2 with ⟨hv, hn⟩ | ⟨q, cap, cur, hv, hbq, hq, hnc, hm, hs, ht⟩
  · subst hv
    have : l = [] := List.eq_nil_of_length_eq_zero hn
    subst this
    exact ⟨_, w, run_append_owned_none w base 68 68 3 i0 1 Try.underlying68 hi _ 1 _ h1, h1, ⟨rfl, rfl, rfl, Nat.le_refl _, fun _ _ _ => rfl⟩⟩
  · subst hv
    obtain ⟨v', w', e1, e2, e3, _⟩ := run_append_own (P := Try.prog) w base 68 68 3 i0 _ 1 8 Try.underlying68 hi hz0 hz1 hz2 rfl (by decide) _ 1 _ h1 ⟨q, 0, none⟩ l.length cap (cellsOf iC l) (iC_len l)
      (fun j u hu => by
        rw [Addr.add_mid, Nat.zero_add, cell_of_row _ _ _ _ _ _ hq]
        rw [← ht] at hu
        have hlt : j < l.length * 1 := by
          rcases Nat.lt_or_ge j (l.length * 1) with h | h
          · exact h
          · rw [List.getElem?_eq_none (by rw [List.length_take]; omega)] at hu; cases hu
        rw [List.getElem?_take_of_lt hlt] at hu
        simpa using hu) (iC_all l) (by unfold maxLen; omega) (by omega) hb
    refine ⟨v', w', e1, ?_, e3⟩
    rw [cellsOf_cons, List.length_cons, Nat.add_comm l.length 1]
    exact e2

end Go.Proofs.Ytkaikekibmgmmaa
namespace Go.Proofs.Ytkaikekibmgmmaa
open Go.RowKit
set_option linter.unusedVariables false

section
variable {P : Program} {ops : Array Oper} {C : World → Prop}
theorem quiet_index {Q : Act → Prop} {a : Act} {o : Oper} {rest : List Oper} (T : TypeId) (vx vi v : Value) (x i : Operand) (hC : ∀ w, (Instr.indexAt T vx vi).run P w = .ok v w) (ho : o.op = .indexAddr T x i) (hx : a.eval x = vx) (hi : a.eval i = vi)
    (hw : Region.wanted o (yielded ops a.tmps) = true) (h : wpQuiet P ops C Q rest (a.put o.dst v)) : wpQuiet P ops C Q (o :: rest) a := by
  unfold wpQuiet
  rw [if_pos hw]
  refine ⟨v, fun w hw' => ?_, h⟩
  unfold Oper.quietAt execOp
  simp only [ho, hx, hi, Sem.run_bind, hC w, Result.andThen_ok]
  exact ⟨rfl, rfl⟩
end

/-- A command in memory: its lists' values. -/
def CmAt (c : Cmd) (vn vh : Value) (w : World) : Prop := ∃ (an : Option Addr) (cn nb no : Nat) (ah : Option Addr) (ch hb ho : Nat), vn = .slice an c.nodes.length cn ∧ vh = .slice ah c.hosts.length ch ∧
  Sl Nd.c 22 11 w an cn nb no c.nodes ∧ Sl Hs.c 23 6 w ah ch hb ho c.hosts
theorem CmAt.kept {c : Cmd} {vn vh : Value} {w w' : World} (h : CmAt c vn vh w) (g : Below w.heap.size w w') : CmAt c vn vh w' := by
  obtain ⟨an, cn, nb, no, ah, ch, hb, ho, e1, e2, h1, h2⟩ := h
  exact ⟨an, cn, nb, no, ah, ch, hb, ho, e1, e2, h1.kept g, h2.kept g⟩
theorem CmAt.of_rows {c : Cmd} {vn vh : Value} {w : World} {A B : Nat} (h1 : w.ownsRow A 60 11 vn c.nodes.length (cellsOf Nd.c c.nodes)) (h2 : w.ownsRow B 58 6 vh c.hosts.length (cellsOf Hs.c c.hosts)) : CmAt c vn vh w := by
  obtain ⟨an, cn, nb, e1, s1⟩ := own_slice Nd.c 22 (k := 11) (fun x => rfl) h1 (fun b len cap i hi w0 => node_index b len cap i hi w0)
  obtain ⟨ah, ch, hb, e2, s2⟩ := own_slice Hs.c 23 (k := 6) (fun x => rfl) h2 (fun b len cap i hi w0 => host_index b len cap i hi w0)
  exact ⟨an, cn, nb, 0, ah, ch, hb, 0, e1, e2, s1, s2⟩
theorem CmAt.slices {c : Cmd} {vn vh : Value} {w : World} (h : CmAt c vn vh w) : ∃ an ln cn ah lh ch, vn = .slice an ln cn ∧ vh = .slice ah lh ch := by
  obtain ⟨an, cn, nb, no, ah, ch, hb, ho, rfl, rfl, h1, h2⟩ := h
  exact ⟨_, _, _, _, _, _, rfl, rfl⟩
theorem CmAt.none (c : Cmd) (w : World) (hn : c.nodes = []) (hh : c.hosts = []) : CmAt c (.slice none 0 0) (.slice none 0 0) w := by
  refine CmAt.of_rows (A := 0) (B := 0) ?_ ?_
  · rw [hn]; exact World.ownsRow_nil _ _ _ _
  · rw [hh]; exact World.ownsRow_nil _ _ _ _

/-- Two lists agree so far. -/
def Agree {α : Type} (l m : List α) (j : Int) : Prop := ∀ k : Nat, k < j.toNat → l[k]? = m[k]?
theorem Agree.zero {α : Type} (l m : List α) : Agree l m 0 := fun k hk => by simp at hk
theorem Agree.succ {α : Type} {l m : List α} {j : Int} (h : Agree l m j) (h0 : 0 ≤ j) (hx : l[j.toNat]? = m[j.toNat]?) : Agree l m (j + 1) := by
  intro k hk
  by_cases e : k = j.toNat
  · subst e; exact hx
  · exact h k (by omega)
theorem Agree.eq {α : Type} {l m : List α} {j : Int} (h : Agree l m j) (hl : (l.length : Int) ≤ j) (hm : l.length = m.length) : l = m := by
  apply List.ext_getElem? 
  intro k
  rcases Nat.lt_or_ge k l.length with q | q
  · exact h k (by omega)
  · rw [List.getElem?_eq_none q, List.getElem?_eq_none (by omega)]

def Cm.sameC (a b : Cmd) : Bool := decide (a.nodes = b.nodes) && decide (a.hosts = b.hosts) && decide (a.half = b.half) && decide (a.age = b.age)

end Go.Proofs.Ytkaikekibmgmmaa
namespace Go.Proofs.Ytkaikekibmgmmaa
open Go.RowKit
set_option linter.unusedVariables false

/-- Numbers that an int has. -/
def In64 (x : Int) : Prop := -9223372036854775808 ≤ x ∧ x < 9223372036854775808
def V3.wide (v : V3) : Prop := In64 v.x ∧ In64 v.y ∧ In64 v.z
def Nd.wide (n : Nd) : Prop := In64 n.par ∧ In64 n.wt ∧ n.nom.wide ∧ n.bor.wide ∧ n.lend.wide
def Hs.wide (h : Hs) : Prop := In64 h.fl ∧ In64 h.bl ∧ In64 h.ra ∧ h.cap.wide
def Gg.wide (g : Gg) : Prop := In64 g.id ∧ In64 g.ten ∧ In64 g.pods ∧ g.need.wide ∧ In64 g.run ∧ In64 g.lev ∧ In64 g.pre
def Cmd.wide (c : Cmd) : Prop := In64 c.kind ∧ (∀ n ∈ c.nodes, n.wide) ∧ (∀ h ∈ c.hosts, h.wide) ∧ In64 c.half ∧ In64 c.age ∧ c.gang.wide ∧ In64 c.n
def Cmd.few (c : Cmd) : Prop := c.nodes.length + c.hosts.length ≤ 2000

theorem in64_ok {x : Int} (h : Cm.ok x = true) : In64 x := by rw [Cm.ok_iff] at h; unfold In64; omega
theorem in64_zero : In64 0 := by unfold In64; omega
theorem v3_ok {v : V3} (h : Cm.okV v = true) : v.wide := by
  simp only [Cm.okV, Bool.and_eq_true] at h
  exact ⟨in64_ok h.1.1, in64_ok h.1.2, in64_ok h.2⟩
theorem nd_ok {n : Nd} (h : Cm.okN n = true) : n.wide := by
  simp only [Cm.okN, Bool.and_eq_true, Cm.okP_iff] at h
  exact ⟨by have := h.1.1.1.1; unfold In64; omega, in64_ok h.1.1.1.2, v3_ok h.1.1.2, v3_ok h.1.2, v3_ok h.2⟩
theorem hs_ok {n : Hs} (h : Cm.okH n = true) : n.wide := by
  simp only [Cm.okH, Bool.and_eq_true] at h
  exact ⟨in64_ok h.1.1.1, in64_ok h.1.1.2, in64_ok h.1.2, v3_ok h.2⟩
theorem gg_ok {g : Gg} (h : Cm.okG g = true) : g.wide := by
  simp only [Cm.okG, Bool.and_eq_true] at h
  exact ⟨in64_ok h.1.1.1.1.1.1, in64_ok h.1.1.1.1.1.2, in64_ok h.1.1.1.1.2, v3_ok h.2, in64_ok h.1.1.1.2, in64_ok h.1.1.2, in64_ok h.1.2⟩
theorem gg_zero : Cm.zG.wide := ⟨in64_zero, in64_zero, in64_zero, ⟨in64_zero, in64_zero, in64_zero⟩, in64_zero, in64_zero, in64_zero⟩
theorem wide_zero : Cm.zero.wide := ⟨in64_zero, fun n h => by simp [Cm.zero] at h, fun n h => by simp [Cm.zero] at h, in64_zero, in64_zero, gg_zero, in64_zero⟩
theorem wide_check {c : Cmd} (h : Cm.check c = 0) : c.wide := by
  have hf := (Cm.check_zero h).1
  have hk := Cm.fine_kind hf
  have k64 : In64 c.kind := by unfold In64; omega
  unfold Cm.fine at hf
  split at hf
  · simp only [Bool.and_eq_true, Cm.bare, decide_eq_true_eq, Cm.okC, List.all_eq_true] at hf
    exact ⟨k64, fun n hn => nd_ok (hf.2.1.1.1 n hn), fun n hn => hs_ok (hf.2.1.1.2 n hn), in64_ok hf.2.1.2, in64_ok hf.2.2, by rw [hf.1.1]; exact gg_zero, by rw [hf.1.2]; exact in64_zero⟩
  split at hf
  · simp only [Bool.and_eq_true, decide_eq_true_eq, Cm.empty_iff] at hf
    exact ⟨k64, by rw [hf.1.1.1]; intro n hn; simp at hn, by rw [hf.1.1.2.1]; intro n hn; simp at hn, by rw [hf.1.1.2.2.1]; exact in64_zero, by rw [hf.1.1.2.2.2]; exact in64_zero, gg_ok hf.2, by rw [hf.1.2]; exact in64_zero⟩
  split at hf
  · simp only [Bool.and_eq_true, Cm.bare, decide_eq_true_eq, Cm.empty_iff] at hf
    exact ⟨k64, by rw [hf.1.1.1]; intro n hn; simp at hn, by rw [hf.1.1.2.1]; intro n hn; simp at hn, by rw [hf.1.1.2.2.1]; exact in64_zero, by rw [hf.1.1.2.2.2]; exact in64_zero, by rw [hf.1.2]; exact gg_zero, in64_ok hf.2⟩
  split at hf
  · simp only [Bool.and_eq_true, Cm.bare, decide_eq_true_eq, Cm.empty_iff] at hf
    exact ⟨k64, by rw [hf.1.1.1]; intro n hn; simp at hn, by rw [hf.1.1.2.1]; intro n hn; simp at hn, by rw [hf.1.1.2.2.1]; exact in64_zero, by rw [hf.1.1.2.2.2]; exact in64_zero, by rw [hf.1.2]; exact gg_zero, by rw [hf.2]; exact in64_zero⟩
  · cases hf
theorem few_check {c : Cmd} (h : Cm.check c = 0) : c.few := by
  have := Cm.check_zero h
  unfold Cmd.few; omega
end Go.Proofs.Ytkaikekibmgmmaa
namespace Go.Proofs.Ytkaikekibmgmmaa
open Go.RowKit Go.Joins Go.ChangeShapes Go.WideShapes Go.Deep
set_option linter.unusedVariables false

section
variable {H : Type} {enc : TypeId × Value → H} {P : Program} {w : World} {base : Nat} {spare : Nat → Bool} {held : Bool}
theorem field_at {t : TypeId} {fs : Array Field} {fuel : Nat} {cs : List Value} {x : DataW H × List MemPlace} (ht : P.underlying t = some (.struct fs)) (h : DataW.trod enc P w base spare held fuel t cs = some x) (i : Nat) (f : Field) (hi : fs[i]? = some f) (k : Nat) (hk : P.cellsOf f.type = k) (ds : List Value) (hd : (cs.drop f.offset).take k = ds) :
    ∃ n y, DataW.trod enc P w base spare held n f.type ds = some y ∧ ∀ m ∈ y.1.weights P f.type, m ∈ x.1.weights P t := by
  obtain ⟨xs, n, _, rfl, _, hxl, hg⟩ := DataW.trod_struct ht h
  have hlt : i < fs.size := by
    rcases Nat.lt_or_ge i fs.size with q | q
    · exact q
    · rw [Array.getElem?_eq_none q] at hi; cases hi
  have hx : xs[i]? = some xs[i] := List.getElem?_eq_getElem (by omega)
  refine ⟨n, xs[i], by rw [← hd, ← hk, hg i f hi, hx], fun m hm => ?_⟩
  simp only [DataW.weights, ht]
  exact DataW.weights_mem_each (j := i) (t := f.type) (d := xs[i].1) (by simp [hi]) (by simp [hx]) m hm
theorem weights_elem {e : TypeId} : ∀ {l : List (DataW H)} {d : DataW H}, d ∈ l → ∀ n ∈ d.weights P e, n ∈ DataW.weightsAll P e l
  | d' :: r, d, hd, n, hn => by
    simp only [DataW.weightsAll, List.mem_append]
    rcases List.mem_cons.1 hd with rfl | h
    · exact Or.inl hn
    · exact Or.inr (weights_elem h n hn)
end

theorem int_bounds {k : Int} (h : (Lit.int .i64 k).wf = true) : In64 k := by
  have := bounds_i64 h
  unfold In64; omega

section
variable {H : Type} {enc : TypeId × Value → H} {w : World} {base : Nat} {spare : Nat → Bool} {held : Bool}

theorem int_cell {n : Nat} {v : Value} {y : DataW H × List MemPlace} (h : DataW.trod enc Try.prog w base spare held n 3 [v] = some y) : ∃ k : Int, v = .int .i64 k ∧ In64 k := by
  obtain ⟨k, e0, _, wf⟩ := DataW.trod_int Try.underlying3 h
  simp only [List.cons.injEq, and_true] at e0
  exact ⟨k, e0, int_bounds wf⟩

theorem vec_cells {n : Nat} {a b c : Value} {y : DataW H × List MemPlace} (h : DataW.trod enc Try.prog w base spare held n 35 [a, b, c] = some y) : ∃ v : V3, a = .int .i64 v.x ∧ b = .int .i64 v.y ∧ c = .int .i64 v.z ∧ v.wide := by
  obtain ⟨y0, y1, y2, m, _, h0, h1, h2⟩ := trod_array3 Try.underlying35 (by kernel_rfl) h
  obtain ⟨k0, e0, w0⟩ := int_cell h0
  obtain ⟨k1, e1, w1⟩ := int_cell h1
  obtain ⟨k2, e2, w2⟩ := int_cell h2
  exact ⟨⟨k0, k1, k2⟩, e0, e1, e2, w0, w1, w2⟩
theorem cells_int : Try.prog.cellsOf 3 = 1 := by kernel_rfl
theorem cells_vec : Try.prog.cellsOf 35 = 3 := by kernel_rfl

theorem cells_node : Try.prog.cellsOf 60 = 11 := by kernel_rfl

theorem cells_host : Try.prog.cellsOf 58 = 6 := by kernel_rfl

theorem cells_config : Try.prog.cellsOf 25 = 4 := by kernel_rfl

theorem cells_nodes : Try.prog.cellsOf 22 = 1 := by kernel_rfl

theorem cells_hosts : Try.prog.cellsOf 23 = 1 := by kernel_rfl

theorem cells_gang : Try.prog.cellsOf 71 = 9 := by kernel_rfl

theorem node_cells {n : Nat} {cs : List Value} {y : DataW H × List MemPlace} (hl : cs.length = 11) (h : DataW.trod enc Try.prog w base spare held n 60 cs = some y) : ∃ x : Nd, cs = x.c.toList ∧ x.wide := by
  match cs, hl with
  | [c0, c1, c2, c3, c4, c5, c6, c7, c8, c9, c10], _ =>
    obtain ⟨_, _, h0, _⟩ := field_at Try.underlying60 h 0 _ rfl 1 cells_int [c0] rfl
    obtain ⟨_, _, h1, _⟩ := field_at Try.underlying60 h 1 _ rfl 1 cells_int [c1] rfl
    obtain ⟨_, _, h2, _⟩ := field_at Try.underlying60 h 2 _ rfl 3 cells_vec [c2, c3, c4] rfl
    obtain ⟨_, _, h3, _⟩ := field_at Try.underlying60 h 3 _ rfl 3 cells_vec [c5, c6, c7] rfl
    obtain ⟨_, _, h4, _⟩ := field_at Try.underlying60 h 4 _ rfl 3 cells_vec [c8, c9, c10] rfl
    obtain ⟨k0, rfl, w0⟩ := int_cell h0
    obtain ⟨k1, rfl, w1⟩ := int_cell h1
    obtain ⟨v2, rfl, rfl, rfl, w2⟩ := vec_cells h2
    obtain ⟨v3, rfl, rfl, rfl, w3⟩ := vec_cells h3
    obtain ⟨v4, rfl, rfl, rfl, w4⟩ := vec_cells h4
    exact ⟨⟨k0, k1, v2, v3, v4⟩, rfl, w0, w1, w2, w3, w4⟩

theorem host_cells {n : Nat} {cs : List Value} {y : DataW H × List MemPlace} (hl : cs.length = 6) (h : DataW.trod enc Try.prog w base spare held n 58 cs = some y) : ∃ x : Hs, cs = x.c.toList ∧ x.wide := by
  match cs, hl with
  | [c0, c1, c2, c3, c4, c5], _ =>
    obtain ⟨_, _, h0, _⟩ := field_at Try.underlying58 h 0 _ rfl 1 cells_int [c0] rfl
    obtain ⟨_, _, h1, _⟩ := field_at Try.underlying58 h 1 _ rfl 1 cells_int [c1] rfl
    obtain ⟨_, _, h2, _⟩ := field_at Try.underlying58 h 2 _ rfl 1 cells_int [c2] rfl
    obtain ⟨_, _, h3, _⟩ := field_at Try.underlying58 h 3 _ rfl 3 cells_vec [c3, c4, c5] rfl
    obtain ⟨k0, rfl, w0⟩ := int_cell h0
    obtain ⟨k1, rfl, w1⟩ := int_cell h1
    obtain ⟨k2, rfl, w2⟩ := int_cell h2
    obtain ⟨v3, rfl, rfl, rfl, w3⟩ := vec_cells h3
    exact ⟨⟨k0, k1, k2, v3⟩, rfl, w0, w1, w2, w3⟩

theorem gang_cells {n : Nat} {c0 c1 c2 c3 c4 c5 c6 c7 c8 : Value} {y : DataW H × List MemPlace} (h : DataW.trod enc Try.prog w base spare held n 71 [c0, c1, c2, c3, c4, c5, c6, c7, c8] = some y) : ∃ x : Gg, [c0, c1, c2, c3, c4, c5, c6, c7, c8] = x.c.toList ∧ x.wide := by
  obtain ⟨_, _, h0, _⟩ := field_at Try.underlying71 h 0 _ rfl 1 cells_int [c0] rfl
  obtain ⟨_, _, h1, _⟩ := field_at Try.underlying71 h 1 _ rfl 1 cells_int [c1] rfl
  obtain ⟨_, _, h2, _⟩ := field_at Try.underlying71 h 2 _ rfl 1 cells_int [c2] rfl
  obtain ⟨_, _, h3, _⟩ := field_at Try.underlying71 h 3 _ rfl 3 cells_vec [c3, c4, c5] rfl
  obtain ⟨_, _, h4, _⟩ := field_at Try.underlying71 h 4 _ rfl 1 cells_int [c6] rfl
  obtain ⟨_, _, h5, _⟩ := field_at Try.underlying71 h 5 _ rfl 1 cells_int [c7] rfl
  obtain ⟨_, _, h6, _⟩ := field_at Try.underlying71 h 6 _ rfl 1 cells_int [c8] rfl
  obtain ⟨k0, rfl, w0⟩ := int_cell h0
  obtain ⟨k1, rfl, w1⟩ := int_cell h1
  obtain ⟨k2, rfl, w2⟩ := int_cell h2
  obtain ⟨v3, rfl, rfl, rfl, w3⟩ := vec_cells h3
  obtain ⟨k4, rfl, w4⟩ := int_cell h4
  obtain ⟨k5, rfl, w5⟩ := int_cell h5
  obtain ⟨k6, rfl, w6⟩ := int_cell h6
  exact ⟨⟨k0, k1, k2, v3, k4, k5, k6⟩, rfl, w0, w1, w2, w3, w4, w5, w6⟩

end

section
variable {H : Type} {enc : TypeId × Value → H} {w : World}
/-- A slice of flat structs, opened. -/
theorem open_rows {α : Type} (en : α → Array Value) (wide : α → Prop) (T e : TypeId) (k : Nat) (hk : 0 < k) (dflt : α) (hT : Try.prog.underlying T = some (.slice e)) (hce : Try.prog.cellsOf e = k) (hbe : 0 < Try.prog.bytesOf e)
    (hidx : ∀ (b o len cap i : Nat), i < len → ∀ w0 : World, (Instr.indexAt T (.slice (some ⟨b, o, none⟩) len cap) (.int .i64 (i : Int))).run Try.prog w0 = .ok (.pointer (some ⟨b, o + i * k, none⟩)) w0)
    (hel : ∀ (n : Nat) (cs : List Value) (y : DataW H × List MemPlace), cs.length = k → DataW.trod enc Try.prog w 0 (fun _ => true) true n e cs = some y → ∃ x : α, cs = (en x).toList ∧ wide x)
    {fuel : Nat} {v : Value} {x : DataW H × List MemPlace} (h : DataW.trod enc Try.prog w 0 (fun _ => true) true fuel T [v] = some x) :
    ∃ (ao : Option Addr) (cap bb oo : Nat) (l : List α), v = .slice ao l.length cap ∧ Sl en T k w ao cap bb oo l ∧ (∀ y ∈ l, wide y) ∧ (l.length = 0 ∨ ∃ m ∈ x.1.weights Try.prog T, l.length ≤ m) := by
  rcases open_slice hT h with ⟨e0, _⟩ | ⟨a, len, cap, m, n, D, Pl, e0, _, hl, hm, hmm, ex, hall⟩
  · simp only [List.cons.injEq, and_true] at e0
    exact ⟨none, 0, 0, 0, [], e0, ⟨by simp, fun h => by simp at h, fun i h => by simp at h, fun i x hx => by simp at hx⟩, fun y hy => by simp at hy, .inl rfl⟩
  · simp only [List.cons.injEq, and_true] at e0
    subst e0
    have hm' : m = cap := by simpa using hmm
    have each : ∀ i, ∃ y : α, i < len → wide y ∧ ∀ (j : Nat) u, (en y).toList[j]? = some u → w.cell? (a.add (i * k + j)) = some u := by
      intro i
      by_cases hi : i < len
      · obtain ⟨cs', hc, ht⟩ := hall i (by omega)
        rw [hce] at hc
        obtain ⟨_, hlen, hat⟩ := World.cells?_some hc
        obtain ⟨y, rfl, hw⟩ := hel n cs' _ hlen ht
        refine ⟨y, fun _ => ⟨hw, fun j u hu => ?_⟩⟩
        have hj : j < k := by
          rcases Nat.lt_or_ge j k with q | q
          · exact q
          · rw [List.getElem?_eq_none (by omega)] at hu; cases hu
        have h1 := hat j hj
        rw [add_add] at h1
        rw [h1]
        simpa using hu
      · exact ⟨dflt, fun h => absurd h hi⟩
    obtain ⟨S, hS⟩ : ∃ S : Nat → α, ∀ i, i < len → wide (S i) ∧ ∀ (j : Nat) u, (en (S i)).toList[j]? = some u → w.cell? (a.add (i * k + j)) = some u := ⟨fun i => Classical.choose (each i), fun i => Classical.choose_spec (each i)⟩
    clear each
    have small : len ≤ 9223372036854775807 := by simp only [maxLen] at hm; omega
    have hlenl : ((List.range len).map S).length = len := by simp
    have hwt : len = 0 ∨ ∃ m ∈ x.1.weights Try.prog T, len ≤ m := by
      right
      rw [ex]
      refine ⟨_, by simp only [DataW.weights, hT]; exact List.mem_cons_self .., ?_⟩
      simp only [List.length_map, List.length_range]
      have : len ≤ (len + (m - len)) * 1 := by omega
      exact Nat.le_trans this (Nat.mul_le_mul_left _ hbe)
    by_cases h0 : len = 0
    · subst h0
      exact ⟨some a, cap, 0, 0, [], rfl, ⟨by simp, fun h => by simp at h, fun i h => by simp at h, fun i x hx => by simp at hx⟩, fun y hy => by simp at hy, .inl rfl⟩
    · obtain ⟨b, off, spot⟩ := a
      obtain ⟨cs', hc, _⟩ := hall 0 (by omega)
      rw [hce] at hc
      obtain ⟨_, hlen, hat⟩ := World.cells?_some hc
      have h2 := hat 0 hk
      rw [add_add, List.getElem?_eq_getElem (by omega)] at h2
      have hspot : spot = none := by simpa [Addr.add] using World.cell?_spot h2
      subst hspot
      have ea : ∀ j, (⟨b, off, none⟩ : Addr).add j = ⟨b, off + j, none⟩ := fun j => by unfold Addr.add; split <;> simp_all
      simp only [ea] at hS h2
      refine ⟨some ⟨b, off, none⟩, cap, b, off, (List.range len).map S, by rw [hlenl], ⟨by rw [hlenl]; exact small, fun _ => World.block_lt_of_cell? w _ h2, fun i hi w0 => ?_, fun i y hy j u hu => ?_⟩, fun y hy => ?_, by rw [hlenl]; exact hwt⟩
      · rw [hlenl] at hi ⊢
        exact hidx b off len cap i hi w0
      · have hi : i < len := by
          rcases Nat.lt_or_ge i len with q | q
          · exact q
          · rw [List.getElem?_eq_none (by rw [hlenl]; exact q)] at hy; cases hy
        have : y = S i := by
          rw [List.getElem?_map, List.getElem?_range hi] at hy
          simpa using hy.symm
        subst this
        have := (hS i hi).2 j u hu
        rw [Nat.add_assoc]
        exact this
      · obtain ⟨i, hi, rfl⟩ := List.mem_map.1 hy
        exact (hS i (List.mem_range.1 hi)).1

theorem node_index_at (b o len cap i : Nat) (hi : i < len) (w0 : World) : (Instr.indexAt 22 (.slice (some ⟨b, o, none⟩) len cap) (.int .i64 (i : Int))).run Try.prog w0 = .ok (.pointer (some ⟨b, o + i * 11, none⟩)) w0 := by
  have e : (⟨b, o, none⟩ : Addr).add (i * 11) = ⟨b, o + i * 11, none⟩ := by unfold Addr.add; split <;> simp_all
  have h : (0 : Int) ≤ (i : Int) ∧ (i : Int) < (len : Int) := by omega
  simp [Instr.indexAt, run_underlying Try.underlying22, asIntOf, hi, e]
theorem host_index_at (b o len cap i : Nat) (hi : i < len) (w0 : World) : (Instr.indexAt 23 (.slice (some ⟨b, o, none⟩) len cap) (.int .i64 (i : Int))).run Try.prog w0 = .ok (.pointer (some ⟨b, o + i * 6, none⟩)) w0 := by
  have e : (⟨b, o, none⟩ : Addr).add (i * 6) = ⟨b, o + i * 6, none⟩ := by unfold Addr.add; split <;> simp_all
  have h : (0 : Int) ≤ (i : Int) ∧ (i : Int) < (len : Int) := by omega
  simp [Instr.indexAt, run_underlying Try.underlying23, asIntOf, hi, e]

end
end Go.Proofs.Ytkaikekibmgmmaa

/- A map whose keys are integers, in memory: a look-up, a store, a delete. -/
import Derived.Test.YtkaikekibmgmmaaGc
import Derived.MapKept
import Derived.Deep.Quiet
import Derived.WideMake
namespace Go.Proofs.Ytkaikekibmgmmaa
open Go Go.RowKit Go.MapKept
set_option linter.unusedVariables false

/-- Block r is the map that has for each key what f says. -/
def MpAt {α : Type} (enc : α → Value) (w : World) (r : Nat) (f : Int → Option α) : Prop :=
  ∃ es clock, w.heap[r]? = some (.map es clock) ∧ Stamped es clock ∧ (∀ x ∈ es.toList, ∃ k v, x.key = .int .i64 k ∧ x.val = enc v ∧ f k = some v) ∧ ∀ k v, f k = some v → ∃ x ∈ es.toList, x.key = .int .i64 k

theorem MpAt.kept {α : Type} {enc : α → Value} {w : World} {r : Nat} {f : Int → Option α} (h : MpAt enc w r f) {w' : World} (e : w'.heap[r]? = w.heap[r]?) : MpAt enc w' r f := by
  obtain ⟨es, clock, h1, h2, h3, h4⟩ := h
  exact ⟨es, clock, e.trans h1, h2, h3, h4⟩
theorem MpAt.lt {α : Type} {enc : α → Value} {w : World} {r : Nat} {f : Int → Option α} (h : MpAt enc w r f) : r < w.heap.size := by
  obtain ⟨es, clock, h1, _⟩ := h
  exact (Array.getElem?_eq_some_iff.1 h1).1

namespace Mp
/-- Key k has o, the others what f says. -/
def upd {α : Type} (f : Int → Option α) (k : Int) (o : Option α) : Int → Option α := fun j => if j = k then o else f j
theorem upd_same {α : Type} (f : Int → Option α) (k : Int) (o : Option α) : upd f k o k = o := if_pos rfl
theorem upd_other {α : Type} (f : Int → Option α) {k j : Int} (o : Option α) (h : j ≠ k) : upd f k o j = f j := if_neg h
variable {α : Type} {enc : α → Value} {P : Program} {w : World} {r : Nat} {f : Int → Option α} {mty kt et : TypeId}

theorem nodup_inj {β : Type} {l : List β} (h : l.Nodup) {i j : Nat} {a : β} (hi : l[i]? = some a) (hj : l[j]? = some a) : i = j := by
  obtain ⟨li, ei⟩ := List.getElem?_eq_some_iff.1 hi
  obtain ⟨lj, ej⟩ := List.getElem?_eq_some_iff.1 hj
  have hp := List.pairwise_iff_getElem.1 h
  rcases Nat.lt_trichotomy i j with q | q | q
  · exact absurd (ei.trans ej.symm) (hp i j li lj q)
  · exact q
  · exact absurd (ej.trans ei.symm) (hp j i lj li q)
theorem keys {es : Array MapEntry} (h : ∀ x ∈ es.toList, ∃ k v, x.key = .int .i64 k ∧ x.val = enc v ∧ f k = some v) : ∀ x ∈ es.toList, IsKey (.int .i64) x.key := fun x hx => by
  obtain ⟨k, v, e, _, _⟩ := h x hx
  rw [e]
  rfl

theorem made (w : World) : MpAt enc (w.alloc (.map #[] 0)) w.heap.size (fun _ => none) :=
  ⟨#[], 0, (MapKept.heap_alloc w _).1, stamped_empty 0, by simp, fun k v h => by cases h⟩

/-- What the search finds. -/
theorem found {es : Array MapEntry} (hs : ∀ x ∈ es.toList, ∃ k v, x.key = .int .i64 k ∧ x.val = enc v ∧ f k = some v) (hf : ∀ k v, f k = some v → ∃ x ∈ es.toList, x.key = .int .i64 k) (k : Int) :
    (f k = none ∧ Instr.findNow (.int .i64) (.int .i64 k) es.toList 0 = some none ∧ ∀ x ∈ es.toList, x.key ≠ .int .i64 k) ∨
    ∃ j e v, f k = some v ∧ Instr.findNow (.int .i64) (.int .i64 k) es.toList 0 = some (some (j, enc v)) ∧ es[j]? = some e ∧ e.key = .int .i64 k := by
  rcases findNow_spec (d := .int .i64) (k := .int .i64 k) rfl es.toList 0 (keys hs) with ⟨h1, h2⟩ | ⟨j, e, h1, h2, h3⟩
  · refine .inl ⟨?_, h1, h2⟩
    cases q : f k with
    | none => rfl
    | some v =>
      obtain ⟨x, hx, e⟩ := hf k v q
      exact absurd e (h2 x hx)
  · obtain ⟨k', v, e1, e2, e3⟩ := hs e (List.mem_of_getElem? h2)
    rw [h3] at e1
    cases e1
    exact .inr ⟨j, e, v, e3, by rw [h1, e2, Nat.zero_add], by simpa using h2, h3⟩

theorem look (h : MpAt enc w r f) (hm : P.underlying mty = some (.map kt et)) (hd : P.underlying kt = some (.int .i64)) {z : Value} (hz : (zeroValue et).run P w = .ok z w) (k : Int) :
    (Instr.lookup mty (.map (some r)) (.int .i64 k) false).run P w = .ok (((f k).map enc).getD z) w ∧
    (Instr.lookup mty (.map (some r)) (.int .i64 k) true).run P w = .ok (.tuple #[((f k).map enc).getD z, .bool (f k).isSome]) w := by
  obtain ⟨es, clock, hb, hs, h3, h4⟩ := h
  have hk : IsKey (.int .i64) (.int .i64 k) := rfl
  rcases found h3 h4 k with ⟨e, h1, _⟩ | ⟨j, x, v, e, h1, _, _⟩
  · constructor <;> simp [Instr.lookup, run_underlying hm, MapKept.run_getObj_map hb, MapKept.run_checkKey hd hk, MapKept.run_findKey hd h1, hz, e, Result.andThen]
  · constructor <;> simp [Instr.lookup, run_underlying hm, MapKept.run_getObj_map hb, MapKept.run_checkKey hd hk, MapKept.run_findKey hd h1, e, Result.andThen]

/-- Only block r is another one. -/
theorem but_heap {o o' : Obj} (hb : w.heap[r]? = some o) : But r w { w with heap := w.heap.setIfInBounds r o' } :=
  ⟨rfl, rfl, rfl, by simp, fun k hk hne => by simp [Ne.symm hne]⟩

theorem store (h : MpAt enc w r f) (hm : P.underlying mty = some (.map kt et)) (hd : P.underlying kt = some (.int .i64)) (k : Int) (v : α) :
    ∃ w', (Instr.mapUpdate mty (.map (some r)) (.int .i64 k) (enc v)).run P w = .ok () w' ∧ MpAt enc w' r (upd f k (some v)) ∧ But r w w' := by
  obtain ⟨es, clock, hb, hs, h3, h4⟩ := h
  have hk : IsKey (.int .i64) (.int .i64 k) := rfl
  rcases found h3 h4 k with ⟨e, h1, h2⟩ | ⟨j, x, u, e, h1, hj, hx⟩
  · refine ⟨_, by simp [Instr.mapUpdate, run_underlying hm, MapKept.run_getObj_map hb, MapKept.run_checkKey hd hk, MapKept.run_findKey hd h1, MapKept.run_setObj_map _ hb, Result.andThen]; rfl, ⟨_, _, (heap_set hb).1, stamped_push hs h2, ?_, ?_⟩, but_heap hb⟩
    · intro y hy
      simp only [Array.toList_push, List.mem_append, List.mem_singleton] at hy
      rcases hy with hy | rfl
      · obtain ⟨k', v', e1, e2, e3⟩ := h3 y hy
        exact ⟨k', v', e1, e2, by rw [upd_other f _ (fun q => by rw [q] at e1; exact h2 y hy e1)]; exact e3⟩
      · exact ⟨k, v, rfl, rfl, upd_same f k _⟩
    · intro k' v' hv
      by_cases q : k' = k
      · subst q
        exact ⟨{ key := .int .i64 k', val := enc v, born := clock }, by simp, rfl⟩
      · rw [upd_other f _ q] at hv
        obtain ⟨y, hy, ey⟩ := h4 k' v' hv
        exact ⟨y, by simp [hy], ey⟩
  · have hkey : ∀ e', es[j]? = some e' → ({ e' with key := .int .i64 k, val := enc v } : MapEntry).key = e'.key := fun e' he' => by rw [hj] at he'; cases he'; exact hx.symm
    refine ⟨{ w with heap := w.heap.setIfInBounds r (.map (es.modify j fun e => { e with key := .int .i64 k, val := enc v }) clock) }, ?_, ⟨_, _, (heap_set hb).1, stamped_modify hs j (fun e => { e with key := .int .i64 k, val := enc v }) (fun _ _ => rfl) (fun e' _ he' => hkey e' he'), ?_, ?_⟩, but_heap hb⟩
    · simp [Instr.mapUpdate, run_underlying hm, MapKept.run_getObj_map hb, MapKept.run_checkKey hd hk, MapKept.run_findKey hd h1, hj, hx, run_keyThatStays hk, MapKept.run_setObj_map _ hb, Result.andThen]
    · intro y hy
      obtain ⟨i, hi⟩ := List.mem_iff_getElem?.1 hy
      rw [Array.getElem?_toList, Array.getElem?_modify] at hi
      by_cases q : j = i
      · subst q
        rw [if_pos rfl, hj] at hi
        cases hi
        exact ⟨k, v, rfl, rfl, upd_same f k _⟩
      · rw [if_neg q] at hi
        have hy' : y ∈ es.toList := List.mem_of_getElem? (by rw [Array.getElem?_toList]; exact hi)
        obtain ⟨k', v', e1, e2, e3⟩ := h3 y hy'
        refine ⟨k', v', e1, e2, ?_⟩
        rw [upd_other f _ (fun qk => ?_)]
        · exact e3
        · subst qk
          have hnd := hs.2.2
          have a1 : (es.toList.map (·.key))[i]? = some (.int .i64 k') := by rw [List.getElem?_map, Array.getElem?_toList, hi]; exact congrArg some e1
          have a2 : (es.toList.map (·.key))[j]? = some (.int .i64 k') := by rw [List.getElem?_map, Array.getElem?_toList, hj]; exact congrArg some hx
          exact q (nodup_inj hnd a2 a1)
    · intro k' v' hv
      by_cases q : k' = k
      · subst q
        exact ⟨{ x with key := .int .i64 k', val := enc v }, List.mem_of_getElem? (i := j) (by rw [Array.getElem?_toList, Array.getElem?_modify, if_pos rfl, hj]; rfl), rfl⟩
      · rw [upd_other f _ q] at hv
        obtain ⟨y, hy, ey⟩ := h4 k' v' hv
        obtain ⟨i, hi⟩ := List.mem_iff_getElem?.1 hy
        rw [Array.getElem?_toList] at hi
        have hne : j ≠ i := fun qj => by
          subst qj
          rw [hj] at hi
          cases hi
          rw [hx] at ey
          cases ey
          exact q rfl
        exact ⟨y, List.mem_of_getElem? (i := i) (by rw [Array.getElem?_toList, Array.getElem?_modify, if_neg hne]; exact hi), ey⟩

theorem drop (h : MpAt enc w r f) (hm : P.underlying mty = some (.map kt et)) (hd : P.underlying kt = some (.int .i64)) (k : Int) (ty t2 : TypeId) :
    ∃ w', (Builtin.delete_ #[mty, t2] ty #[.map (some r), .int .i64 k]).run P w = .ok (.tuple #[]) w' ∧ MpAt enc w' r (upd f k none) ∧ But r w w' := by
  obtain ⟨es, clock, hb, hs, h3, h4⟩ := h
  have hk : IsKey (.int .i64) (.int .i64 k) := rfl
  rcases found h3 h4 k with ⟨e, h1, h2⟩ | ⟨j, x, u, e, h1, hj, hx⟩
  · refine ⟨_, by simp [Builtin.delete_, run_underlying hm, MapKept.run_getObj_map hb, MapKept.run_checkKey hd hk, MapKept.run_findKey hd h1, MapKept.run_setObj_map _ hb, Result.andThen], ⟨_, _, (heap_set hb).1, hs, ?_, ?_⟩, but_heap hb⟩
    · intro y hy
      obtain ⟨k', v', e1, e2, e3⟩ := h3 y hy
      exact ⟨k', v', e1, e2, by rw [upd_other f _ (fun q => by rw [q] at e1; exact h2 y hy e1)]; exact e3⟩
    · intro k' v' hv
      by_cases q : k' = k
      · subst q; rw [upd_same] at hv; cases hv
      · rw [upd_other f _ q] at hv
        exact h4 k' v' hv
  · have hjl : j < es.size := (Array.getElem?_eq_some_iff.1 hj).1
    have hel : (es.eraseIdxIfInBounds j).toList = es.toList.eraseIdx j := by
      unfold Array.eraseIdxIfInBounds
      rw [dif_pos hjl, Array.toList_eraseIdx]
    refine ⟨_, by simp [Builtin.delete_, run_underlying hm, MapKept.run_getObj_map hb, MapKept.run_checkKey hd hk, MapKept.run_findKey hd h1, MapKept.run_setObj_map _ hb, Result.andThen], ⟨_, _, (heap_set hb).1, stamped_erase hs j, ?_, ?_⟩, but_heap hb⟩
    · intro y hy
      rw [hel, List.mem_eraseIdx_iff_getElem?] at hy
      obtain ⟨i, hij, hi⟩ := hy
      obtain ⟨k', v', e1, e2, e3⟩ := h3 y (List.mem_of_getElem? hi)
      refine ⟨k', v', e1, e2, ?_⟩
      rw [upd_other f _ (fun qk => ?_)]
      · exact e3
      · subst qk
        have hnd := hs.2.2
        have a1 : (es.toList.map (·.key))[i]? = some (.int .i64 k') := by rw [List.getElem?_map, hi]; exact congrArg some e1
        have a2 : (es.toList.map (·.key))[j]? = some (.int .i64 k') := by rw [List.getElem?_map, Array.getElem?_toList, hj]; exact congrArg some hx
        exact hij (nodup_inj hnd a1 a2)
    · intro k' v' hv
      by_cases q : k' = k
      · subst q; rw [upd_same] at hv; cases hv
      · rw [upd_other f _ q] at hv
        obtain ⟨y, hy, ey⟩ := h4 k' v' hv
        obtain ⟨i, hi⟩ := List.mem_iff_getElem?.1 hy
        have hne : i ≠ j := fun qj => by
          subst qj
          rw [Array.getElem?_toList, hj] at hi
          cases hi
          rw [hx] at ey
          cases ey
          exact q rfl
        exact ⟨y, by rw [hel, List.mem_eraseIdx_iff_getElem?]; exact ⟨i, hne, hi⟩, ey⟩

end Mp
section
variable {α : Type} {enc : α → Value} {P : Program} {ops : Array Oper} {C : World → Prop}
/-- A map is looked into: by an equation of its own. -/
theorem quiet_lookup {Q : Act → Prop} {a : Act} {o : Oper} {rest : List Oper} (T : TypeId) (vx vi v : Value) (ok : Bool) (x i : Operand) (hC : ∀ w, C w → (Instr.lookup T vx vi ok).run P w = .ok v w) (ho : o.op = .lookup T x i ok) (hx : a.eval x = vx) (hi : a.eval i = vi)
    (hw : Region.wanted o (yielded ops a.tmps) = true) (h : wpQuiet P ops C Q rest (a.put o.dst v)) : wpQuiet P ops C Q (o :: rest) a := by
  unfold wpQuiet
  rw [if_pos hw]
  refine ⟨v, fun w hw' => ?_, h⟩
  unfold Oper.quietAt execOp
  simp only [ho, hx, hi, Sem.run_bind, Sem.run_pure, Result.andThen_ok, hC w hw']
  exact ⟨rfl, rfl⟩
/-- A look-up, a store, a delete, as operations: by equations of their own. -/
theorem wpList_lookup_by {rest : List Oper} {o : Oper} {a : Act} {w : World} {Q : Exit → Act → World → Prop} (hgd : o.guard = none) (T : TypeId) (m k : Operand) (ok : Bool) (ho : o.op = .lookup T m k ok) (vm vk v : Value) (hm : a.eval m = vm) (hk : a.eval k = vk) (hr : (Instr.lookup T vm vk ok).run P w = .ok v w)
    (h : wpList P ops Q rest (a.put o.dst v) w) : wpList P ops Q (o :: rest) a w := by
  refine wpList_plain hgd fun K hK => ?_
  unfold Oper.wp execOp
  simp only [ho, hm, hk, Sem.run_bind, Sem.run_pure, Result.andThen_ok, hr]
  exact hK _ _ h
theorem wpList_update_by {rest : List Oper} {o : Oper} {a : Act} {w : World} {Q : Exit → Act → World → Prop} (hgd : o.guard = none) (T : TypeId) (m k x : Operand) (ho : o.op = .mapUpdate T m k x) (vm vk vx : Value) (w' : World) (hm : a.eval m = vm) (hk : a.eval k = vk) (hx : a.eval x = vx) (hr : (Instr.mapUpdate T vm vk vx).run P w = .ok () w')
    (h : wpList P ops Q rest (a.put o.dst undef) w') : wpList P ops Q (o :: rest) a w := by
  refine wpList_plain hgd fun K hK => ?_
  unfold Oper.wp
  simp [execOp, ho, hm, hk, hx, hr, Result.andThen]
  exact hK _ _ h
theorem wpList_delete_by {rest : List Oper} {o : Oper} {a : Act} {w : World} {Q : Exit → Act → World → Prop} (hgd : o.guard = none) (m k : Operand) (t tk : TypeId) (ho : o.op = .call { callee := .builtin .delete, args := #[m, k], argTypes := #[t, tk] }) (vm vk v : Value) (w' : World) (hm : a.eval m = vm) (hk : a.eval k = vk) (hr : (Builtin.delete_ #[t, tk] o.type #[vm, vk]).run P w = .ok v w')
    (h : wpList P ops Q rest (a.put o.dst v) w') : wpList P ops Q (o :: rest) a w := by
  refine wpList_plain hgd fun K hK => ?_
  unfold Oper.wp execOp
  simp only [ho, resolve, invoke, builtin, Sem.run_bind, Sem.run_pure, Result.andThen_ok, List.map_toArray, List.map_cons, List.map_nil, hm, hk, hr]
  exact hK _ _ h
end

/-- A row's block is no map's. -/
theorem MpAt.not_sl {α β : Type} {enc : α → Value} {w : World} {r : Nat} {f : Int → Option α} (h : MpAt enc w r f) {e : β → Array Value} {T : TypeId} {k : Nat} {ao : Option Addr} {cap bb oo : Nat} {l : List β} (s : Sl e T k w ao cap bb oo l) (he : ∀ x : β, ∃ v, (e x).toList[0]? = some v) (hl : 0 < l.length) : bb ≠ r := by
  intro q
  obtain ⟨x, hx⟩ : ∃ x, l[0]? = some x := ⟨_, List.getElem?_eq_getElem hl⟩
  obtain ⟨v, hv⟩ := he x
  have hc := s.at_ 0 x hx 0 v hv
  obtain ⟨es, clock, hb, _⟩ := h
  rw [q] at hc
  simp [World.cell?, hb] at hc
theorem MpAt.not_row {α : Type} {enc : α → Value} {w : World} {r : Nat} {f : Int → Option α} (h : MpAt enc w r f) {B : Nat} {cs : Array Value} {t : TypeId} (s : Row w B cs t) : B ≠ r := by
  intro q
  obtain ⟨es, clock, hb, _⟩ := h
  subst q
  rw [s] at hb
  cases hb

end Go.Proofs.Ytkaikekibmgmmaa

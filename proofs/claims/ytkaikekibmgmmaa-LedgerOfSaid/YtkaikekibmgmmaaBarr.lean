/- A region that draws its order and ends by turning what it read: a load may be taken first where nobody writes its cell AHEAD OF AN OPERATION THAT WAITS FOR THE LOAD ('xs = append(xs, f())'). -/
import Derived.Test.YtkaikekibmgmmaaGa
import Derived.OrdersHeld
import Derived.Laws.Tables
import Derived.Deep.RegionHeld3
namespace Go.Proofs.Ytkaikekibmgmmaa
open Go.RowKit
set_option linter.unusedVariables false

section
variable {P : Program} {ops : Array Oper} {Q : Exit → Act → World → Prop} {md : Region.Mode} {S : World → Prop} {k : Nat}

/-- Whatever order is picked from here on; S holds behind each operation till number k has come up. -/
def wpAnyB (P : Program) (md : Region.Mode) (ops : Array Oper) (Q : Exit → Act → World → Prop) (S : World → Prop) (k : Nat) : Nat → Array Bool → Act → World → Prop
  | 0, listed, a, w => Region.ready md ops listed = [] ∧ Q .normal a w
  | fuel + 1, listed, a, w =>
    (Region.ready md ops listed = [] → Q .normal a w) ∧
    ∀ i ∈ Region.ready md ops listed, wpOp P ops Q i (fun a' w' => ((listed.setIfInBounds i true).getD k false = true ∨ S w') ∧ wpAnyB P md ops Q S k fuel (listed.setIfInBounds i true) a' w') a w

theorem wpAny_of_barr : ∀ (fuel : Nat) (listed : Array Bool) (a : Act) (w : World), wpAnyB P md ops Q S k fuel listed a w → wpAny P md ops Q fuel listed a w
  | 0, _, _, _, h => h
  | fuel + 1, _, _, _, h => ⟨h.1, fun i hi => wpOp_mono (fun a' w' h' => wpAny_of_barr fuel _ a' w' h'.2) (h.2 i hi)⟩

theorem getD_far {l : Array Bool} {i k : Nat} (h : i ≠ k) : (l.setIfInBounds i true).getD k false = l.getD k false := getD_set_ne false h

/-- What yields in whatever world may be taken first. -/
theorem wpAnyB_first {i : Nat} {oi : Oper} {v : Value} (hik : i ≠ k) (hi : ops[i]? = some oi) (hsel : ∀ (j : Nat) (o : Oper) cs b, ops[j]? = some o → o.op ≠ .select cs b)
    (hQ : ∀ c a w, Q (.panic c) (a.put oi.dst v) w → Q (.panic c) a w) :
    ∀ (fuel : Nat) (listed : Array Bool) (a : Act) (w : World),
      (∀ j oj, ops[j]? = some oj → j ≠ i → listed.getD j true = false → (∀ e ∈ oj.after, Region.binds md e = true → e.on ≠ i) → oi.apart ops oj = true) →
      i ∈ Region.ready md ops listed → YieldsIf P ops (fun _ => True) oi v a → (listed.getD k false = true ∨ S w) →
      wpAnyB P md ops Q S k fuel (listed.setIfInBounds i true) (a.put oi.dst v) w → wpAnyB P md ops Q S k (fuel + 1) listed a w := by
  intro fuel
  induction fuel with
  | zero =>
    intro listed a w _ hr hy hS H
    refine ⟨fun h => (by rw [h] at hr; cases hr), fun j hj => ?_⟩
    by_cases hji : j = i
    · subst hji; exact hy.wpOp hi trivial ⟨by rw [getD_far hik]; exact hS, H⟩
    · have := ready_mono hj hji
      rw [H.1] at this
      cases this
  | succ fuel ih =>
    intro listed a w hfree hr hy hS H
    refine ⟨fun h => (by rw [h] at hr; cases hr), fun j hj => ?_⟩
    by_cases hji : j = i
    · subst hji; exact hy.wpOp hi trivial ⟨by rw [getD_far hik]; exact hS, H⟩
    · have h1 := H.2 j (ready_mono hj hji)
      obtain ⟨hjun, oj, hoj, hall⟩ := mem_ready.1 hj
      have hnot : ∀ e ∈ oj.after, Region.binds md e = true → e.on ≠ i := fun e he hb heq => by
        have h1 := hall e he hb
        have h0 := (mem_ready.1 hr).1
        rw [heq] at h1
        rcases Nat.lt_or_ge i listed.size with h' | h'
        · simp [h'] at h0 h1; rw [h0] at h1; cases h1
        · simp [Array.getElem?_eq_none h'] at h1
      have h2 := wpOp_putIf hoj (hfree j oj hoj hji hjun hnot) (fun cs b => hsel i oi cs b hi) (fun cs b => hsel j oj cs b hoj) hQ hy h1
      have hfree' : ∀ q ok, ops[q]? = some ok → q ≠ i → (listed.setIfInBounds j true).getD q true = false →
          (∀ e ∈ ok.after, Region.binds md e = true → e.on ≠ i) → oi.apart ops ok = true := fun q ok hk hki hun hno => by
        refine hfree q ok hk hki ?_ hno
        by_cases hjk : j = q
        · subst hjk; exact hjun
        · rw [getD_set_ne true hjk] at hun; exact hun
      refine wpOp_mono (fun a' w' h3 => ?_) h2
      have h4 : (listed.setIfInBounds j true).getD k false = true ∨ S w' := by
        have := h3.2.1
        rwa [Array.setIfInBounds_comm _ _ (Ne.symm hji), getD_far hik] at this
      refine ⟨h4, ih (listed.setIfInBounds j true) a' w' hfree' (ready_mono hr (Ne.symm hji)) h3.1 h4 ?_⟩
      rw [Array.setIfInBounds_comm _ _ hji]
      exact h3.2.2

/-- What yields in every world that meets S may be taken first, if number k waits for it. -/
theorem wpAnyB_firstS {i : Nat} {oi : Oper} {v : Value} (hik : i ≠ k) (hi : ops[i]? = some oi) (hsel : ∀ (j : Nat) (o : Oper) cs b, ops[j]? = some o → o.op ≠ .select cs b)
    (hw : ∃ ok, ops[k]? = some ok ∧ ∃ e ∈ ok.after, Region.binds md e = true ∧ e.on = i)
    (hQ : ∀ c a w, Q (.panic c) (a.put oi.dst v) w → Q (.panic c) a w) :
    ∀ (fuel : Nat) (listed : Array Bool) (a : Act) (w : World),
      (∀ j oj, ops[j]? = some oj → j ≠ i → listed.getD j true = false → (∀ e ∈ oj.after, Region.binds md e = true → e.on ≠ i) → oi.apart ops oj = true) →
      i ∈ Region.ready md ops listed → listed.getD k false = false → YieldsIf P ops S oi v a → S w →
      wpAnyB P md ops Q S k fuel (listed.setIfInBounds i true) (a.put oi.dst v) w → wpAnyB P md ops Q S k (fuel + 1) listed a w := by
  intro fuel
  induction fuel with
  | zero =>
    intro listed a w _ hr _ hy hS H
    refine ⟨fun h => (by rw [h] at hr; cases hr), fun j hj => ?_⟩
    by_cases hji : j = i
    · subst hji; exact hy.wpOp hi hS ⟨.inr hS, H⟩
    · have := ready_mono hj hji
      rw [H.1] at this
      cases this
  | succ fuel ih =>
    intro listed a w hfree hr hb hy hS H
    refine ⟨fun h => (by rw [h] at hr; cases hr), fun j hj => ?_⟩
    by_cases hji : j = i
    · subst hji; exact hy.wpOp hi hS ⟨.inr hS, H⟩
    · have h1 := H.2 j (ready_mono hj hji)
      obtain ⟨hjun, oj, hoj, hall⟩ := mem_ready.1 hj
      have hnot : ∀ e ∈ oj.after, Region.binds md e = true → e.on ≠ i := fun e he hb heq => by
        have h1 := hall e he hb
        have h0 := (mem_ready.1 hr).1
        rw [heq] at h1
        rcases Nat.lt_or_ge i listed.size with h' | h'
        · simp [h'] at h0 h1; rw [h0] at h1; cases h1
        · simp [Array.getElem?_eq_none h'] at h1
      have hjk0 : j ≠ k := by
        rintro rfl
        obtain ⟨ok, hk, e, he, hbd, hon⟩ := hw
        rw [hoj] at hk
        injection hk with hk
        subst hk
        exact hnot e he hbd hon
      have h2 := wpOp_putIf hoj (hfree j oj hoj hji hjun hnot) (fun cs b => hsel i oi cs b hi) (fun cs b => hsel j oj cs b hoj) hQ hy h1
      have hfree' : ∀ q ok, ops[q]? = some ok → q ≠ i → (listed.setIfInBounds j true).getD q true = false →
          (∀ e ∈ ok.after, Region.binds md e = true → e.on ≠ i) → oi.apart ops ok = true := fun q ok hk hki hun hno => by
        refine hfree q ok hk hki ?_ hno
        by_cases hjk : j = q
        · subst hjk; exact hjun
        · rw [getD_set_ne true hjk] at hun; exact hun
      refine wpOp_mono (fun a' w' h3 => ?_) h2
      have h4 : S w' := by
        rcases h3.2.1 with h | h
        · rw [getD_far hjk0, getD_far hik, hb] at h; cases h
        · exact h
      refine ⟨.inr h4, ih (listed.setIfInBounds j true) a' w' hfree' (ready_mono hr (Ne.symm hji)) (by rw [getD_far hjk0]; exact hb) h3.1 h4 ?_⟩
      rw [Array.setIfInBounds_comm _ _ hji]
      exact h3.2.2

/-- The moves: operation i, told by the list, is taken first; the load; the one that comes up; the end; the beginning. -/
theorem barr_take {l rest : List Oper} {o : Oper} {v : Value} {fuel : Nat} {listed : Array Bool} {a : Act} {w : World} (i : Nat) (hl : l.drop i = o :: rest) (hik : i ≠ k) (hs : Region.noSelect l.toArray = true) (hf : Region.free .any l.toArray listed i = true) (hr : (Region.ready .any l.toArray listed).contains i = true)
    (hQ : ∀ c a w, Q (.panic c) (a.put o.dst v) w → Q (.panic c) a w) (hy : YieldsIf P l.toArray (fun _ => True) o v a) (hS : listed.getD k false = true ∨ S w) (h : wpAnyB P .any l.toArray Q S k fuel (listed.setIfInBounds i true) (a.put o.dst v) w) : wpAnyB P .any l.toArray Q S k (fuel + 1) listed a w := by
  have hi : l.toArray[i]? = some o := by have := congrArg (fun x => x[0]?) hl; simpa [List.getElem?_drop] using this
  exact wpAnyB_first hik hi (Region.noSelect_spec hs) hQ fuel listed a w (Region.free_spec hi hf) (by simpa using hr) hy hS h
theorem barr_load {l rest : List Oper} {o : Oper} {v : Value} {fuel : Nat} {listed : Array Bool} {a : Act} {w : World} (i : Nat) (hl : l.drop i = o :: rest) (hik : i ≠ k) (hs : Region.noSelect l.toArray = true) (hf : Region.free .any l.toArray listed i = true) (hr : (Region.ready .any l.toArray listed).contains i = true)
    (hw : (l.toArray[k]?.map fun o => o.after.any fun e => Region.binds .any e && e.on == i) = some true) (hb : listed.getD k false = false)
    (hQ : ∀ c a w, Q (.panic c) (a.put o.dst v) w → Q (.panic c) a w) (hy : YieldsIf P l.toArray S o v a) (hS : S w) (h : wpAnyB P .any l.toArray Q S k fuel (listed.setIfInBounds i true) (a.put o.dst v) w) : wpAnyB P .any l.toArray Q S k (fuel + 1) listed a w := by
  have hi : l.toArray[i]? = some o := by have := congrArg (fun x => x[0]?) hl; simpa [List.getElem?_drop] using this
  refine wpAnyB_firstS hik hi (Region.noSelect_spec hs) ?_ hQ fuel listed a w (Region.free_spec hi hf) (by simpa using hr) hb hy hS h
  obtain ⟨ok, hk, hx⟩ := Option.map_eq_some_iff.1 hw
  obtain ⟨e, he, hx⟩ := Array.any_eq_true'.1 hx
  simp only [Bool.and_eq_true, beq_iff_eq] at hx
  exact ⟨ok, hk, e, he, hx.1, hx.2⟩
theorem barr_step {l rest : List Oper} {o : Oper} {fuel : Nat} {listed : Array Bool} {a : Act} {w : World} (i : Nat) (hl : l.drop i = o :: rest) (hr : Region.ready .any l.toArray listed = [i])
    (h : ∀ K' : Act → World → Prop, Shut (∀ a w, ((listed.setIfInBounds i true).getD k false = true ∨ S w) → wpAnyB P .any l.toArray Q S k fuel (listed.setIfInBounds i true) a w → K' a w) → if Region.wanted o (yielded l.toArray a.tmps) = true then Oper.wp P o a w K' Q else K' (a.put o.dst undef) w) : wpAnyB P .any l.toArray Q S k (fuel + 1) listed a w := by
  have hi : l.toArray[i]? = some o := by have := congrArg (fun x => x[0]?) hl; simpa [List.getElem?_drop] using this
  refine ⟨fun h0 => (by rw [hr] at h0; cases h0), fun j hj => ?_⟩
  rw [hr, List.mem_singleton] at hj
  subst hj
  exact wpOp_step hi (fun K' hK => h K' (fun a w hS hW => hK a w ⟨hS, hW⟩))
/-- Two that may come up next: either way. -/
theorem barr_two {l ri rj : List Oper} {oi oj : Oper} {fuel : Nat} {listed : Array Bool} {a : Act} {w : World} (i j : Nat) (hli : l.drop i = oi :: ri) (hlj : l.drop j = oj :: rj) (hr : Region.ready .any l.toArray listed = [i, j])
    (hi : ∀ K' : Act → World → Prop, Shut (∀ a w, ((listed.setIfInBounds i true).getD k false = true ∨ S w) → wpAnyB P .any l.toArray Q S k fuel (listed.setIfInBounds i true) a w → K' a w) → if Region.wanted oi (yielded l.toArray a.tmps) = true then Oper.wp P oi a w K' Q else K' (a.put oi.dst undef) w)
    (hj : ∀ K' : Act → World → Prop, Shut (∀ a w, ((listed.setIfInBounds j true).getD k false = true ∨ S w) → wpAnyB P .any l.toArray Q S k fuel (listed.setIfInBounds j true) a w → K' a w) → if Region.wanted oj (yielded l.toArray a.tmps) = true then Oper.wp P oj a w K' Q else K' (a.put oj.dst undef) w) : wpAnyB P .any l.toArray Q S k (fuel + 1) listed a w := by
  have ei : l.toArray[i]? = some oi := by have := congrArg (fun x => x[0]?) hli; simpa [List.getElem?_drop] using this
  have ej : l.toArray[j]? = some oj := by have := congrArg (fun x => x[0]?) hlj; simpa [List.getElem?_drop] using this
  refine ⟨fun h0 => (by rw [hr] at h0; cases h0), fun q hq => ?_⟩
  rw [hr] at hq
  rcases List.mem_cons.1 hq with rfl | hq
  · exact wpOp_step ei (fun K' hK => hi K' (fun a w hS hW => hK a w ⟨hS, hW⟩))
  · rw [List.mem_singleton] at hq
    subst hq
    exact wpOp_step ej (fun K' hK => hj K' (fun a w hS hW => hK a w ⟨hS, hW⟩))
/-- Three that may come up next. -/
theorem barr_three {l ri rj rm : List Oper} {oi oj om : Oper} {fuel : Nat} {listed : Array Bool} {a : Act} {w : World} (i j m : Nat) (hli : l.drop i = oi :: ri) (hlj : l.drop j = oj :: rj) (hlm : l.drop m = om :: rm) (hr : Region.ready .any l.toArray listed = [i, j, m])
    (hi : ∀ K' : Act → World → Prop, Shut (∀ a w, ((listed.setIfInBounds i true).getD k false = true ∨ S w) → wpAnyB P .any l.toArray Q S k fuel (listed.setIfInBounds i true) a w → K' a w) → if Region.wanted oi (yielded l.toArray a.tmps) = true then Oper.wp P oi a w K' Q else K' (a.put oi.dst undef) w)
    (hj : ∀ K' : Act → World → Prop, Shut (∀ a w, ((listed.setIfInBounds j true).getD k false = true ∨ S w) → wpAnyB P .any l.toArray Q S k fuel (listed.setIfInBounds j true) a w → K' a w) → if Region.wanted oj (yielded l.toArray a.tmps) = true then Oper.wp P oj a w K' Q else K' (a.put oj.dst undef) w)
    (hm : ∀ K' : Act → World → Prop, Shut (∀ a w, ((listed.setIfInBounds m true).getD k false = true ∨ S w) → wpAnyB P .any l.toArray Q S k fuel (listed.setIfInBounds m true) a w → K' a w) → if Region.wanted om (yielded l.toArray a.tmps) = true then Oper.wp P om a w K' Q else K' (a.put om.dst undef) w) : wpAnyB P .any l.toArray Q S k (fuel + 1) listed a w := by
  have ei : l.toArray[i]? = some oi := by have := congrArg (fun x => x[0]?) hli; simpa [List.getElem?_drop] using this
  have ej : l.toArray[j]? = some oj := by have := congrArg (fun x => x[0]?) hlj; simpa [List.getElem?_drop] using this
  have em : l.toArray[m]? = some om := by have := congrArg (fun x => x[0]?) hlm; simpa [List.getElem?_drop] using this
  refine ⟨fun h0 => (by rw [hr] at h0; cases h0), fun q hq => ?_⟩
  rw [hr] at hq
  rcases List.mem_cons.1 hq with rfl | hq
  · exact wpOp_step ei (fun K' hK => hi K' (fun a w hS hW => hK a w ⟨hS, hW⟩))
  rcases List.mem_cons.1 hq with rfl | hq
  · exact wpOp_step ej (fun K' hK => hj K' (fun a w hS hW => hK a w ⟨hS, hW⟩))
  · rw [List.mem_singleton] at hq
    subst hq
    exact wpOp_step em (fun K' hK => hm K' (fun a w hS hW => hK a w ⟨hS, hW⟩))
theorem barr_done {listed : Array Bool} {a : Act} {w : World} (hr : Region.ready md ops listed = []) (h : Q .normal a w) : ∀ fuel, wpAnyB P md ops Q S k fuel listed a w
  | 0 => ⟨hr, h⟩
  | _ + 1 => ⟨fun _ => h, by rw [hr]; simp⟩
theorem wp_region_barr {id : Nat} {l : List Oper} {a : Act} {w : World} (S : World → Prop) (k : Nat) (hm : P.follows .mixedOrders = true)
    (h : wpAnyB P .any l.toArray Q S k l.toArray.size (Array.replicate l.toArray.size false) a w.drew) : (Code.region id l.toArray true).wp P Q a w :=
  wp_region_any hm (wpAny_of_barr _ _ _ _ h)
end

section
variable {P : Program} {w : World}
/-- An append by an equation of its own, as one step of a region that draws. -/
theorem step_append_by {ops : Array Oper} {o : Oper} {a : Act} {K : Act → World → Prop} {Q : Exit → Act → World → Prop} {E : Prop} (hgd : o.guard = none) (s x : Operand) (t tx : TypeId)
    (ho : o.op = .call { callee := .builtin .append, args := #[s, x], argTypes := #[t, tx] }) (vs vx v' : Value) (w' : World) (hs : a.eval s = vs) (hx : a.eval x = vx) (hr : (Builtin.append_ #[t, tx] o.type #[vs, vx]).run P w = .ok v' w')
    (h : K (a.put o.dst v') w') : if Region.wanted o (yielded ops a.tmps) = true then Oper.wp P o a w K Q else E := by
  have hw : Region.wanted o (yielded ops a.tmps) = true := by simp [Region.wanted, hgd]
  rw [if_pos hw]
  unfold Oper.wp execOp
  simp only [ho, resolve, invoke, builtin, Sem.run_bind, Sem.run_pure, Result.andThen_ok, List.map_toArray, List.map_cons, List.map_nil, hs, hx, hr]
  exact h
end

section
variable {P : Program} {ops : Array Oper} {S : World → Prop}
/-- A part that is cut out, an element's place: by an equation of its own. -/
theorem yields_cut {o : Oper} {a : Act} (T : TypeId) (x : Operand) (lo hi mx : Option Operand) (v : Value) (ho : o.op = .slice T x lo hi mx) (hw : Region.wanted o (yielded ops a.tmps) = true) (vx : Value) (vl vh vm : Option Value) (hx : a.eval x = vx) (hl : lo.map a.eval = vl) (hh : hi.map a.eval = vh) (hm : mx.map a.eval = vm)
    (hr : ∀ w, (Instr.sliceAt T vx vl vh vm).run P w = .ok v w) : YieldsIf P ops S o v a :=
  .inl ⟨hw, fun w _ => by unfold execOp; simp only [ho, hx, hl, hh, hm, Sem.run_bind, Sem.run_pure, hr w, Result.andThen_ok]⟩
theorem yields_index {o : Oper} {a : Act} (T : TypeId) (x i : Operand) (v : Value) (ho : o.op = .indexAddr T x i) (hw : Region.wanted o (yielded ops a.tmps) = true) (vx vi : Value) (hx : a.eval x = vx) (hi : a.eval i = vi)
    (hr : ∀ w, (Instr.indexAt T vx vi).run P w = .ok v w) : YieldsIf P ops S o v a :=
  .inl ⟨hw, fun w _ => by unfold execOp; simp only [ho, hx, hi, Sem.run_bind, Sem.run_pure, hr w, Result.andThen_ok]⟩
end

section
variable {P : Program} {ops : Array Oper} {S : World → Prop} {w : World}
theorem yields_load {o : Oper} {a : Act} (T : TypeId) (x : Operand) (v : Value) (ho : o.op = .load T x) (hw : Region.wanted o (yielded ops a.tmps) = true) (vx : Value) (hx : a.eval x = vx)
    (hr : ∀ w, S w → (Instr.loadAt T vx).run P w = .ok v w) : YieldsIf P ops S o v a :=
  .inl ⟨hw, fun w hS => by unfold execOp; simp only [ho, hx, Sem.run_bind, Sem.run_pure, hr w hS, Result.andThen_ok]⟩
/-- A whole row stored, as one step of a region that draws. -/
theorem step_store_row {o : Oper} {a : Act} {K : Act → World → Prop} {Q : Exit → Act → World → Prop} {E : Prop} (hgd : o.guard = none) (ty : TypeId) (x y : Operand) (ho : o.op = .store ty x y)
    (g : Nat) (cells : Array Value) (hx : a.eval x = .pointer (some ⟨g, 0, none⟩)) (hy : a.eval y = .agg cells) (t : TypeId) (old : Array Value) (hg : w.heap[g]? = some (.cells old t (0, 0))) (hi : (P.info? ty).map (·.size) = some cells.size)
    (hold : old.size = cells.size) (h1 : cells.all (·.oneCell') = true) (h : K (a.put o.dst undef) (w.setRow g cells)) : if Region.wanted o (yielded ops a.tmps) = true then Oper.wp P o a w K Q else E := by
  have hw : Region.wanted o (yielded ops a.tmps) = true := by simp [Region.wanted, hgd]
  rw [if_pos hw]
  exact wp_store_row ty x y ho g cells hx hy t old hg hi hold h1 h
end

end Go.Proofs.Ytkaikekibmgmmaa

/- A call through a function value in a quiet region; the landed layer 3: more of something than there is. -/
import Derived.Test.YtkaikekibmgmmaaZc
import Derived.Test.YtkaikekibmgmmaaGe
namespace Go.Proofs.Ytkaikekibmgmmaa
open Go.RowKit
set_option linter.unusedVariables false

section
variable {P : Program} {ops : Array Oper} {C : World → Prop}
/-- A function that is a value is called. -/
theorem quiet_callv {Q : Act → Prop} {a : Act} {o : Oper} {rest : List Oper} (k : Nat) (f : Operand) (xs : Array Operand) (ts : Array TypeId) (args : Array Value) (v : Value) (hc : ∀ w, C w → Calls P k args w fun e w' => e = .returned v ∧ C w')
    (he : ∀ args w, (callFunc k args).run P w = .ok (.enter k args) w) (ho : o.op = .call { callee := .value f, args := xs, argTypes := ts }) (hf : a.eval f = .func (.func k) #[] #[]) (hx : xs.map a.eval = args)
    (hw : Region.wanted o (yielded ops a.tmps) = true) (h : wpQuiet P ops C Q rest (a.put o.dst v)) : wpQuiet P ops C Q (o :: rest) a := by
  unfold wpQuiet
  rw [if_pos hw]
  refine ⟨v, fun w hw' => ?_, h⟩
  have hr : (execOp a.eval o).run P w = .ok (.enter k args) w := by
    unfold execOp
    simp only [ho, resolve, hf, Deferred.ofValue, invoke, hx, Sem.run_bind, Sem.run_pure, Result.andThen_ok, Array.append_empty, Array.empty_append, he]
  unfold Oper.quietAt
  rw [hr]
  exact ⟨rfl, hc w hw'⟩
end

theorem load_mid {P : Program} {w : World} {b i : Nat} {cs : List Value} {ty : TypeId} {d : TypeDesc} (hr : w.rangeAt b i cs) (hu : P.underlying ty = some d) (hd : d.isRow = true) (hi : (P.info? ty).map (·.size) = some cs.length) : (Instr.loadAt ty (.pointer (some ⟨b, i, none⟩))).run P w = .ok (.agg cs.toArray) w := by
  simp only [Instr.loadAt, Instr.sureAddr, Sem.run_bind, Sem.run_pure, Result.andThen_ok, run_loadVar_mid w b i ty cs d hr hu hd hi]
theorem cl_three {a b c : Value} {i : Nat} {cs : Array Value} (h0 : cs[i]? = some a) (h1 : cs[i + 1]? = some b) (h2 : cs[i + 2]? = some c) : ∀ j v, [a, b, c][j]? = some v → cs[i + j]? = some v := by
  intro j v hj
  rcases j with _ | _ | _ | j
  · cases hj; exact h0
  · cases hj; exact h1
  · cases hj; exact h2
  · simp at hj
theorem cl_four {a b c d : Value} {i : Nat} {cs : Array Value} (h0 : cs[i]? = some a) (h1 : cs[i + 1]? = some b) (h2 : cs[i + 2]? = some c) (h3 : cs[i + 3]? = some d) : ∀ j v, [a, b, c, d][j]? = some v → cs[i + j]? = some v := by
  intro j v hj
  rcases j with _ | _ | _ | _ | j
  · cases hj; exact h0
  · cases hj; exact h1
  · cases hj; exact h2
  · cases hj; exact h3
  · simp at hj

theorem row_range {w : World} {B : Nat} {cs : Array Value} {t : TypeId} (h : Row w B cs t) (i : Nat) (l : List Value) (hl : ∀ j v, l[j]? = some v → cs[i + j]? = some v) : w.rangeAt B i l := fun j v hj => by
  rw [h.at_]
  exact hl j v hj

set_option maxHeartbeats 400000 in
theorem kOver3 (v u : V3) (w : World) : Calls Try.prog 28 #[.agg #[.int .i64 v.x, .int .i64 v.y, .int .i64 v.z], .agg #[.int .i64 u.x, .int .i64 u.y, .int .i64 u.z]] w (RetBelow (.bool (!Cf.fits v u)) w) := by
  have hc := fun w => kFits3 v u w
  have g0 := Lib.hid (two_below w (.cells #[.int .i64 v.x, .int .i64 v.y, .int .i64 v.z] 35) (.cells #[.int .i64 u.x, .int .i64 u.y, .int .i64 u.z] 35))
  have HC := Lib.hid hc
  clear hc
  go_enter Try.func28, Try.ntmps28
  go_wp2_with fail
  refine (HC.out _).mono ?_
  rintro er w1 ⟨rfl, b1⟩
  have G1 := Lib.hid (below_trans g0.out b1)
  clear b1
  go_wp2_with fail
  go_ret
  exact ⟨rfl, G1.out⟩

end Go.Proofs.Ytkaikekibmgmmaa

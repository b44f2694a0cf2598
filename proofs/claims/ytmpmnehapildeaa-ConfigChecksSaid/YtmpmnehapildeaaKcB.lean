/- The landed configuration: what one node, one host may be. -/
import Derived.Test.YtmpmnehapildeaaKcA
import Derived.Test.YtmpmnehapildeaaCfgA
namespace Go.Proofs.Ytmpmnehapildeaa
open Go.RowKit
set_option linter.unusedVariables false

theorem node_eql (w : World) (g h : Nd) : (binOp .eql 35 (.agg g.c) (.agg h.c)).run Try.prog w = .ok (.bool (decide (g = h))) w := by
  rw [run_eql_struct, node_eqlIn, Result.andThen_ok]

theorem kWithin (n a b : Int) (w : World) : Calls Try.prog 17 #[.int .i64 n, .int .i64 a, .int .i64 b] w fun e w' => e = .returned (.bool (decide (a ≤ n ∧ n ≤ b))) ∧ w = w' := by
  obtain ⟨F, hF⟩ : ∃ f, decide (a ≤ n ∧ n ≤ b) = f := ⟨_, rfl⟩
  have hf := Lib.hid hF
  rw [hF]
  clear hF
  by_cases h : a ≤ n
  · by_cases h2 : n ≤ b
    · have e := hf.out.symm.trans (decide_eq_true ⟨h, h2⟩)
      subst e
      go_enter Try.func17, Try.ntmps17
      go_wp2_with fail
      go_ret
      exact ⟨rfl, rfl⟩
    · have e := hf.out.symm.trans (decide_eq_false fun q => h2 q.2)
      subst e
      go_enter Try.func17, Try.ntmps17
      go_wp2_with fail
      go_ret
      exact ⟨rfl, rfl⟩
  · have e := hf.out.symm.trans (decide_eq_false fun q => h q.1)
    subst e
    go_enter Try.func17, Try.ntmps17
    go_wp2_with fail
    go_ret
    exact ⟨rfl, rfl⟩

theorem kMark (n : Int) (w : World) : Calls Try.prog 28 #[.int .i64 n] w fun e w' => e = .returned (.bool (decide (0 ≤ n ∧ n ≤ 100))) ∧ w = w' := by
  have C := Lib.hid fun w => kWithin n 0 100 w
  obtain ⟨F, hF⟩ : ∃ f, decide (0 ≤ n ∧ n ≤ 100) = f := ⟨_, rfl⟩
  rw [hF] at C ⊢
  clear hF
  go_enter Try.func28, Try.ntmps28
  go_wp2_with fail
  refine (C.out _).mono ?_
  rintro e w' ⟨rfl, rfl⟩
  go_wp2_with fail
  go_ret
  exact ⟨rfl, rfl⟩

/-- May node number i have the Parent p? -/
def Cf.okPar (p i : Int) : Bool := if i = 0 then decide (p = -1) else decide (0 ≤ p ∧ p ≤ i - 1)
theorem kParent (p i : Int) (h0 : 0 ≤ i) (h1 : i ≤ 9223372036854775807) (w : World) : Calls Try.prog 25 #[.int .i64 p, .int .i64 i] w fun e w' => e = .returned (.bool (Cf.okPar p i)) ∧ w = w' := by
  have C := Lib.hid fun w => kWithin p 0 (i - 1) w
  by_cases hi : i = 0
  · subst hi
    have e : Cf.okPar p 0 = (p == -1) := by unfold Cf.okPar; rw [if_pos rfl]; rfl
    rw [e]
    clear C e
    go_enter Try.func25, Try.ntmps25
    go_wp2_with fail
    go_ret
    exact ⟨rfl, rfl⟩
  · have e : Cf.okPar p i = decide (0 ≤ p ∧ p ≤ i - 1) := by unfold Cf.okPar; rw [if_neg hi]
    rw [e]
    obtain ⟨F, hF⟩ : ∃ f, decide (0 ≤ p ∧ p ≤ i - 1) = f := ⟨_, rfl⟩
    rw [hF] at C ⊢
    clear hF e
    have hw : IntKind.i64.wrap (i + -1) = i - 1 := by rw [IntKind.wrap_i64]; omega
    have hw' : IntKind.i64.wrap (i - 1) = i - 1 := by rw [IntKind.wrap_i64]; omega
    go_enter Try.func25, Try.ntmps25
    go_wp2_with fail
    refine (C.out _).mono ?_
    rintro e w' ⟨rfl, rfl⟩
    go_wp2_with fail
    go_ret
    exact ⟨rfl, rfl⟩

/-- A node with nothing but its Parent and its Weight. -/
def Cf.bareOf (x : Nd) : Nd := ⟨x.par, x.wt, Cf.z3, Cf.z3, Cf.z3⟩
theorem Cf.bare_iff (x : Nd) : decide (x = Cf.bareOf x) = (decide (x.nom = Cf.z3) && decide (x.bor = Cf.z3) && decide (x.lend = Cf.z3)) := by
  rw [Bool.eq_iff_iff]
  simp only [Bool.and_eq_true, decide_eq_true_eq, Nd.eq_iff, Cf.bareOf, true_and]
  constructor
  · rintro ⟨h1, h2, h3⟩; exact ⟨⟨h1, h2⟩, h3⟩
  · rintro ⟨⟨h1, h2⟩, h3⟩; exact ⟨h1, h2, h3⟩

set_option maxRecDepth 8000 in
theorem kBare (x : Nd) (w : World) : Calls Try.prog 27 #[.agg x.c] w (RetBelow (.bool (decide (x.nom = Cf.z3) && decide (x.bor = Cf.z3) && decide (x.lend = Cf.z3))) w) := by
  rw [← Cf.bare_iff]
  have q := fun w => node_eql w x (Cf.bareOf x)
  have qg := fun w (x y : Operand) (xs ys : Array Value) => node_guard w .eql x y xs ys
  obtain ⟨F, hF⟩ : ∃ f, decide (x = Cf.bareOf x) = f := ⟨_, rfl⟩
  rw [hF] at q ⊢
  obtain ⟨p, t, ⟨a0, a1, a2⟩, ⟨b0, b1, b2⟩, ⟨c0, c1, c2⟩⟩ := x
  simp only [Nd.c, Cf.bareOf, Cf.z3] at q ⊢
  clear hF
  go_enter Try.func27, Try.ntmps27
  go_wp2_with fail
  go_ret
  exact ⟨rfl, (Below.refl _ _).alloc (Nat.le_refl _) _⟩

end Go.Proofs.Ytmpmnehapildeaa

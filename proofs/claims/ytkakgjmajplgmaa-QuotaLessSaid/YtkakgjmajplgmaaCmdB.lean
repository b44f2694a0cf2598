/- The plain answer's tests of a configuration. -/
import Derived.Test.YtkakgjmajplgmaaCmdA
namespace Go.Proofs.Ytkakgjmajplgmaa
open Go.RowKit
set_option linter.unusedVariables false

/-- A node's amounts in a block that was just made. -/
theorem node_at (w : World) (cs : Array Value) (t u : TypeId) (ds : Array Value) (o : Nat) {a b c : Value} (h0 : cs[o]? = some a) (h1 : cs[o + 1]? = some b) (h2 : cs[o + 2]? = some c) : ((w.alloc (.cells cs t)).alloc (.cells ds u)).rangeAt w.heap.size o [a, b, c] :=
  range_kept (range_new w cs t o _ (three_at h0 h1 h2)) (by simp) ((Below.refl _ _).alloc (Nat.le_refl _) _)
theorem range_three {w : World} {b o : Nat} {a0 a1 a2 : Value} (h : w.rangeAt b o [a0, a1, a2]) : w.cell? ⟨b, o, none⟩ = some a0 ∧ w.cell? ⟨b, o + 1, none⟩ = some a1 ∧ w.cell? ⟨b, o + 2, none⟩ = some a2 := ⟨h 0 _ rfl, h 1 _ rfl, h 2 _ rfl⟩
theorem two_below (w : World) (a b : Obj) : Below w.heap.size w ((w.alloc a).alloc b) := ((Below.refl _ _).alloc (Nat.le_refl _) _).alloc (by simp) _

theorem okC_node {c : Cmd} {k : Nat} {x : Nd} (h : c.nodes[k]? = some x) (hx : Cm.okN x = false) : Cm.okC c = false := by
  have : c.nodes.all Cm.okN = false := by
    rw [List.all_eq_false]
    exact ⟨x, List.mem_of_getElem? h, by simp [hx]⟩
  simp [Cm.okC, this]
theorem okC_host {c : Cmd} {k : Nat} {x : Hs} (h : c.hosts[k]? = some x) (hx : Cm.okH x = false) : Cm.okC c = false := by
  have : c.hosts.all Cm.okH = false := by
    rw [List.all_eq_false]
    exact ⟨x, List.mem_of_getElem? h, by simp [hx]⟩
  simp [Cm.okC, this]
theorem okN_par {n : Nd} (h : ¬ (-1 ≤ n.par ∧ n.par ≤ 1099511627776)) : Cm.okN n = false := by
  have e : Cm.okP n.par = false := by unfold Cm.okP; exact decide_eq_false h
  simp [Cm.okN, e]
/-- All elements so far. -/
def Upto {α : Type} (o : α → Bool) (l : List α) (j : Int) : Prop := ∀ k : Nat, k < j.toNat → ∀ x, l[k]? = some x → o x = true
theorem Upto.zero {α : Type} (o : α → Bool) (l : List α) : Upto o l 0 := fun k hk => by simp at hk
theorem Upto.succ {α : Type} {o : α → Bool} {l : List α} {j : Int} {x : α} (h : Upto o l j) (h0 : 0 ≤ j) (hx : l[j.toNat]? = some x) (ho : o x = true) : Upto o l (j + 1) := by
  intro k hk y hy
  by_cases e : k = j.toNat
  · subst e
    rw [hx] at hy
    injection hy with hy
    rw [← hy]; exact ho
  · exact h k (by omega) y hy
theorem Upto.all {α : Type} {o : α → Bool} {l : List α} {j : Int} (h : Upto o l j) (hj : (l.length : Int) ≤ j) : l.all o = true := by
  rw [List.all_eq_true]
  intro x hx
  obtain ⟨k, hk, e⟩ := List.mem_iff_getElem.1 hx
  exact h k (by omega) x (by rw [List.getElem?_eq_getElem hk, e])

theorem node_len : (Try.prog.info? 42).map (·.size) = some 11 := by kernel_rfl
theorem host_len : (Try.prog.info? 62).map (·.size) = some 6 := by kernel_rfl

end Go.Proofs.Ytkakgjmajplgmaa

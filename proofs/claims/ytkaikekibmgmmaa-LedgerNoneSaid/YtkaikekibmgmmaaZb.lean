/- KcA KcB KcD KqF KcL KcG: joined. -/
import Derived.Test.YtkaikekibmgmmaaZa
import Derived.Test.YtkaikekibmgmmaaGd
import Derived.Test.YtkaikekibmgmmaaCfgA
import Derived.Test.YtkaikekibmgmmaaGe
import Derived.Test.YtkaikekibmgmmaaGc
namespace Go.Proofs.Ytkaikekibmgmmaa
open Go.RowKit
set_option linter.unusedVariables false

namespace Kc

set_option maxHeartbeats 400000 in
theorem validOne_any (r : Nat) (hr : r < 3) (A F : Nat) (x : Int) (b : Bool) (w : World) (hF : w.cell? ⟨F, 0, none⟩ = some (.bool b)) (hf : w.frozen? ⟨F, 0, none⟩ = false) (hA : w.cell? ⟨A, r, none⟩ = some (.int .i64 x)) :
    Calls Try.prog 42 #[.int .i64 (r : Int), .pointer (some ⟨F, 0, none⟩), .pointer (some ⟨A, 0, none⟩)] w fun e w' => e = .returned (.tuple #[]) ∧ w' = w.setCell ⟨F, 0, none⟩ (.bool (b && (decide (0 ≤ x) && decide (x ≤ 1048576)))) := by
  have r3 : (r : Int) < 3 := by omega
  cases b
  · go_enter Try.func42, Try.ntmps42
    go_wp2
    go_end0
    exact ⟨rfl, rfl⟩
  · by_cases h : 0 ≤ x
    · have e1 : decide (0 ≤ x) = true := decide_eq_true h
      rw [e1]
      go_enter Try.func42, Try.ntmps42
      go_wp2
      go_end0
      exact ⟨rfl, rfl⟩
    · have e1 : decide (0 ≤ x) = false := decide_eq_false h
      rw [e1]
      go_enter Try.func42, Try.ntmps42
      go_wp2
      go_end0
      exact ⟨rfl, rfl⟩

set_option maxHeartbeats 400000 in
theorem fitsOne_any (r : Nat) (hr : r < 3) (A B F : Nat) (x y : Int) (b : Bool) (w : World) (hF : w.cell? ⟨F, 0, none⟩ = some (.bool b)) (hf : w.frozen? ⟨F, 0, none⟩ = false) (hA : w.cell? ⟨A, r, none⟩ = some (.int .i64 x)) (hB : w.cell? ⟨B, r, none⟩ = some (.int .i64 y)) :
    Calls Try.prog 55 #[.int .i64 (r : Int), .pointer (some ⟨F, 0, none⟩), .pointer (some ⟨A, 0, none⟩), .pointer (some ⟨B, 0, none⟩)] w fun e w' => e = .returned (.tuple #[]) ∧ w' = w.drew.setCell ⟨F, 0, none⟩ (.bool (b && decide (x ≤ y))) := by
  have r3 : (r : Int) < 3 := by omega
  cases b
  · go_enter Try.func55, Try.ntmps55
    go_wp2_with fail
    refine wp_region_still_tail 10 (by kernel_rfl) (by kernel_rfl) ?_
    simp only [List.take_succ_cons, List.take_zero, List.drop_succ_cons, List.drop_zero]
    repeat (first | (with_reducible refine still_skip ?_ ?_; (focus (simp [Region.wanted, yielded]; done)); simp only [Act.put, List.setIfInBounds_toArray, List.set_cons_zero, List.set_cons_succ]) | (with_reducible refine wpStill_step (fun K hK => ?_); go_simp; (first | ((with_reducible refine hK _ ?_); clear hK K))))
    refine wpStill_nil ?_
    change wpList _ _ _ _ _ w.drew
    go_wp2
    go_end0
    exact ⟨rfl, rfl⟩
  · go_enter Try.func55, Try.ntmps55
    go_wp2_with fail
    refine wp_region_still_tail 10 (by kernel_rfl) (by kernel_rfl) ?_
    simp only [List.take_succ_cons, List.take_zero, List.drop_succ_cons, List.drop_zero]
    repeat (first | (with_reducible refine still_skip ?_ ?_; (focus (simp [Region.wanted, yielded]; done)); simp only [Act.put, List.setIfInBounds_toArray, List.set_cons_zero, List.set_cons_succ]) | (with_reducible refine wpStill_step (fun K hK => ?_); go_simp; (first | ((with_reducible refine hK _ ?_); clear hK K))))
    refine wpStill_nil ?_
    change wpList _ _ _ _ _ w.drew
    go_wp2
    go_end0
    exact ⟨rfl, rfl⟩

/-- Behind the walk over all resources: the newest block is c. -/
def Drawn (V : World) (c : Array Value) (t : Nat) (e : Ending) (w' : World) : Prop := e = .returned (.tuple #[]) ∧ ∃ n, w' = (V.alloc (.cells c t)).drewN n

/-- All resources, where each walk only turns the newest block. -/
theorem each_on (k : Nat) (cap : Array Value) (V : World) (row : Nat → Array Value) (t : Nat) (hk : Enters k cap)
    (hc : ∀ r n : Nat, r < 3 → Calls Try.prog k (#[.int .i64 (r : Int)] ++ cap) ((V.alloc (.cells (row r) t)).drewN n) (Drawn V (row (r + 1)) t)) :
    Calls Try.prog 41 #[.func (.func k) #[] cap] (V.alloc (.cells (row 0) t)) (Drawn V (row 3) t) := by
  refine (each_any k cap hk (fun r w => ∃ n, w = (V.alloc (.cells (row r) t)).drewN n) (fun r hr w hI => ?_) _ ⟨0, rfl⟩).mono fun e w' h => h
  obtain ⟨n, rfl⟩ := hI
  exact (hc r n hr).mono fun e w' h => h

theorem step_bool (V : World) (t : Nat) (n : Nat) (a b : Value) : (((V.alloc (.cells #[a] t)).drewN n).setCell ⟨V.heap.size, 0, none⟩ b) = (V.alloc (.cells #[b] t)).drewN n := by
  have h := World.setCell_alloc_at (w := V) #[a] t V.heap.size 0 b rfl
  show ((V.alloc _).setCell _ _).drewN n = _
  rw [h]
  rfl

theorem each_fits (A B : Nat) (a b : V3) (V : World) (S : Nat) (hS : V.heap.size = S) (hA : A < V.heap.size) (hB : B < V.heap.size) (ca : ∀ r : Nat, r < 3 → V.cell? ⟨A, r, none⟩ = some (.int .i64 (a.at_ r))) (cb : ∀ r : Nat, r < 3 → V.cell? ⟨B, r, none⟩ = some (.int .i64 (b.at_ r))) :
    Calls Try.prog 41 #[.func (.func 55) #[] #[.pointer (some ⟨S, 0, none⟩), .pointer (some ⟨A, 0, none⟩), .pointer (some ⟨B, 0, none⟩)]] (V.alloc (.cells #[.bool true] 4)) (Drawn V #[.bool (Cf.fits a b)] 4) := by
  subst hS
  refine each_on _ _ V (fun r => #[.bool (Cf.fitsTo a b r)]) 4 (fun _ _ => rfl) (fun r n hr => ?_)
  refine (fitsOne_any r hr A B V.heap.size (a.at_ r) (b.at_ r) (Cf.fitsTo a b r) _ (top_cell V _ n _) (top_free V _ _ n _) (old_cell V _ n _ _ hA (ca r hr)) (old_cell V _ n _ _ hB (cb r hr))).mono ?_
  rintro e w' ⟨rfl, rfl⟩
  exact ⟨rfl, n + 1, step_bool V _ (n + 1) _ _⟩

theorem each_valid (A : Nat) (a : V3) (V : World) (S : Nat) (hS : V.heap.size = S) (hA : A < V.heap.size) (ca : ∀ r : Nat, r < 3 → V.cell? ⟨A, r, none⟩ = some (.int .i64 (a.at_ r))) :
    Calls Try.prog 41 #[.func (.func 42) #[] #[.pointer (some ⟨S, 0, none⟩), .pointer (some ⟨A, 0, none⟩)]] (V.alloc (.cells #[.bool true] 4)) (Drawn V #[.bool (Cf.valid a)] 4) := by
  subst hS
  refine each_on _ _ V (fun r => #[.bool (Cf.validTo a r)]) 4 (fun _ _ => rfl) (fun r n hr => ?_)
  refine (validOne_any r hr A V.heap.size (a.at_ r) (Cf.validTo a r) _ (top_cell V _ n _) (top_free V _ _ n _) (old_cell V _ n _ _ hA (ca r hr))).mono ?_
  rintro e w' ⟨rfl, rfl⟩
  exact ⟨rfl, n, step_bool V _ n _ _⟩

end Kc

set_option maxHeartbeats 400000 in
theorem kFits3 (v u : V3) (w : World) : Calls Try.prog 43 #[.agg #[.int .i64 v.x, .int .i64 v.y, .int .i64 v.z], .agg #[.int .i64 u.x, .int .i64 u.y, .int .i64 u.z]] w (RetBelow (.bool (Cf.fits v u)) w) := by
  have hmf : ∀ (fn : Fn) (first cap : Array Value) (w : World), (Instr.makeFunc fn first cap).run Try.prog w = .ok (.func fn first cap) w := fun _ _ _ _ => rfl
  have ca := cells_three ((Holds.new w #[.int .i64 v.x, .int .i64 v.y, .int .i64 v.z] 35).kept (by simp) ((Below.refl _ _).alloc (Nat.le_refl _) (.cells #[.int .i64 u.x, .int .i64 u.y, .int .i64 u.z] 35)))
  have cb := cells_three (Holds.new (w.alloc (.cells #[.int .i64 v.x, .int .i64 v.y, .int .i64 v.z] 35)) #[.int .i64 u.x, .int .i64 u.y, .int .i64 u.z] 35)
  rw [World.size_alloc] at cb
  have CA := Lib.hid ca; have CB := Lib.hid cb
  clear ca cb
  go_enter Try.func43, Try.ntmps43
  go_wp2_with fail
  refine (Kc.each_fits w.heap.size (w.heap.size + 1) v u
    ((w.alloc (.cells #[.int .i64 v.x, .int .i64 v.y, .int .i64 v.z] 35)).alloc (.cells #[.int .i64 u.x, .int .i64 u.y, .int .i64 u.z] 35))
    (w.heap.size + 1 + 1) (by simp) (by simp; omega) (by simp) CA.out CB.out).mono ?_
  rintro e w' ⟨rfl, n, rfl⟩
  go_wp2_with fail
  go_ret
  exact ⟨rfl, below_drewN (Below.alloc (two_below _ _ _) (two_below _ _ _).size _) n⟩

set_option maxHeartbeats 400000 in
theorem kValid3 (v : V3) (w : World) : Calls Try.prog 27 #[.agg #[.int .i64 v.x, .int .i64 v.y, .int .i64 v.z]] w (RetBelow (.bool (Cf.valid v)) w) := by
  have hmf : ∀ (fn : Fn) (first cap : Array Value) (w : World), (Instr.makeFunc fn first cap).run Try.prog w = .ok (.func fn first cap) w := fun _ _ _ _ => rfl
  have ca := cells_three (Holds.new w #[.int .i64 v.x, .int .i64 v.y, .int .i64 v.z] 35)
  have CA := Lib.hid ca
  clear ca
  go_enter Try.func27, Try.ntmps27
  go_wp2_with fail
  refine (Kc.each_valid w.heap.size v (w.alloc (.cells #[.int .i64 v.x, .int .i64 v.y, .int .i64 v.z] 35))
    (w.heap.size + 1) (by simp) (by simp) CA.out).mono ?_
  rintro e w' ⟨rfl, n, rfl⟩
  go_wp2_with fail
  go_ret
  exact ⟨rfl, below_drewN (two_below _ _ _) n⟩

end Go.Proofs.Ytkaikekibmgmmaa
namespace Go.Proofs.Ytkaikekibmgmmaa
open Go.RowKit
set_option linter.unusedVariables false

theorem node_eql (w : World) (g h : Nd) : (binOp .eql 60 (.agg g.c) (.agg h.c)).run Try.prog w = .ok (.bool (decide (g = h))) w := by
  rw [run_eql_struct, node_eqlIn, Result.andThen_ok]

theorem kWithin (n a b : Int) (w : World) : Calls Try.prog 57 #[.int .i64 n, .int .i64 a, .int .i64 b] w fun e w' => e = .returned (.bool (decide (a ≤ n ∧ n ≤ b))) ∧ w = w' := by
  obtain ⟨F, hF⟩ : ∃ f, decide (a ≤ n ∧ n ≤ b) = f := ⟨_, rfl⟩
  have hf := Lib.hid hF
  rw [hF]
  clear hF
  by_cases h : a ≤ n
  · by_cases h2 : n ≤ b
    · have e := hf.out.symm.trans (decide_eq_true ⟨h, h2⟩)
      subst e
      go_enter Try.func57, Try.ntmps57
      go_wp2_with fail
      go_ret
      exact ⟨rfl, rfl⟩
    · have e := hf.out.symm.trans (decide_eq_false fun q => h2 q.2)
      subst e
      go_enter Try.func57, Try.ntmps57
      go_wp2_with fail
      go_ret
      exact ⟨rfl, rfl⟩
  · have e := hf.out.symm.trans (decide_eq_false fun q => h q.1)
    subst e
    go_enter Try.func57, Try.ntmps57
    go_wp2_with fail
    go_ret
    exact ⟨rfl, rfl⟩

/-- A node with nothing but its Parent and its Weight. -/
def Cf.bareOf (x : Nd) : Nd := ⟨x.par, x.wt, Cf.z3, Cf.z3, Cf.z3⟩
theorem Cf.bare_iff (x : Nd) : decide (x = Cf.bareOf x) = (decide (x.nom = Cf.z3) && decide (x.bor = Cf.z3) && decide (x.lend = Cf.z3)) := by
  rw [Bool.eq_iff_iff]
  simp only [Bool.and_eq_true, decide_eq_true_eq, Nd.eq_iff, Cf.bareOf, true_and]
  constructor
  · rintro ⟨h1, h2, h3⟩; exact ⟨⟨h1, h2⟩, h3⟩
  · rintro ⟨⟨h1, h2⟩, h3⟩; exact ⟨h1, h2, h3⟩

end Go.Proofs.Ytkaikekibmgmmaa
namespace Go.Proofs.Ytkaikekibmgmmaa
open Go.RowKit
set_option linter.unusedVariables false

/-- A row of answers. -/
def bcells (l : List Bool) : Array Value := (l.map Value.bool).toArray
theorem bcells_at (l : List Bool) (i : Nat) : (bcells l)[i]? = (l[i]?).map Value.bool := by simp [bcells]
theorem bcells_set (l : List Bool) (i : Nat) (b : Bool) : (bcells l).setIfInBounds i (.bool b) = bcells (l.set i b) := by
  unfold bcells
  rw [List.setIfInBounds_toArray, List.map_set]

namespace Cf
/-- Of each node: is it a Parent of one of the first j? -/
def parTo (ns : List Nd) (j : Nat) : List Bool := (List.range ns.length).map fun k : Nat => (ns.take j).any fun x => decide (x.par = (k : Int))
theorem parTo_len (ns : List Nd) (j : Nat) : (parTo ns j).length = ns.length := by simp [parTo]
theorem parTo_zero (ns : List Nd) : parTo ns 0 = List.replicate ns.length false := by
  unfold parTo
  have h : (fun k : Nat => (ns.take 0).any fun x => decide (x.par = (k : Int))) = fun _ => false := by funext k; simp
  rw [h, List.map_const', List.length_range]
theorem parTo_at (ns : List Nd) (j k : Nat) (h : k < ns.length) : (parTo ns j)[k]? = some ((ns.take j).any fun x => decide (x.par = (k : Int))) := by
  rw [parTo, List.getElem?_map, List.getElem?_range h, Option.map_some]
theorem take_snoc {ns : List Nd} {j : Nat} {x : Nd} (hx : ns[j]? = some x) : ns.take (j + 1) = ns.take j ++ [x] := by rw [List.take_add_one, hx]; rfl
theorem parTo_set {ns : List Nd} {j k : Nat} {x : Nd} (hx : ns[j]? = some x) (hk : x.par = (k : Int)) (hl : k < ns.length) : (parTo ns j).set k true = parTo ns (j + 1) := by
  apply List.ext_getElem?
  intro i
  rw [List.getElem?_set, parTo_len]
  rcases Nat.lt_or_ge i ns.length with q | q
  · rw [parTo_at ns (j + 1) i q, parTo_at ns j i q, take_snoc hx]
    by_cases e : k = i
    · subst e
      rw [if_pos rfl, if_pos hl]
      simp [hk]
    · rw [if_neg e]
      have : ¬ x.par = (i : Int) := by omega
      simp [this]
  · rw [List.getElem?_eq_none (by rw [parTo_len]; exact q), List.getElem?_eq_none (by rw [parTo_len]; exact q)]
    by_cases e : k = i
    · omega
    · rw [if_neg e]
theorem parTo_out {ns : List Nd} {j : Nat} {x : Nd} (hx : ns[j]? = some x) (hk : ¬ (0 ≤ x.par ∧ x.par ≤ (ns.length : Int) - 1)) : parTo ns j = parTo ns (j + 1) := by
  apply List.ext_getElem?
  intro i
  rcases Nat.lt_or_ge i ns.length with q | q
  · rw [parTo_at ns (j + 1) i q, parTo_at ns j i q, take_snoc hx]
    have : ¬ x.par = (i : Int) := by omega
    simp [this]
  · rw [List.getElem?_eq_none (by rw [parTo_len]; exact q), List.getElem?_eq_none (by rw [parTo_len]; exact q)]
/-- Of each node: is it a Parent? -/
def pars (ns : List Nd) : List Bool := parTo ns ns.length
theorem pars_len (ns : List Nd) : (pars ns).length = ns.length := parTo_len _ _
theorem pars_at (ns : List Nd) (k : Nat) (h : k < ns.length) : (pars ns)[k]? = some (!leaf ns (k : Int)) := by
  rw [pars, parTo_at ns _ k h, List.take_length]
  congr 1
  rw [leaf, decide_eq_true (by omega), Bool.true_and]
  induction ns with
  | nil => rfl
  | cons x l ih =>
    clear ih h
    rw [Bool.eq_iff_iff]
    simp
end Cf

/-- The answers so far. -/
structure PaTo (ns : List Nd) (w : World) (j : Int) (wr : World) : Prop where
  row : Row wr w.heap.size (bcells (Cf.parTo ns j.toNat)) 4
  low : Below w.heap.size w wr

end Go.Proofs.Ytkaikekibmgmmaa
namespace Go.Proofs.Ytkaikekibmgmmaa
open Go Go.RowKit
set_option linter.unusedVariables false

namespace Qt
/-- Of the first j nodes: does n stand on its path? -/
def hasTo (ns : List Nd) (n : Int) (j : Nat) : List Bool := (List.range ns.length).map fun k : Nat => decide (k < j) && on ns n (k : Int)
theorem hasTo_len (ns : List Nd) (n : Int) (j : Nat) : (hasTo ns n j).length = ns.length := by simp [hasTo]
theorem hasTo_zero (ns : List Nd) (n : Int) : hasTo ns n 0 = List.replicate ns.length false := by
  unfold hasTo
  have h : (fun k : Nat => decide (k < 0) && on ns n (k : Int)) = fun _ => false := by funext k; simp
  rw [h, List.map_const', List.length_range]
theorem hasTo_at (ns : List Nd) (n : Int) (j k : Nat) (h : k < ns.length) : (hasTo ns n j)[k]? = some (decide (k < j) && on ns n (k : Int)) := by
  rw [hasTo, List.getElem?_map, List.getElem?_range h, Option.map_some]
theorem hasTo_set (ns : List Nd) (n : Int) (j : Nat) (h : j < ns.length) : (hasTo ns n j).set j (on ns n (j : Int)) = hasTo ns n (j + 1) := by
  apply List.ext_getElem?
  intro i
  rw [List.getElem?_set, hasTo_len]
  rcases Nat.lt_or_ge i ns.length with q | q
  · rw [hasTo_at ns n (j + 1) i q, hasTo_at ns n j i q]
    by_cases e : j = i
    · subst e
      rw [if_pos rfl, if_pos h, decide_eq_true (by omega : j < j + 1), Bool.true_and]
    · rw [if_neg e]
      by_cases e2 : i < j
      · rw [decide_eq_true e2, decide_eq_true (by omega : i < j + 1)]
      · rw [decide_eq_false e2, decide_eq_false (by omega : ¬ i < j + 1)]
  · rw [List.getElem?_eq_none (by rw [hasTo_len]; exact q), List.getElem?_eq_none (by rw [hasTo_len]; exact q)]
    by_cases e : j = i
    · omega
    · rw [if_neg e]
end Qt

structure HsSo (ns : List Nd) (n : Int) (w : World) (C4 : Array Value) (j : Int) (wr : World) : Prop where
  row : Row wr (w.heap.size + 1) (bcells (Qt.hasTo ns n j.toNat)) 4
  box : Row wr w.heap.size C4 25
  low : Below w.heap.size w wr

end Go.Proofs.Ytkaikekibmgmmaa
namespace Go.Proofs.Ytkaikekibmgmmaa
open Go.RowKit
set_option linter.unusedVariables false

theorem kChild (x : Nd) (b : Nat) (n : Int) (w : World) (hb : w.cell? ⟨b, 0, none⟩ = some (.int .i64 n)) (hl : b < w.heap.size) : Calls Try.prog 56 #[.agg x.c, .pointer (some ⟨b, 0, none⟩)] w (RetBelow (.bool (x.par == n)) w) := by
  obtain ⟨p, t, ⟨a0, a1, a2⟩, ⟨b0, b1, b2⟩, ⟨c0, c1, c2⟩⟩ := x
  simp only [Nd.c]
  have hb2 : (w.alloc (.cells #[.int .i64 p, .int .i64 t, .int .i64 a0, .int .i64 a1, .int .i64 a2, .int .i64 b0, .int .i64 b1, .int .i64 b2, .int .i64 c0, .int .i64 c1, .int .i64 c2] 60)).cell? ⟨b, 0, none⟩ = some (.int .i64 n) := (World.cell?_alloc_past (w := w) _ _ _ hl).trans hb
  go_enter Try.func56, Try.ntmps56
  go_wp2_with fail
  go_ret
  exact ⟨rfl, (Below.refl _ _).alloc (Nat.le_refl _) _⟩

/-- No node so far has the Parent n. -/
theorem kIndexFunc (ns : List Nd) (an : Option Addr) (cn nb no b : Nat) (n : Int) (w : World) (hN : Sl Nd.c 22 11 w an cn nb no ns) (hb : w.cell? ⟨b, 0, none⟩ = some (.int .i64 n)) (hl : b < w.heap.size) :
    Calls Try.prog 61 #[.slice an ns.length cn, .func (.func 56) #[] #[.pointer (some ⟨b, 0, none⟩)]] w fun e w' => ∃ v : Int, e = .returned (.int .i64 v) ∧ decide (0 ≤ v) = !(ns.all fun x => decide (x.par ≠ n)) ∧ Below w.heap.size w w' := by
  obtain ⟨F, hF⟩ : ∃ f, (ns.all fun x => decide (x.par ≠ n)) = f := ⟨_, rfl⟩
  have hno : ∀ (k : Nat) x, ns[k]? = some x → x.par = n → F = false := fun k x hx e => by
    rw [← hF, List.all_eq_false]
    exact ⟨x, List.mem_of_getElem? hx, by simp [e]⟩
  have hyes : Upto (fun x => decide (x.par ≠ n)) ns (ns.length : Int) → F = true := fun u => by rw [← hF, u.all (Int.le_refl _)]
  rw [hF]
  have hNi := hN.idx
  have n63 := hN.small
  have he : ∀ args wr, (callFunc 56 args).run Try.prog wr = .ok (.enter 56 args) wr := fun _ _ => rfl
  obtain ⟨nl, hnl⟩ : ∃ n, ns.length = n := ⟨_, rfl⟩
  rw [hnl] at hNi n63 hyes ⊢
  obtain ⟨zn, hzn⟩ : ∃ z : Int, (nl : Int) = z := ⟨_, rfl⟩
  rw [hzn] at hyes
  have HNI := Lib.hid hNi; have HN := Lib.hid hN; have HL := Lib.hid hnl; have HNO := Lib.hid hno; have HY := Lib.hid hyes; have HB := Lib.hid hb; have LB := Lib.hid hl
  clear hNi hN hnl hno hyes hF hb hl
  go_enter Try.func61, Try.ntmps61
  go_wp2_with fail
  go_loopw [8] (fun i wr => ∃ (j : Int), i = .int .i64 j ∧ 0 ≤ j ∧ j ≤ zn ∧ Hid (Upto (fun x => decide (x.par ≠ n)) ns j ∧ Below w.heap.size w wr)) (fun i _ => (zn - intOf i).toNat)
  case atStart => exact ⟨0, rfl, by omega, by omega, Upto.zero _ _, Below.refl _ _⟩
  case round =>
    obtain ⟨j, rfl, hj0, hjz, hd⟩ := hrel
    by_cases hlt : j < zn
    · obtain ⟨x, hx⟩ : ∃ x, ns[j.toNat]? = some x := ⟨_, List.getElem?_eq_getElem (by have := HL.out; omega)⟩
      have hi := HNI.out j.toNat (by omega)
      rw [show ((j.toNat : Nat) : Int) = j by omega] at hi
      have hr := (HN.out.kept hd.out.2).at_ j.toNat x hx
      have hcc := fun w => kChild x b n w
      obtain ⟨oi, hoi⟩ : ∃ n, no + j.toNat * 11 = n := ⟨_, rfl⟩
      rw [hoi] at hi hr
      have e1 := fun h => HNO.out j.toNat x hx h
      have e2 := fun h => hd.out.1.succ hj0 hx h
      obtain ⟨p, t, ⟨a0, a1, a2⟩, ⟨b0, b1, b2⟩, ⟨c0, c1, c2⟩⟩ := x
      simp only [Nd.c] at hr e1 e2 hcc
      have CC := Lib.hid (hcc wr ((hd.out.2.cell (p := ⟨b, 0, none⟩) LB.out).trans HB.out) (Nat.lt_of_lt_of_le LB.out hd.out.2.size))
      have G := Lib.hid hd.out.2; have E1 := Lib.hid e1; have E2 := Lib.hid e2
      have f0 : wr.cell? ⟨nb, oi, none⟩ = some (.int .i64 p) := hr 0 _ rfl
      have f1 : wr.cell? ⟨nb, oi + 1, none⟩ = some (.int .i64 t) := hr 1 _ rfl
      have f2 : wr.cell? ⟨nb, oi + 2, none⟩ = some (.int .i64 a0) := hr 2 _ rfl
      have f3 : wr.cell? ⟨nb, oi + 3, none⟩ = some (.int .i64 a1) := hr 3 _ rfl
      have f4 : wr.cell? ⟨nb, oi + 4, none⟩ = some (.int .i64 a2) := hr 4 _ rfl
      have f5 : wr.cell? ⟨nb, oi + 5, none⟩ = some (.int .i64 b0) := hr 5 _ rfl
      have f6 : wr.cell? ⟨nb, oi + 6, none⟩ = some (.int .i64 b1) := hr 6 _ rfl
      have f7 : wr.cell? ⟨nb, oi + 7, none⟩ = some (.int .i64 b2) := hr 7 _ rfl
      have f8 : wr.cell? ⟨nb, oi + 8, none⟩ = some (.int .i64 c0) := hr 8 _ rfl
      have f9 : wr.cell? ⟨nb, oi + 9, none⟩ = some (.int .i64 c1) := hr 9 _ rfl
      have f10 : wr.cell? ⟨nb, oi + 10, none⟩ = some (.int .i64 c2) := hr 10 _ rfl
      clear hr hx hoi hcc e1 e2 hd
      go_wp2_with fail
      refine CC.out.mono ?_
      rintro er w2 ⟨rfl, b2⟩
      have G2 := Lib.hid (below_trans G.out b2)
      clear b2 f0 f1 f2 f3 f4 f5 f6 f7 f8 f9 f10
      by_cases e : p = n
      · have hf := E1.out e
        subst hf
        have eb : (p == n) = true := by simpa using e
        rw [eb]
        clear eb e
        go_wp2_with fail
        go_ret
        exact ⟨j, rfl, by rw [decide_eq_true hj0]; rfl, G2.out⟩
      · have hf := E2.out (by simpa using e)
        have HF := Lib.hid hf
        have eb : (p == n) = false := by simpa using e
        rw [eb]
        clear eb e hf
        go_wp2_with fail
        go_roundw
        case rel => exact ⟨j + 1, rfl, by omega, by omega, HF.out, G2.out⟩
        case measure => simp [intOf]; omega
    · have hf := HY.out (by rw [show zn = j by omega]; exact hd.out.1)
      subst hf
      have G2 := Lib.hid hd.out.2
      clear hd
      go_wp2_with fail
      go_ret
      exact ⟨-1, rfl, by simp, G2.out⟩

theorem kContains (ns : List Nd) (an : Option Addr) (cn nb no b : Nat) (n : Int) (w : World) (hN : Sl Nd.c 22 11 w an cn nb no ns) (hb : w.cell? ⟨b, 0, none⟩ = some (.int .i64 n)) (hl : b < w.heap.size) :
    Calls Try.prog 58 #[.slice an ns.length cn, .func (.func 56) #[] #[.pointer (some ⟨b, 0, none⟩)]] w (RetBelow (.bool (!(ns.all fun x => decide (x.par ≠ n)))) w) := by
  have C := Lib.hid (kIndexFunc ns an cn nb no b n w hN hb hl)
  clear hN hb hl
  go_enter Try.func58, Try.ntmps58
  go_wp2_with fail
  refine C.out.mono ?_
  rintro er w1 ⟨v, rfl, hv, b1⟩
  have HV := Lib.hid hv; have B1 := Lib.hid b1
  clear hv b1 C
  go_wp2_with fail
  go_ret
  exact ⟨by rw [← HV.out]; rfl, B1.out⟩

set_option maxHeartbeats 400000 in
theorem kLeaf (c : Cmd) (vn vh : Value) (n : Int) (w : World) (hn64 : In64 n) (h300 : c.nodes.length ≤ 300) (h : CmAt c vn vh w) : Calls Try.prog 44 #[.agg (c.f vn vh), .int .i64 n] w (RetBelow (.bool (Cf.leaf c.nodes n)) w) := by
  obtain ⟨an, cn, nb, no, ah, ch, hb, ho, rfl, rfl, s1, s2⟩ := h
  have hmf : ∀ (fn : Fn) (first cap : Array Value) (w : World), (Instr.makeFunc fn first cap).run Try.prog w = .ok (.func fn first cap) w := fun _ _ _ _ => rfl
  have c2 := fun b w2 (g : Below w.heap.size w w2) => kContains c.nodes an cn nb no b n w2 (s1.kept g)
  have hlf : Cf.leaf c.nodes n = (decide (0 ≤ n ∧ n ≤ (c.nodes.length : Int) - 1) && c.nodes.all fun x => decide (x.par ≠ n)) := by
    unfold Cf.leaf
    congr 1
    rw [Bool.eq_iff_iff, decide_eq_true_iff, decide_eq_true_iff]
    omega
  rw [hlf]
  obtain ⟨A, hA⟩ : ∃ f, (c.nodes.all fun x => decide (x.par ≠ n)) = f := ⟨_, rfl⟩
  rw [hA] at c2 ⊢
  obtain ⟨kind, nodes, hosts, half, age, g, k⟩ := c
  simp only [Cmd.f] at *
  obtain ⟨nl, hnl⟩ : ∃ n, nodes.length = n := ⟨_, rfl⟩
  obtain ⟨hl, hhl⟩ : ∃ n, hosts.length = n := ⟨_, rfl⟩
  rw [hnl] at c2 h300 ⊢
  rw [hhl]
  obtain ⟨zn, hzn⟩ : ∃ z : Int, (nl : Int) = z := ⟨_, rfl⟩
  rw [hzn]
  have hsub : IntKind.i64.wrap (zn - 1) = zn - 1 := by rw [IntKind.wrap_i64]; omega
  have hw := fun w => kWithin n 0 (zn - 1) w
  have C2 := Lib.hid c2
  clear c2 hA s1 s2 hnl hhl hlf hn64
  have G0 := Lib.hid (two_below w (.cells #[.slice an nl cn, .slice ah hl ch, .int .i64 half, .int .i64 age] 25) (.cells #[.int .i64 n] 3))
  have B0 : ((w.alloc (.cells #[.slice an nl cn, .slice ah hl ch, .int .i64 half, .int .i64 age] 25)).alloc (.cells #[.int .i64 n] 3)).cell? ⟨w.heap.size + 1, 0, none⟩ = some (.int .i64 n) := World.cell?_alloc_at (w := w.alloc (.cells #[.slice an nl cn, .slice ah hl ch, .int .i64 half, .int .i64 age] 25)) _ _ _ 0 (by simp)
  have L0 : w.heap.size + 1 < ((w.alloc (.cells #[.slice an nl cn, .slice ah hl ch, .int .i64 half, .int .i64 age] 25)).alloc (.cells #[.int .i64 n] 3)).heap.size := by rw [World.size_alloc, World.size_alloc]; omega
  have CC := Lib.hid (C2.out (w.heap.size + 1) _ G0.out B0 L0)
  clear B0 L0 C2
  by_cases h1 : 0 ≤ n ∧ n ≤ zn - 1
  · rw [decide_eq_true h1] at hw ⊢
    have WI := Lib.hid hw
    clear hw h1
    go_enter Try.func44, Try.ntmps44
    go_wp2_with fail
    refine (WI.out _).mono ?_
    rintro er w2 ⟨rfl, rfl⟩
    go_wp2_with fail
    refine CC.out.mono ?_
    rintro er w2 ⟨rfl, b2⟩
    have G2 := Lib.hid (below_trans G0.out b2)
    clear b2
    go_wp2_with fail
    go_ret
    exact ⟨by cases A <;> rfl, G2.out⟩
  · rw [decide_eq_false h1] at hw ⊢
    have WI := Lib.hid hw
    clear hw h1
    go_enter Try.func44, Try.ntmps44
    go_wp2_with fail
    refine (WI.out _).mono ?_
    rintro er w2 ⟨rfl, rfl⟩
    go_wp2_with fail
    go_ret
    exact ⟨rfl, G0.out⟩

end Go.Proofs.Ytkaikekibmgmmaa
namespace Go.Proofs.Ytkaikekibmgmmaa
open Go.RowKit
set_option linter.unusedVariables false

namespace Cf
/-- The tenants among the first j nodes. -/
def leavesTo (ns : List Nd) (j : Nat) : List Int := ((List.range j).map fun i : Nat => (i : Int)).filter (leaf ns)
theorem leavesTo_yes {ns : List Nd} {j : Nat} (h : leaf ns (j : Int) = true) : leavesTo ns (j + 1) = leavesTo ns j ++ [(j : Int)] := by
  unfold leavesTo
  rw [List.range_succ, List.map_append, List.filter_append]
  simp [h]
theorem leavesTo_no {ns : List Nd} {j : Nat} (h : leaf ns (j : Int) = false) : leavesTo ns (j + 1) = leavesTo ns j := by
  unfold leavesTo
  rw [List.range_succ, List.map_append, List.filter_append]
  simp [h]
theorem leavesTo_len (ns : List Nd) (j : Nat) : (leavesTo ns j).length ≤ j := by
  unfold leavesTo
  refine Nat.le_trans (List.length_filter_le _ _) ?_
  simp
end Cf

/-- The tenants so far. -/
structure KlSo (ns : List Nd) (w : World) (B base : Nat) (j : Int) (v : Value) (wr : World) : Prop where
  row : wr.ownsRow base 3 1 v (Cf.leavesTo ns j.toNat).length (cellsOf iC (Cf.leavesTo ns j.toNat))
  bools : Row wr B (bcells (Cf.pars ns)) 4
  low : Below w.heap.size w wr
  base_le : base ≤ wr.heap.size
  above : w.heap.size ≤ base
  apart : B < base

end Go.Proofs.Ytkaikekibmgmmaa

/- A region that draws its order: a first part under one condition on the world (loads; calls that write), then, from an operation on, all quiet in a class of worlds. -/
import Derived.Test.YtcjpednhefeboaaQuiet
import Derived.OrdersHeld
import Derived.Deep.RegionHeld3
namespace Go.Proofs.Ytcjpednhefeboaa
open Go.RowKit
set_option linter.unusedVariables false

section
variable {P : Program} {ops : Array Oper} {md : Region.Mode} {C S : World → Prop}
theorem wpAnyH_of_quiet {Q : Act → Prop} {Q' : Exit → Act → World → Prop} (hCS : ∀ w, C w → S w) (hQ : ∀ a w, C w → Q a → Q' .normal a w) : ∀ (fuel : Nat) (listed : Array Bool) (a : Act) (w : World), C w →
    wpAnyQ P md ops C Q fuel listed a → wpAnyH P md ops Q' S fuel listed a w
  | 0, _, _, _, hw, h => ⟨h.1, hQ _ _ hw h.2⟩
  | fuel + 1, _, _, _, hw, h => ⟨fun h0 => hQ _ _ hw (h.1 h0), fun i hi => wpOp_of_qOp hw (fun a' w' hw' hk => ⟨hCS w' hw', wpAnyH_of_quiet hCS hQ fuel _ a' w' hw' hk⟩) (h.2 i hi)⟩

/-- From operation k on: one walk of the text's order, in a class of worlds. -/
theorem held_quiet {Q : Exit → Act → World → Prop} {l : List Oper} {fuel : Nat} {listed : Array Bool} {a : Act} {w : World} (k : Nat) (C : World → Prop) (hf : fuel = (l.drop k).length) (hs : Region.noSelect l.toArray = true) (hB : Region.lexFrom .any l.toArray (l.drop k).length k listed = true)
    (hCS : ∀ w, C w → S w) (hC : C w) (h : wpQuiet P l.toArray C (fun a' => ∀ w', C w' → Q .normal a' w') (l.drop k) a) : wpAnyH P .any l.toArray Q S fuel listed a w := by
  subst hf
  exact wpAnyH_of_quiet (Q := fun a' => ∀ w', C w' → Q .normal a' w') hCS (fun _ w' hw' h => h w' hw') _ _ _ _ hC (wpAnyQ_lex hs (l.drop k) k listed a (fun j => by simp [List.getElem?_drop]) hB h)
/-- Operation k, told by the list, is taken first. -/
theorem pre_take {Q : Exit → Act → World → Prop} {l rest : List Oper} {o : Oper} {v : Value} {fuel : Nat} {listed : Array Bool} {a : Act} {w : World} (k : Nat) (hl : l.drop k = o :: rest) (hs : Region.noSelect l.toArray = true) (hf : Region.free .any l.toArray listed k = true) (hr : (Region.ready .any l.toArray listed).contains k = true)
    (hQ : ∀ c a w, Q (.panic c) (a.put o.dst v) w → Q (.panic c) a w) (hy : YieldsIf P l.toArray S o v a) (hS : S w) (h : wpAnyH P .any l.toArray Q S fuel (listed.setIfInBounds k true) (a.put o.dst v) w) : wpAnyH P .any l.toArray Q S (fuel + 1) listed a w :=
  wpAnyH_take (i := k) (by have := congrArg (fun x => x[0]?) hl; simpa [List.getElem?_drop] using this) hs hf hr hQ hy hS h
/-- Operation k, told by the list, is the one that comes up. -/
theorem pre_call {Q : Exit → Act → World → Prop} {l rest : List Oper} {o : Oper} {fuel : Nat} {listed : Array Bool} {a : Act} {w : World} (k : Nat) (hl : l.drop k = o :: rest) (hr : Region.ready .any l.toArray listed = [k])
    (h : ∀ K' : Act → World → Prop, Shut (∀ a w, S w → (S w → wpAnyH P .any l.toArray Q S fuel (listed.setIfInBounds k true) a w) → K' a w) → if Region.wanted o (yielded l.toArray a.tmps) = true then Oper.wp P o a w K' Q else K' (a.put o.dst undef) w) : wpAnyH P .any l.toArray Q S (fuel + 1) listed a w :=
  wpAnyH_ready hr (by simp) (AllReadyH.cons (by have := congrArg (fun x => x[0]?) hl; simpa [List.getElem?_drop] using this) h AllReadyH.nil)
end
end Go.Proofs.Ytcjpednhefeboaa

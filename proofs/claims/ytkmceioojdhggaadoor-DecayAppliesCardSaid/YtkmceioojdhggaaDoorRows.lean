/-
  NARROWER THAN 'FOR EVERY INPUT', by the rows' own cells (each row's printed sentence says how): DecayFactors: laid · DecayApplies: laid · DecayTable: laid · DecayHalves: laid · DecayScales: laid.
  DERIVED. THE GIVEN ROWS OF THIS SEAT. 5 by the template 'for every input the law returns true; each argument reads behind the call as it read before'; 0 by the template 'total and deterministic' (their statements: YtkmceioojdhggaaDoorTotals.lean).
  GIVEN WITH THE SEED: the statements are not yours to turn. If you find one false, say at which input.
  Laid BY PROGRAM, IN A SANDBOX (cutbox-rows.mjs): the forced cells as the released guide's own fill.sh prints them over the translation e13dbdc39b5f1f98… (all of the seat's roots in one cut). By AI agents, Wed Nov 11 2026. No macro, syntax, notation, axiom, sorry.
-/
import Derived.Test.YtkmceioojdhggaaDoorChecked
import GoSem.Claim
import GoSem.ClaimJoined
import GoSem.ClaimMapViews
import Derived.JoinedTies
import Derived.KernelRfl
namespace Go.Proofs.YtkmceioojdhggaaDoor
/- THE CELL 'sum', in the pinned program and in every row, IS THE sha256 OF THE DUMP (.gsa) THAT YtkmceioojdhggaaDoorProg.lean LOADS. Nothing in Lean hashes anything: it is a label: what it is worth is what the hold of that sum in a sandbox is worth. -/
noncomputable def Tryd.pinned : Pinned := { name := "ytkmceioojdhggaadoor", sum := "e13dbdc39b5f1f98b0be81f76fc1653682e69a268f889202e1c9e9398f32856f", checked := Tryd.checked }
namespace Rows
def none {H : Type} : Left H := { results := [], args := [] }

/- WHAT THE LISTED PACKAGE-LEVEL VARIABLES READ AS WHEN THE CALL BEGINS. Each datum BY PROGRAM (the guide's laid-datum.mjs) off the statement by which the dump's own 'gosem.cut.vars' lays the variable. In a bare row this is a premise. The card (YtkmceioojdhggaaDoorCards.lean) ties it to the program's text. -/
def laid_tithebarn_decay_powers {H : Type} : DataW H := .agg [.lit (.int .u64 3037000499), .lit (.int .u64 3611622602), .lit (.int .u64 3938502375), .lit (.int .u64 4112874772), .lit (.int .u64 4202935002), .lit (.int .u64 4248701964), .lit (.int .u64 4271771996), .lit (.int .u64 4283353945), .lit (.int .u64 4289156689), .lit (.int .u64 4292061009), .lit (.int .u64 4293513906), .lit (.int .u64 4294240539), .lit (.int .u64 4294603902), .lit (.int .u64 4294785595), .lit (.int .u64 4294876444), .lit (.int .u64 4294921869)]

/-- 'tithebarnlaw02.DecayFactors': WHATEVER THE INPUT: true; the input reads as it did. -/
def decayFactorsSpec : ChangeSpec := { name := "decayFactors", fn := fun _ => fun
  | [d1, d2] => { results := [.lit (.bool true)], args := [d1, d2] }
  | _ => none }
def decayFactorsRow : OpenClaim := { program := "ytkmceioojdhggaadoor", sum := "e13dbdc39b5f1f98b0be81f76fc1653682e69a268f889202e1c9e9398f32856f", func := "tithebarn/tithebarnlaw02.DecayFactors", spec := "decayFactors", named := ["tithebarn/decay.powers", "math/bits.divideError", "math/bits.overflowError"], apart := false, laid := [("tithebarn/decay.powers", laid_tithebarn_decay_powers)] }
def DecayFactorsSaid : Prop := decayFactorsRow.holds Tryd.pinned (OpenSpec.ofChange decayFactorsSpec)

/-- ITS FALSE NEIGHBOUR: 'it returns false'. Refute it at one input. -/
def decayFactorsWrong : ChangeSpec := { name := "decayFactors", fn := fun _ => fun
  | [d1, d2] => { results := [.lit (.bool false)], args := [d1, d2] }
  | _ => none }
def DecayFactorsWrongFalsely : Prop := decayFactorsRow.holds Tryd.pinned (OpenSpec.ofChange decayFactorsWrong)

/-- 'tithebarnlaw02.DecayApplies': WHATEVER THE INPUT: true; the input reads as it did. -/
def decayAppliesSpec : ChangeSpec := { name := "decayApplies", fn := fun _ => fun
  | [d1, d2, d3] => { results := [.lit (.bool true)], args := [d1, d2, d3] }
  | _ => none }
def decayAppliesRow : OpenClaim := { program := "ytkmceioojdhggaadoor", sum := "e13dbdc39b5f1f98b0be81f76fc1653682e69a268f889202e1c9e9398f32856f", func := "tithebarn/tithebarnlaw02.DecayApplies", spec := "decayApplies", named := ["tithebarn/decay.powers", "math/bits.divideError", "math/bits.overflowError"], apart := false, laid := [("tithebarn/decay.powers", laid_tithebarn_decay_powers)] }
def DecayAppliesSaid : Prop := decayAppliesRow.holds Tryd.pinned (OpenSpec.ofChange decayAppliesSpec)

/-- ITS FALSE NEIGHBOUR: 'it returns false'. Refute it at one input. -/
def decayAppliesWrong : ChangeSpec := { name := "decayApplies", fn := fun _ => fun
  | [d1, d2, d3] => { results := [.lit (.bool false)], args := [d1, d2, d3] }
  | _ => none }
def DecayAppliesWrongFalsely : Prop := decayAppliesRow.holds Tryd.pinned (OpenSpec.ofChange decayAppliesWrong)

/-- 'tithebarnlaw02.DecayTable': WHATEVER THE INPUT: true; the input reads as it did. -/
def decayTableSpec : ChangeSpec := { name := "decayTable", fn := fun _ => fun
  | [d] => { results := [.lit (.bool true)], args := [d] }
  | _ => none }
def decayTableRow : OpenClaim := { program := "ytkmceioojdhggaadoor", sum := "e13dbdc39b5f1f98b0be81f76fc1653682e69a268f889202e1c9e9398f32856f", func := "tithebarn/tithebarnlaw02.DecayTable", spec := "decayTable", named := ["tithebarn/decay.powers", "math/bits.divideError", "math/bits.overflowError"], apart := false, laid := [("tithebarn/decay.powers", laid_tithebarn_decay_powers)] }
def DecayTableSaid : Prop := decayTableRow.holds Tryd.pinned (OpenSpec.ofChange decayTableSpec)

/-- ITS FALSE NEIGHBOUR: 'it returns false'. Refute it at one input. -/
def decayTableWrong : ChangeSpec := { name := "decayTable", fn := fun _ => fun
  | [d] => { results := [.lit (.bool false)], args := [d] }
  | _ => none }
def DecayTableWrongFalsely : Prop := decayTableRow.holds Tryd.pinned (OpenSpec.ofChange decayTableWrong)

/-- 'tithebarnlaw02.DecayHalves': WHATEVER THE INPUT: true; the input reads as it did. -/
def decayHalvesSpec : ChangeSpec := { name := "decayHalves", fn := fun _ => fun
  | [d1, d2, d3] => { results := [.lit (.bool true)], args := [d1, d2, d3] }
  | _ => none }
def decayHalvesRow : OpenClaim := { program := "ytkmceioojdhggaadoor", sum := "e13dbdc39b5f1f98b0be81f76fc1653682e69a268f889202e1c9e9398f32856f", func := "tithebarn/tithebarnlaw02.DecayHalves", spec := "decayHalves", named := ["tithebarn/decay.powers", "math/bits.divideError", "math/bits.overflowError"], apart := false, laid := [("tithebarn/decay.powers", laid_tithebarn_decay_powers)] }
def DecayHalvesSaid : Prop := decayHalvesRow.holds Tryd.pinned (OpenSpec.ofChange decayHalvesSpec)

/-- ITS FALSE NEIGHBOUR: 'it returns false'. Refute it at one input. -/
def decayHalvesWrong : ChangeSpec := { name := "decayHalves", fn := fun _ => fun
  | [d1, d2, d3] => { results := [.lit (.bool false)], args := [d1, d2, d3] }
  | _ => none }
def DecayHalvesWrongFalsely : Prop := decayHalvesRow.holds Tryd.pinned (OpenSpec.ofChange decayHalvesWrong)

/-- 'tithebarnlaw02.DecayScales': WHATEVER THE INPUT: true; the input reads as it did. -/
def decayScalesSpec : ChangeSpec := { name := "decayScales", fn := fun _ => fun
  | [d1, d2, d3] => { results := [.lit (.bool true)], args := [d1, d2, d3] }
  | _ => none }
def decayScalesRow : OpenClaim := { program := "ytkmceioojdhggaadoor", sum := "e13dbdc39b5f1f98b0be81f76fc1653682e69a268f889202e1c9e9398f32856f", func := "tithebarn/tithebarnlaw02.DecayScales", spec := "decayScales", named := ["tithebarn/decay.powers", "math/bits.divideError", "math/bits.overflowError"], apart := false, laid := [("tithebarn/decay.powers", laid_tithebarn_decay_powers)] }
def DecayScalesSaid : Prop := decayScalesRow.holds Tryd.pinned (OpenSpec.ofChange decayScalesSpec)

/-- ITS FALSE NEIGHBOUR: 'it returns false'. Refute it at one input. -/
def decayScalesWrong : ChangeSpec := { name := "decayScales", fn := fun _ => fun
  | [d1, d2, d3] => { results := [.lit (.bool false)], args := [d1, d2, d3] }
  | _ => none }
def DecayScalesWrongFalsely : Prop := decayScalesRow.holds Tryd.pinned (OpenSpec.ofChange decayScalesWrong)

/- THE SECOND FORM. 'bulk': how many values and letters a reading holds, each counted each time it is reached (what is shared counts as often as it is met; a slice's spare places count too). A statement '..UptoSaid' is the law's where the arguments, and the package variables that the reading takes, are together of bulk at most 1048576: NARROWER than '..Said'. Prove '..Said' where nothing that the law and all that it calls make is longer than what came in: it says more and counts as full. Else prove '..UptoSaid'. A law counts once. -/
mutual
def uptoBulk {H : Type} : DataW H → Nat
  | .lit (.string bytes) => bytes.length + 1
  | .lit _ => 1
  | .nil => 1
  | .ptr d => uptoBulk d + 1
  | .slice elems spare => uptoBulkAll elems + uptoBulkAll spare + 1
  | .agg parts => uptoBulkAll parts + 1
  | .iface _ d => uptoBulk d + 1
  | .map entries => uptoBulkEntries entries + 1
  | .held _ => 1
def uptoBulkAll {H : Type} : List (DataW H) → Nat
  | [] => 0
  | d :: r => uptoBulk d + uptoBulkAll r
def uptoBulkEntries {H : Type} : List (Lit × DataW H) → Nat
  | [] => 0
  | x :: r => uptoBulkEntry x + uptoBulkEntries r
def uptoBulkEntry {H : Type} : Lit × DataW H → Nat
  | (.string bytes, d) => bytes.length + uptoBulk d + 1
  | (_, d) => uptoBulk d + 1
 end
def uptoSmall : (H : Type) → List (DataW H) → Bool := fun _ ds => decide (uptoBulkAll ds ≤ 1048576)
def OpenSpec.upto (s : _root_.Go.ChangeSpec) : _root_.Go.OpenSpec := { _root_.Go.OpenSpec.ofChange s with cond := some uptoSmall }

/-- 'tithebarnlaw02.DecayFactors', WHERE WHAT IT READS IS OF BULK AT MOST 1048576: true; the input reads as it did. -/
def decayFactorsUptoRow : OpenClaim := { program := "ytkmceioojdhggaadoor", sum := "e13dbdc39b5f1f98b0be81f76fc1653682e69a268f889202e1c9e9398f32856f", func := "tithebarn/tithebarnlaw02.DecayFactors", spec := "decayFactors", named := ["tithebarn/decay.powers", "math/bits.divideError", "math/bits.overflowError"], apart := false, laid := [("tithebarn/decay.powers", laid_tithebarn_decay_powers)], narrowed := true }
def DecayFactorsUptoSaid : Prop := decayFactorsUptoRow.holds Tryd.pinned (OpenSpec.upto decayFactorsSpec)

/-- 'tithebarnlaw02.DecayApplies', WHERE WHAT IT READS IS OF BULK AT MOST 1048576: true; the input reads as it did. -/
def decayAppliesUptoRow : OpenClaim := { program := "ytkmceioojdhggaadoor", sum := "e13dbdc39b5f1f98b0be81f76fc1653682e69a268f889202e1c9e9398f32856f", func := "tithebarn/tithebarnlaw02.DecayApplies", spec := "decayApplies", named := ["tithebarn/decay.powers", "math/bits.divideError", "math/bits.overflowError"], apart := false, laid := [("tithebarn/decay.powers", laid_tithebarn_decay_powers)], narrowed := true }
def DecayAppliesUptoSaid : Prop := decayAppliesUptoRow.holds Tryd.pinned (OpenSpec.upto decayAppliesSpec)

/-- 'tithebarnlaw02.DecayTable', WHERE WHAT IT READS IS OF BULK AT MOST 1048576: true; the input reads as it did. -/
def decayTableUptoRow : OpenClaim := { program := "ytkmceioojdhggaadoor", sum := "e13dbdc39b5f1f98b0be81f76fc1653682e69a268f889202e1c9e9398f32856f", func := "tithebarn/tithebarnlaw02.DecayTable", spec := "decayTable", named := ["tithebarn/decay.powers", "math/bits.divideError", "math/bits.overflowError"], apart := false, laid := [("tithebarn/decay.powers", laid_tithebarn_decay_powers)], narrowed := true }
def DecayTableUptoSaid : Prop := decayTableUptoRow.holds Tryd.pinned (OpenSpec.upto decayTableSpec)

/-- 'tithebarnlaw02.DecayHalves', WHERE WHAT IT READS IS OF BULK AT MOST 1048576: true; the input reads as it did. -/
def decayHalvesUptoRow : OpenClaim := { program := "ytkmceioojdhggaadoor", sum := "e13dbdc39b5f1f98b0be81f76fc1653682e69a268f889202e1c9e9398f32856f", func := "tithebarn/tithebarnlaw02.DecayHalves", spec := "decayHalves", named := ["tithebarn/decay.powers", "math/bits.divideError", "math/bits.overflowError"], apart := false, laid := [("tithebarn/decay.powers", laid_tithebarn_decay_powers)], narrowed := true }
def DecayHalvesUptoSaid : Prop := decayHalvesUptoRow.holds Tryd.pinned (OpenSpec.upto decayHalvesSpec)

/-- 'tithebarnlaw02.DecayScales', WHERE WHAT IT READS IS OF BULK AT MOST 1048576: true; the input reads as it did. -/
def decayScalesUptoRow : OpenClaim := { program := "ytkmceioojdhggaadoor", sum := "e13dbdc39b5f1f98b0be81f76fc1653682e69a268f889202e1c9e9398f32856f", func := "tithebarn/tithebarnlaw02.DecayScales", spec := "decayScales", named := ["tithebarn/decay.powers", "math/bits.divideError", "math/bits.overflowError"], apart := false, laid := [("tithebarn/decay.powers", laid_tithebarn_decay_powers)], narrowed := true }
def DecayScalesUptoSaid : Prop := decayScalesUptoRow.holds Tryd.pinned (OpenSpec.upto decayScalesSpec)

end Rows
end Go.Proofs.YtkmceioojdhggaaDoor

/-
  No cell of these rows narrows 'for every input' (looked for: loops, veiled, ifaces, maps, wideKeys, modest, calm, conditions, laid).
  DERIVED. THE GIVEN ROWS OF THIS SEAT. 5 by the template 'for every input the law returns true; each argument reads behind the call as it read before'; 0 by the template 'total and deterministic' (their statements: YtafmkocbbogmoaaTotals.lean).
  GIVEN WITH THE SEED: the statements are not yours to turn. If you find one false, say at which input.
  Laid BY PROGRAM, IN A SANDBOX (cutbox-rows.mjs): the forced cells as the released guide's own fill.sh prints them over the translation 4b3924b9868176f5… (all of the seat's roots in one cut). By AI agents, Wed Nov 11 2026. No macro, syntax, notation, axiom, sorry.
-/
import Derived.Test.YtafmkocbbogmoaaChecked
import GoSem.Claim
import GoSem.ClaimJoined
import GoSem.ClaimMapViews
import Derived.JoinedTies
import Derived.KernelRfl
namespace Go.Proofs.Ytafmkocbbogmoaa
/- THE CELL 'sum', in the pinned program and in every row, IS THE sha256 OF THE DUMP (.gsa) THAT YtafmkocbbogmoaaProg.lean LOADS. Nothing in Lean hashes anything: it is a label: what it is worth is what the hold of that sum in a sandbox is worth. -/
noncomputable def Try.pinned : Pinned := { name := "ytafmkocbbogmoaa", sum := "4b3924b9868176f5817fdeedf1b0800138633b276a98a34aac37a6379119a70d", checked := Try.checked }
namespace Rows
def none {H : Type} : Left H := { results := [], args := [] }

/-- 'tithebarnlaw01.FixptSums': WHATEVER THE INPUT: true; the input reads as it did. -/
def fixptSumsSpec : ChangeSpec := { name := "fixptSums", fn := fun _ => fun
  | [d1, d2] => { results := [.lit (.bool true)], args := [d1, d2] }
  | _ => none }
def fixptSumsRow : OpenClaim := { program := "ytafmkocbbogmoaa", sum := "4b3924b9868176f5817fdeedf1b0800138633b276a98a34aac37a6379119a70d", func := "tithebarn/tithebarnlaw01.FixptSums", spec := "fixptSums", inPlace := ["math/bits.Add64"], named := ["math/bits.divideError", "math/bits.overflowError"], apart := false }
def FixptSumsSaid : Prop := fixptSumsRow.holds Try.pinned (OpenSpec.ofChange fixptSumsSpec)

/-- ITS FALSE NEIGHBOUR: 'it returns false'. Refute it at one input. -/
def fixptSumsWrong : ChangeSpec := { name := "fixptSums", fn := fun _ => fun
  | [d1, d2] => { results := [.lit (.bool false)], args := [d1, d2] }
  | _ => none }
def FixptSumsWrongFalsely : Prop := fixptSumsRow.holds Try.pinned (OpenSpec.ofChange fixptSumsWrong)

/-- 'tithebarnlaw01.FixptProducts': WHATEVER THE INPUT: true; the input reads as it did. -/
def fixptProductsSpec : ChangeSpec := { name := "fixptProducts", fn := fun _ => fun
  | [d1, d2] => { results := [.lit (.bool true)], args := [d1, d2] }
  | _ => none }
def fixptProductsRow : OpenClaim := { program := "ytafmkocbbogmoaa", sum := "4b3924b9868176f5817fdeedf1b0800138633b276a98a34aac37a6379119a70d", func := "tithebarn/tithebarnlaw01.FixptProducts", spec := "fixptProducts", inPlace := ["math/bits.Add64"], named := ["math/bits.divideError", "math/bits.overflowError"], apart := false }
def FixptProductsSaid : Prop := fixptProductsRow.holds Try.pinned (OpenSpec.ofChange fixptProductsSpec)

/-- ITS FALSE NEIGHBOUR: 'it returns false'. Refute it at one input. -/
def fixptProductsWrong : ChangeSpec := { name := "fixptProducts", fn := fun _ => fun
  | [d1, d2] => { results := [.lit (.bool false)], args := [d1, d2] }
  | _ => none }
def FixptProductsWrongFalsely : Prop := fixptProductsRow.holds Try.pinned (OpenSpec.ofChange fixptProductsWrong)

/-- 'tithebarnlaw01.FixptWholes': WHATEVER THE INPUT: true; the input reads as it did. -/
def fixptWholesSpec : ChangeSpec := { name := "fixptWholes", fn := fun _ => fun
  | [d1, d2, d3] => { results := [.lit (.bool true)], args := [d1, d2, d3] }
  | _ => none }
def fixptWholesRow : OpenClaim := { program := "ytafmkocbbogmoaa", sum := "4b3924b9868176f5817fdeedf1b0800138633b276a98a34aac37a6379119a70d", func := "tithebarn/tithebarnlaw01.FixptWholes", spec := "fixptWholes", inPlace := ["math/bits.Add64"], named := ["math/bits.divideError", "math/bits.overflowError"], apart := false }
def FixptWholesSaid : Prop := fixptWholesRow.holds Try.pinned (OpenSpec.ofChange fixptWholesSpec)

/-- ITS FALSE NEIGHBOUR: 'it returns false'. Refute it at one input. -/
def fixptWholesWrong : ChangeSpec := { name := "fixptWholes", fn := fun _ => fun
  | [d1, d2, d3] => { results := [.lit (.bool false)], args := [d1, d2, d3] }
  | _ => none }
def FixptWholesWrongFalsely : Prop := fixptWholesRow.holds Try.pinned (OpenSpec.ofChange fixptWholesWrong)

/-- 'tithebarnlaw01.FixptOne': WHATEVER THE INPUT: true; the input reads as it did. -/
def fixptOneSpec : ChangeSpec := { name := "fixptOne", fn := fun _ => fun
  | [d1, d2] => { results := [.lit (.bool true)], args := [d1, d2] }
  | _ => none }
def fixptOneRow : OpenClaim := { program := "ytafmkocbbogmoaa", sum := "4b3924b9868176f5817fdeedf1b0800138633b276a98a34aac37a6379119a70d", func := "tithebarn/tithebarnlaw01.FixptOne", spec := "fixptOne", inPlace := ["math/bits.Add64"], named := ["math/bits.divideError", "math/bits.overflowError"], apart := false }
def FixptOneSaid : Prop := fixptOneRow.holds Try.pinned (OpenSpec.ofChange fixptOneSpec)

/-- ITS FALSE NEIGHBOUR: 'it returns false'. Refute it at one input. -/
def fixptOneWrong : ChangeSpec := { name := "fixptOne", fn := fun _ => fun
  | [d1, d2] => { results := [.lit (.bool false)], args := [d1, d2] }
  | _ => none }
def FixptOneWrongFalsely : Prop := fixptOneRow.holds Try.pinned (OpenSpec.ofChange fixptOneWrong)

/-- 'tithebarnlaw01.FixptOrder': WHATEVER THE INPUT: true; the input reads as it did. -/
def fixptOrderSpec : ChangeSpec := { name := "fixptOrder", fn := fun _ => fun
  | [d1, d2, d3] => { results := [.lit (.bool true)], args := [d1, d2, d3] }
  | _ => none }
def fixptOrderRow : OpenClaim := { program := "ytafmkocbbogmoaa", sum := "4b3924b9868176f5817fdeedf1b0800138633b276a98a34aac37a6379119a70d", func := "tithebarn/tithebarnlaw01.FixptOrder", spec := "fixptOrder", inPlace := ["math/bits.Add64"], named := ["math/bits.divideError", "math/bits.overflowError"], apart := false }
def FixptOrderSaid : Prop := fixptOrderRow.holds Try.pinned (OpenSpec.ofChange fixptOrderSpec)

/-- ITS FALSE NEIGHBOUR: 'it returns false'. Refute it at one input. -/
def fixptOrderWrong : ChangeSpec := { name := "fixptOrder", fn := fun _ => fun
  | [d1, d2, d3] => { results := [.lit (.bool false)], args := [d1, d2, d3] }
  | _ => none }
def FixptOrderWrongFalsely : Prop := fixptOrderRow.holds Try.pinned (OpenSpec.ofChange fixptOrderWrong)

/- THE SECOND FORM. 'bulk': how many values and letters a reading holds, each counted each time it is reached (what is shared counts as often as it is met; a slice's spare places count too). A statement '..UptoSaid' is the law's where the arguments, and the package variables that the reading takes, are together of bulk at most 1048576: NARROWER than '..Said'. Prove '..Said' where nothing that the law and all that it calls make is longer than what came in: it says more and counts as full. Else prove '..UptoSaid'. A law counts once. -/
mutual
def uptoBulk {H : Type} : DataW H → Nat
  | .lit (.string bytes) => bytes.length + 1
  | .lit _ => 1
  | .nil => 1
  | .ptr d => uptoBulk d + 1
  | .slice elems spare => uptoBulkAll elems + uptoBulkAll spare + 1
  | .agg parts => uptoBulkAll parts + 1
  | .iface _ d => uptoBulk d + 1
  | .map entries => uptoBulkEntries entries + 1
  | .held _ => 1
def uptoBulkAll {H : Type} : List (DataW H) → Nat
  | [] => 0
  | d :: r => uptoBulk d + uptoBulkAll r
def uptoBulkEntries {H : Type} : List (Lit × DataW H) → Nat
  | [] => 0
  | x :: r => uptoBulkEntry x + uptoBulkEntries r
def uptoBulkEntry {H : Type} : Lit × DataW H → Nat
  | (.string bytes, d) => bytes.length + uptoBulk d + 1
  | (_, d) => uptoBulk d + 1
 end
def uptoSmall : (H : Type) → List (DataW H) → Bool := fun _ ds => decide (uptoBulkAll ds ≤ 1048576)
def OpenSpec.upto (s : _root_.Go.ChangeSpec) : _root_.Go.OpenSpec := { _root_.Go.OpenSpec.ofChange s with cond := some uptoSmall }

/-- 'tithebarnlaw01.FixptSums', WHERE WHAT IT READS IS OF BULK AT MOST 1048576: true; the input reads as it did. -/
def fixptSumsUptoRow : OpenClaim := { program := "ytafmkocbbogmoaa", sum := "4b3924b9868176f5817fdeedf1b0800138633b276a98a34aac37a6379119a70d", func := "tithebarn/tithebarnlaw01.FixptSums", spec := "fixptSums", inPlace := ["math/bits.Add64"], named := ["math/bits.divideError", "math/bits.overflowError"], apart := false, narrowed := true }
def FixptSumsUptoSaid : Prop := fixptSumsUptoRow.holds Try.pinned (OpenSpec.upto fixptSumsSpec)

/-- 'tithebarnlaw01.FixptProducts', WHERE WHAT IT READS IS OF BULK AT MOST 1048576: true; the input reads as it did. -/
def fixptProductsUptoRow : OpenClaim := { program := "ytafmkocbbogmoaa", sum := "4b3924b9868176f5817fdeedf1b0800138633b276a98a34aac37a6379119a70d", func := "tithebarn/tithebarnlaw01.FixptProducts", spec := "fixptProducts", inPlace := ["math/bits.Add64"], named := ["math/bits.divideError", "math/bits.overflowError"], apart := false, narrowed := true }
def FixptProductsUptoSaid : Prop := fixptProductsUptoRow.holds Try.pinned (OpenSpec.upto fixptProductsSpec)

/-- 'tithebarnlaw01.FixptWholes', WHERE WHAT IT READS IS OF BULK AT MOST 1048576: true; the input reads as it did. -/
def fixptWholesUptoRow : OpenClaim := { program := "ytafmkocbbogmoaa", sum := "4b3924b9868176f5817fdeedf1b0800138633b276a98a34aac37a6379119a70d", func := "tithebarn/tithebarnlaw01.FixptWholes", spec := "fixptWholes", inPlace := ["math/bits.Add64"], named := ["math/bits.divideError", "math/bits.overflowError"], apart := false, narrowed := true }
def FixptWholesUptoSaid : Prop := fixptWholesUptoRow.holds Try.pinned (OpenSpec.upto fixptWholesSpec)

/-- 'tithebarnlaw01.FixptOne', WHERE WHAT IT READS IS OF BULK AT MOST 1048576: true; the input reads as it did. -/
def fixptOneUptoRow : OpenClaim := { program := "ytafmkocbbogmoaa", sum := "4b3924b9868176f5817fdeedf1b0800138633b276a98a34aac37a6379119a70d", func := "tithebarn/tithebarnlaw01.FixptOne", spec := "fixptOne", inPlace := ["math/bits.Add64"], named := ["math/bits.divideError", "math/bits.overflowError"], apart := false, narrowed := true }
def FixptOneUptoSaid : Prop := fixptOneUptoRow.holds Try.pinned (OpenSpec.upto fixptOneSpec)

/-- 'tithebarnlaw01.FixptOrder', WHERE WHAT IT READS IS OF BULK AT MOST 1048576: true; the input reads as it did. -/
def fixptOrderUptoRow : OpenClaim := { program := "ytafmkocbbogmoaa", sum := "4b3924b9868176f5817fdeedf1b0800138633b276a98a34aac37a6379119a70d", func := "tithebarn/tithebarnlaw01.FixptOrder", spec := "fixptOrder", inPlace := ["math/bits.Add64"], named := ["math/bits.divideError", "math/bits.overflowError"], apart := false, narrowed := true }
def FixptOrderUptoSaid : Prop := fixptOrderUptoRow.holds Try.pinned (OpenSpec.upto fixptOrderSpec)

end Rows
end Go.Proofs.Ytafmkocbbogmoaa

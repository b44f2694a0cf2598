/-
  No cell of these rows narrows 'for every input' (looked for: loops, veiled, ifaces, maps, wideKeys, modest, calm, conditions, laid).
  DERIVED. THE GIVEN ROWS OF THIS SEAT. 3 by the template 'for every input the law returns true; each argument reads behind the call as it read before'; 0 by the template 'total and deterministic' (their statements: YtkakgjmajplgmaaTotals.lean).
  GIVEN WITH THE SEED: the statements are not yours to turn. If you find one false, say at which input.
  Laid BY PROGRAM, IN A SANDBOX (cutbox-rows.mjs): the forced cells as the released guide's own fill.sh prints them over the translation 3678c6071512252c… (all of the seat's roots in one cut). By AI agents, Wed Nov 11 2026. No macro, syntax, notation, axiom, sorry.
-/
import Derived.Test.YtkakgjmajplgmaaChecked
import GoSem.Claim
import GoSem.ClaimJoined
import GoSem.ClaimMapViews
import Derived.JoinedTies
import Derived.KernelRfl
namespace Go.Proofs.Ytkakgjmajplgmaa
/- THE CELL 'sum', in the pinned program and in every row, IS THE sha256 OF THE DUMP (.gsa) THAT YtkakgjmajplgmaaProg.lean LOADS. Nothing in Lean hashes anything: it is a label: what it is worth is what the hold of that sum in a sandbox is worth. -/
noncomputable def Try.pinned : Pinned := { name := "ytkakgjmajplgmaa", sum := "3678c6071512252c215172a6f46d2f6fa6fc68d8fa793bd0e05ded62d60d0c3e", checked := Try.checked }
namespace Rows
def none {H : Type} : Left H := { results := [], args := [] }

/-- 'tithebarnlaw11.QuotaSafe': WHATEVER THE INPUT: true; the input reads as it did. -/
def quotaSafeSpec : ChangeSpec := { name := "quotaSafe", fn := fun _ => fun
  | [d1, d2, d3] => { results := [.lit (.bool true)], args := [d1, d2, d3] }
  | _ => none }
def quotaSafeRow : OpenClaim := { program := "ytkakgjmajplgmaa", sum := "3678c6071512252c215172a6f46d2f6fa6fc68d8fa793bd0e05ded62d60d0c3e", func := "tithebarn/tithebarnlaw11.QuotaSafe", spec := "quotaSafe", unfollowed := true, recurses := true, apart := false }
def QuotaSafeSaid : Prop := quotaSafeRow.holds Try.pinned (OpenSpec.ofChange quotaSafeSpec)

/-- ITS FALSE NEIGHBOUR: 'it returns false'. Refute it at one input. -/
def quotaSafeWrong : ChangeSpec := { name := "quotaSafe", fn := fun _ => fun
  | [d1, d2, d3] => { results := [.lit (.bool false)], args := [d1, d2, d3] }
  | _ => none }
def QuotaSafeWrongFalsely : Prop := quotaSafeRow.holds Try.pinned (OpenSpec.ofChange quotaSafeWrong)

/-- 'tithebarnlaw11.QuotaLess': WHATEVER THE INPUT: true; the input reads as it did. -/
def quotaLessSpec : ChangeSpec := { name := "quotaLess", fn := fun _ => fun
  | [d1, d2, d3] => { results := [.lit (.bool true)], args := [d1, d2, d3] }
  | _ => none }
def quotaLessRow : OpenClaim := { program := "ytkakgjmajplgmaa", sum := "3678c6071512252c215172a6f46d2f6fa6fc68d8fa793bd0e05ded62d60d0c3e", func := "tithebarn/tithebarnlaw11.QuotaLess", spec := "quotaLess", unfollowed := true, recurses := true, apart := false }
def QuotaLessSaid : Prop := quotaLessRow.holds Try.pinned (OpenSpec.ofChange quotaLessSpec)

/-- ITS FALSE NEIGHBOUR: 'it returns false'. Refute it at one input. -/
def quotaLessWrong : ChangeSpec := { name := "quotaLess", fn := fun _ => fun
  | [d1, d2, d3] => { results := [.lit (.bool false)], args := [d1, d2, d3] }
  | _ => none }
def QuotaLessWrongFalsely : Prop := quotaLessRow.holds Try.pinned (OpenSpec.ofChange quotaLessWrong)

/-- 'tithebarnlaw11.QuotaOwn': WHATEVER THE INPUT: true; the input reads as it did. -/
def quotaOwnSpec : ChangeSpec := { name := "quotaOwn", fn := fun _ => fun
  | [d1, d2] => { results := [.lit (.bool true)], args := [d1, d2] }
  | _ => none }
def quotaOwnRow : OpenClaim := { program := "ytkakgjmajplgmaa", sum := "3678c6071512252c215172a6f46d2f6fa6fc68d8fa793bd0e05ded62d60d0c3e", func := "tithebarn/tithebarnlaw11.QuotaOwn", spec := "quotaOwn", unfollowed := true, recurses := true, apart := false }
def QuotaOwnSaid : Prop := quotaOwnRow.holds Try.pinned (OpenSpec.ofChange quotaOwnSpec)

/-- ITS FALSE NEIGHBOUR: 'it returns false'. Refute it at one input. -/
def quotaOwnWrong : ChangeSpec := { name := "quotaOwn", fn := fun _ => fun
  | [d1, d2] => { results := [.lit (.bool false)], args := [d1, d2] }
  | _ => none }
def QuotaOwnWrongFalsely : Prop := quotaOwnRow.holds Try.pinned (OpenSpec.ofChange quotaOwnWrong)

/- THE SECOND FORM. 'bulk': how many values and letters a reading holds, each counted each time it is reached (what is shared counts as often as it is met; a slice's spare places count too). A statement '..UptoSaid' is the law's where the arguments, and the package variables that the reading takes, are together of bulk at most 1048576: NARROWER than '..Said'. Prove '..Said' where nothing that the law and all that it calls make is longer than what came in: it says more and counts as full. Else prove '..UptoSaid'. A law counts once. -/
mutual
def uptoBulk {H : Type} : DataW H → Nat
  | .lit (.string bytes) => bytes.length + 1
  | .lit _ => 1
  | .nil => 1
  | .ptr d => uptoBulk d + 1
  | .slice elems spare => uptoBulkAll elems + uptoBulkAll spare + 1
  | .agg parts => uptoBulkAll parts + 1
  | .iface _ d => uptoBulk d + 1
  | .map entries => uptoBulkEntries entries + 1
  | .held _ => 1
def uptoBulkAll {H : Type} : List (DataW H) → Nat
  | [] => 0
  | d :: r => uptoBulk d + uptoBulkAll r
def uptoBulkEntries {H : Type} : List (Lit × DataW H) → Nat
  | [] => 0
  | x :: r => uptoBulkEntry x + uptoBulkEntries r
def uptoBulkEntry {H : Type} : Lit × DataW H → Nat
  | (.string bytes, d) => bytes.length + uptoBulk d + 1
  | (_, d) => uptoBulk d + 1
 end
def uptoSmall : (H : Type) → List (DataW H) → Bool := fun _ ds => decide (uptoBulkAll ds ≤ 1048576)
def OpenSpec.upto (s : _root_.Go.ChangeSpec) : _root_.Go.OpenSpec := { _root_.Go.OpenSpec.ofChange s with cond := some uptoSmall }

/-- 'tithebarnlaw11.QuotaSafe', WHERE WHAT IT READS IS OF BULK AT MOST 1048576: true; the input reads as it did. -/
def quotaSafeUptoRow : OpenClaim := { program := "ytkakgjmajplgmaa", sum := "3678c6071512252c215172a6f46d2f6fa6fc68d8fa793bd0e05ded62d60d0c3e", func := "tithebarn/tithebarnlaw11.QuotaSafe", spec := "quotaSafe", unfollowed := true, recurses := true, apart := false, narrowed := true }
def QuotaSafeUptoSaid : Prop := quotaSafeUptoRow.holds Try.pinned (OpenSpec.upto quotaSafeSpec)

/-- 'tithebarnlaw11.QuotaLess', WHERE WHAT IT READS IS OF BULK AT MOST 1048576: true; the input reads as it did. -/
def quotaLessUptoRow : OpenClaim := { program := "ytkakgjmajplgmaa", sum := "3678c6071512252c215172a6f46d2f6fa6fc68d8fa793bd0e05ded62d60d0c3e", func := "tithebarn/tithebarnlaw11.QuotaLess", spec := "quotaLess", unfollowed := true, recurses := true, apart := false, narrowed := true }
def QuotaLessUptoSaid : Prop := quotaLessUptoRow.holds Try.pinned (OpenSpec.upto quotaLessSpec)

/-- 'tithebarnlaw11.QuotaOwn', WHERE WHAT IT READS IS OF BULK AT MOST 1048576: true; the input reads as it did. -/
def quotaOwnUptoRow : OpenClaim := { program := "ytkakgjmajplgmaa", sum := "3678c6071512252c215172a6f46d2f6fa6fc68d8fa793bd0e05ded62d60d0c3e", func := "tithebarn/tithebarnlaw11.QuotaOwn", spec := "quotaOwn", unfollowed := true, recurses := true, apart := false, narrowed := true }
def QuotaOwnUptoSaid : Prop := quotaOwnUptoRow.holds Try.pinned (OpenSpec.upto quotaOwnSpec)

end Rows
end Go.Proofs.Ytkakgjmajplgmaa

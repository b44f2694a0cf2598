/- What the program's journal is held to: a predicate over worlds and one contract a call. The statements' walks take it whole. -/
import Derived.Test.YtcjpednhefeboaaRjnB
import Derived.Test.YtcjpednhefeboaaJrnC
import Derived.Test.YtcjpednhefeboaaDskE
import Derived.Test.YtcjpednhefeboaaCrcF
namespace Go.Proofs.Ytcjpednhefeboaa
open Go.RowKit
set_option linter.unusedVariables false

/-- The block of a row, if it has one. -/
def rowOf (ao : Option Addr) (k : Nat) : Prop := ao = some ⟨k, 0, none⟩

/-- What Scan leaves. -/
def Scans (s : ByteArray) (w : World) (e : Ending) (w' : World) : Prop := ∃ ao cap, e = .returned (.tuple #[.slice ao (Jn.scan s).1.length cap, .int .i64 ((Jn.scan s).2 : Int)]) ∧ Texts w' ao cap (Jn.scan s).1 ∧ (∀ g, ao = some ⟨g, 0, none⟩ → w.heap.size ≤ g) ∧ Below w.heap.size w w'

structure JC where
  At : World → (Nat → Prop) → Nat → Nat → Dk → Nat → Prop
  disk : ∀ {w : World} {F : Nat → Prop} {j D N : Nat} {d : Dk}, At w F j D d N → Proofs.Ytcjpednhefeboaa.At w F D d
  own : ∀ {w : World} {F : Nat → Prop} {j D N : Nat} {d : Dk}, At w F j D d N → j < w.heap.size ∧ ¬ F j
  mono : ∀ {w w' : World} {F G K : Nat → Prop} {j D N : Nat} {d : Dk}, At w F j D d N → Keeps (fun k => k < w.heap.size ∧ ¬ G k) w w' → (∀ k, G k → F k) → (∀ k, K k → F k ∨ (w.heap.size ≤ k ∧ k < w'.heap.size)) → At w' K j D d N
  scan : ∀ (s : ByteArray), s.size ≤ 1099511627776 → ∀ w, Calls Try.prog 9 #[.string s] w (Scans s w)
  open_ : ∀ {w : World} {F : Nat → Prop} {D : Nat} {d : Dk}, Proofs.Ytcjpednhefeboaa.At w F D d → Calls Try.prog 19 #[.pointer (some ⟨D, 0, none⟩)] w fun e w' => ∃ j ao cap, e = .returned (.tuple #[.pointer (some ⟨j, 0, none⟩), .slice ao (Jn.scan (Jn.text d)).1.length cap]) ∧
    At w' (fun k => F k ∨ rowOf ao k) j D (Jn.opened d) (Jn.scan (Jn.text d)).1.length ∧ Texts w' ao cap (Jn.scan (Jn.text d)).1 ∧ w.heap.size ≤ j ∧ (∀ g, ao = some ⟨g, 0, none⟩ → w.heap.size ≤ g) ∧ Keeps F w w'
  append : ∀ {w : World} {F : Nat → Prop} {j D N : Nat} {d : Dk}, At w F j D d N → ∀ (s : ByteArray), N ≤ 1099511627776 → Calls Try.prog 22 #[.pointer (some ⟨j, 0, none⟩), .string s] w fun e w' => e = .returned (.int .i64 (Jn.app d N s).1) ∧ At w' F j D (Jn.app d N s).2.1 (Jn.app d N s).2.2 ∧ Keeps F w w'
  reset : ∀ {w : World} {F : Nat → Prop} {j D N : Nat} {d : Dk}, At w F j D d N → ∀ {ao : Option Addr} {len cap bb oo : Nat} {S : Nat → ByteArray}, Lst w ao len cap bb oo S → len ≤ 1048576 → Calls Try.prog 26 #[.pointer (some ⟨j, 0, none⟩), .slice ao len cap] w fun e w' => e = .returned (.int .i64 (Jn.reset d N len S).1) ∧ At w' F j D (Jn.reset d N len S).2.1 (Jn.reset d N len S).2.2 ∧ Keeps F w w'
  records : ∀ {w : World} {F : Nat → Prop} {j D N : Nat} {d : Dk}, At w F j D d N → Calls Try.prog 24 #[.pointer (some ⟨j, 0, none⟩)] w fun e w' => e = .returned (.int .i64 (N : Int)) ∧ w = w'

end Go.Proofs.Ytcjpednhefeboaa

/- Numbers as bytes: the statements' walks, as the rows ask them. -/
import Derived.Test.YtopddbgeihejaaaNumL
import Derived.Test.YtopddbgeihejaaaNumM
import Derived.Test.YtopddbgeihejaaaNumN
import Derived.Test.YtopddbgeihejaaaNumO
import Derived.Test.YtopddbgeihejaaaVecRow
namespace Go.Proofs.Ytopddbgeihejaaa
open Go.RowKit
set_option linter.unusedVariables false

theorem NumsPuts_row (C : NC) (n : Int) (n0 : -9223372036854775808 ≤ n) (n1 : n ≤ 9223372036854775807) (a : Nat → Int) (ha : ∀ i, i < 3 → -9223372036854775808 ≤ a i ∧ a i ≤ 9223372036854775807) (x : Int) (x0 : 0 ≤ x) (x1 : x ≤ 18446744073709551615) (w : World) :
    Calls Try.prog 3 #[.int .i64 n, .agg #[.int .i64 (a 0), .int .i64 (a 1), .int .i64 (a 2)], .int .u64 x] w (RetBelow (.bool true) w) := by
  have h := NumsPuts_walk C n n0 (by omega) a (fun i hi => by have := ha i hi; omega) x.toNat (by omega) w
  rwa [Int.toNat_of_nonneg x0] at h

theorem NumsBack_row (C : NC) (n : Int) (n0 : -9223372036854775808 ≤ n) (n1 : n ≤ 9223372036854775807) (x : Int) (x0 : 0 ≤ x) (x1 : x ≤ 18446744073709551615) (s : ByteArray) (w : World) :
    Calls Try.prog 5 #[.int .i64 n, .int .u64 x, .string s] w (RetBelow (.bool true) w) := by
  have h := NumsBack_walk C n n0 (by omega) x.toNat (by omega) s w
  rwa [Int.toNat_of_nonneg x0] at h

theorem NumsVecs_row (C : NC) (a : Nat → Int) (ha : ∀ i, i < 3 → -9223372036854775808 ≤ a i ∧ a i ≤ 9223372036854775807) (s : ByteArray) (w : World) :
    Calls Try.prog 7 #[.agg #[.int .i64 (a 0), .int .i64 (a 1), .int .i64 (a 2)], .string s] w (RetBelow (.bool true) w) :=
  NumsVecs_walk C a (fun i hi => by have := ha i hi; omega) s w

end Go.Proofs.Ytopddbgeihejaaa

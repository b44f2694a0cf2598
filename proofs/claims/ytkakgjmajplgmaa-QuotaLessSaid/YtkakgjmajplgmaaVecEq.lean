/- Two amounts compared. -/
import Derived.Test.YtkakgjmajplgmaaQuiet
import Derived.Laws.StructEq
namespace Go.Proofs.Ytkakgjmajplgmaa
open Go.RowKit

set_option maxHeartbeats 400000 in
theorem vec_eqlIn (d : Nat) (w : World) (x y z u v t : Int) : (Op.equalIn (d + 1 + 1) 29 (.agg #[.int .i64 x, .int .i64 y, .int .i64 z]) (.agg #[.int .i64 u, .int .i64 v, .int .i64 t])).run Try.prog w = .ok (x == u && (y == v && z == t)) w := by
  have h := @run_equalIn_int Try.prog w d 3 .i64 .i64
  have hs : (sizeOf 3).run Try.prog w = .ok 1 w := by kernel_rfl
  rw [Op.equalIn]
  simp only [Sem.run_bind, run_underlying Try.underlying29, Result.andThen_ok, hs]
  have p0 : ∀ a b c : Value, (Go.part 3 #[a, b, c] 0).run Try.prog w = .ok a w := fun _ _ _ => by kernel_rfl
  have p1 : ∀ a b c : Value, (Go.part 3 #[a, b, c] 1).run Try.prog w = .ok b w := fun _ _ _ => by kernel_rfl
  have p2 : ∀ a b c : Value, (Go.part 3 #[a, b, c] 2).run Try.prog w = .ok c w := fun _ _ _ => by kernel_rfl
  have r3 : List.range' 0 3 1 = [0, 1, 2] := rfl
  have h' := fun a b => h a b Try.underlying3
  simp only [Std.Legacy.Range.forIn_eq_forIn_range', Std.Legacy.Range.size, Nat.sub_zero, Nat.add_sub_cancel, Nat.div_one, r3, List.forIn_cons, List.forIn_nil, Nat.mul_one, Sem.run_bind, p0, Result.andThen_ok, h']
  by_cases e0 : x = u <;> by_cases e1 : y = v <;> by_cases e2 : z = t <;> simp [e0, e1, e2, p1, p2, h']

theorem vec_eql (w : World) (x y z u v t : Int) : (binOp .eql 29 (.agg #[.int .i64 x, .int .i64 y, .int .i64 z]) (.agg #[.int .i64 u, .int .i64 v, .int .i64 t])).run Try.prog w = .ok (.bool (x == u && (y == v && z == t))) w := by
  rw [run_eql_struct, show (10000 : Nat) = 9998 + 1 + 1 from rfl, vec_eqlIn, Result.andThen_ok]

theorem vec_same (w : World) (x y z : Int) : (binOp .eql 29 (.agg #[.int .i64 x, .int .i64 y, .int .i64 z]) (.agg #[.int .i64 x, .int .i64 y, .int .i64 z])).run Try.prog w = .ok (.bool true) w := by
  rw [vec_eql]; simp

theorem vec_guard (w : World) (o : BinOp) (x y : Operand) (xs ys : Array Value) : (eqGuard o 29 x y (.agg xs) (.agg ys)).run Try.prog w = .ok () w := run_eqGuard_agg w o _ x y xs ys (by kernel_rfl)

end Go.Proofs.Ytkakgjmajplgmaa

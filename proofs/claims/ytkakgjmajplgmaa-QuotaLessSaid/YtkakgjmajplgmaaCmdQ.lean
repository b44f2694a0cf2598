/- Commands' parts as values: gangs, nodes, hosts; compared. -/
import Derived.Test.YtkakgjmajplgmaaCmd
import Derived.Test.YtkakgjmajplgmaaVecEq
namespace Go.Proofs.Ytkakgjmajplgmaa
open Go.RowKit
set_option linter.unusedVariables false

/-- A value's cells. -/
def V3.c (v : V3) : Array Value := #[.int .i64 v.x, .int .i64 v.y, .int .i64 v.z]
def Nd.c (n : Nd) : Array Value := #[.int .i64 n.par, .int .i64 n.wt, .int .i64 n.nom.x, .int .i64 n.nom.y, .int .i64 n.nom.z, .int .i64 n.bor.x, .int .i64 n.bor.y, .int .i64 n.bor.z, .int .i64 n.lend.x, .int .i64 n.lend.y, .int .i64 n.lend.z]
def Hs.c (h : Hs) : Array Value := #[.int .i64 h.fl, .int .i64 h.bl, .int .i64 h.ra, .int .i64 h.cap.x, .int .i64 h.cap.y, .int .i64 h.cap.z]
def Gg.c (g : Gg) : Array Value := #[.int .i64 g.id, .int .i64 g.ten, .int .i64 g.pods, .int .i64 g.need.x, .int .i64 g.need.y, .int .i64 g.need.z, .int .i64 g.run, .int .i64 g.lev, .int .i64 g.pre]

section
variable {P : Program} {w : World}
theorem fieldsOf_of {t : TypeId} {fs : Array Field} (h : P.underlying t = some (.struct fs)) : P.fieldsOf t = fs := by simp [Program.fieldsOf, h]
theorem eqF_nil (d : Nat) (xs ys : Array Value) : (Op.eqFields d xs ys []).run P w = .ok true w := rfl
theorem eqF_cons {d : Nat} {xs ys : Array Value} {f : Field} {fs : List Field} {v q : Bool} (a b : Value) (hf : f.name ≠ "_") (ha : (part f.type xs f.offset).run P w = .ok a w) (hb : (part f.type ys f.offset).run P w = .ok b w)
    (hv : (Op.equalIn d f.type a b).run P w = .ok v w) (hq : (Op.eqFields d xs ys fs).run P w = .ok q w) : (Op.eqFields d xs ys (f :: fs)).run P w = .ok (v && q) w := by
  unfold Op.eqFields
  rw [if_pos hf]
  simp only [Sem.run_bind, ha, hb, hv, Result.andThen_ok]
  cases v
  · simp
  · simp [hq]
end

theorem v3_eqlIn (d : Nat) (w : World) (a b : V3) : (Op.equalIn (d + 1 + 1) 29 (.agg #[.int .i64 a.x, .int .i64 a.y, .int .i64 a.z]) (.agg #[.int .i64 b.x, .int .i64 b.y, .int .i64 b.z])).run Try.prog w = .ok (decide (a = b)) w := by
  rw [vec_eqlIn]
  congr 1
  rw [Bool.eq_iff_iff]
  simp [V3.eq_iff]
theorem int_eqlIn (d : Nat) (w : World) (a b : Int) : (Op.equalIn (d + 1) 3 (.int .i64 a) (.int .i64 b)).run Try.prog w = .ok (a == b) w := run_equalIn_int w d _ _ _ _ _ Try.underlying3

set_option maxRecDepth 20000 in
theorem node_eqlIn (w : World) (g h : Nd) : (Op.equalIn 10000 42 (.agg g.c) (.agg h.c)).run Try.prog w = .ok (decide (g = h)) w := by
  rw [show (10000 : Nat) = 9997 + 1 + 1 + 1 from rfl, run_equalIn_struct w _ _ _ _ (by rw [fieldsOf_of Try.underlying42]; exact Try.underlying42) (by kernel_rfl), fieldsOf_of Try.underlying42]
  have e : (decide (g = h)) = (g.par == h.par && (g.wt == h.wt && (decide (g.nom = h.nom) && (decide (g.bor = h.bor) && (decide (g.lend = h.lend) && true))))) := by
    rw [Bool.eq_iff_iff]
    simp [Nd.eq_iff]
  rw [e]
  refine eqF_cons (.int .i64 g.par) (.int .i64 h.par) (by decide) rfl rfl (int_eqlIn _ _ _ _) ?_
  refine eqF_cons (.int .i64 g.wt) (.int .i64 h.wt) (by decide) rfl rfl (int_eqlIn _ _ _ _) ?_
  refine eqF_cons (.agg #[.int .i64 g.nom.x, .int .i64 g.nom.y, .int .i64 g.nom.z]) (.agg #[.int .i64 h.nom.x, .int .i64 h.nom.y, .int .i64 h.nom.z]) (by decide) rfl rfl (v3_eqlIn _ _ _ _) ?_
  refine eqF_cons (.agg #[.int .i64 g.bor.x, .int .i64 g.bor.y, .int .i64 g.bor.z]) (.agg #[.int .i64 h.bor.x, .int .i64 h.bor.y, .int .i64 h.bor.z]) (by decide) rfl rfl (v3_eqlIn _ _ _ _) ?_
  refine eqF_cons (.agg #[.int .i64 g.lend.x, .int .i64 g.lend.y, .int .i64 g.lend.z]) (.agg #[.int .i64 h.lend.x, .int .i64 h.lend.y, .int .i64 h.lend.z]) (by decide) rfl rfl (v3_eqlIn _ _ _ _) ?_
  exact eqF_nil _ _ _

set_option maxRecDepth 20000 in
theorem host_eqlIn (w : World) (g h : Hs) : (Op.equalIn 10000 62 (.agg g.c) (.agg h.c)).run Try.prog w = .ok (decide (g = h)) w := by
  rw [show (10000 : Nat) = 9997 + 1 + 1 + 1 from rfl, run_equalIn_struct w _ _ _ _ (by rw [fieldsOf_of Try.underlying62]; exact Try.underlying62) (by kernel_rfl), fieldsOf_of Try.underlying62]
  have e : (decide (g = h)) = (g.fl == h.fl && (g.bl == h.bl && (g.ra == h.ra && (decide (g.cap = h.cap) && true)))) := by
    rw [Bool.eq_iff_iff]
    simp [Hs.eq_iff]
  rw [e]
  refine eqF_cons (.int .i64 g.fl) (.int .i64 h.fl) (by decide) rfl rfl (int_eqlIn _ _ _ _) ?_
  refine eqF_cons (.int .i64 g.bl) (.int .i64 h.bl) (by decide) rfl rfl (int_eqlIn _ _ _ _) ?_
  refine eqF_cons (.int .i64 g.ra) (.int .i64 h.ra) (by decide) rfl rfl (int_eqlIn _ _ _ _) ?_
  refine eqF_cons (.agg #[.int .i64 g.cap.x, .int .i64 g.cap.y, .int .i64 g.cap.z]) (.agg #[.int .i64 h.cap.x, .int .i64 h.cap.y, .int .i64 h.cap.z]) (by decide) rfl rfl (v3_eqlIn _ _ _ _) ?_
  exact eqF_nil _ _ _

theorem node_neq (w : World) (g h : Nd) : (binOp .neq 42 (.agg g.c) (.agg h.c)).run Try.prog w = .ok (.bool (!decide (g = h))) w := by
  rw [run_neq_struct, node_eqlIn, Result.andThen_ok]
theorem node_guard (w : World) (o : BinOp) (x y : Operand) (xs ys : Array Value) : (eqGuard o 42 x y (.agg xs) (.agg ys)).run Try.prog w = .ok () w := run_eqGuard_agg w o _ x y xs ys (by kernel_rfl)

theorem host_neq (w : World) (g h : Hs) : (binOp .neq 62 (.agg g.c) (.agg h.c)).run Try.prog w = .ok (.bool (!decide (g = h))) w := by
  rw [run_neq_struct, host_eqlIn, Result.andThen_ok]
theorem host_guard (w : World) (o : BinOp) (x y : Operand) (xs ys : Array Value) : (eqGuard o 62 x y (.agg xs) (.agg ys)).run Try.prog w = .ok () w := run_eqGuard_agg w o _ x y xs ys (by kernel_rfl)

end Go.Proofs.Ytkakgjmajplgmaa

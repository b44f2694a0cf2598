/- Ledgers: deeds; the statement's walk: none. -/
import Derived.Test.YtkaikekibmgmmaaLgC
namespace Go.Proofs.Ytkaikekibmgmmaa
open Go.RowKit
set_option linter.unusedVariables false

/-- A deed. -/
structure De where
  gv : Bool
  t : Int
  v : V3
def De.c (d : De) : Array Value := #[.bool d.gv, .int .i64 d.t, .int .i64 d.v.x, .int .i64 d.v.y, .int .i64 d.v.z]
def De.wide (d : De) : Prop := In64 d.t ∧ d.v.wide

set_option maxHeartbeats 1000000 in
set_option maxRecDepth 8000 in
theorem LedgerNone_walk (C : LgC) {d : De} (hd : d.wide) {w : World} : Calls Try.prog 7 #[.agg d.c] w (RetBelow (.bool true) w) := by
  have c1 := fun w => C.take0 d.t d.v w hd.1 hd.2
  have c2 := fun w => C.give0 d.t d.v w hd.1 hd.2
  have c3 := fun w => C.used0 d.t w hd.1
  have c4 := fun w => C.all0 w
  have cA := Lib.hid (lgAwake_any C)
  obtain ⟨b, t, v1, v2, v3⟩ := d
  simp only [De.c, V3.c, Qt.z3] at *
  have q1 := fun w => vec_eql w 0 0 0 0 0 0
  have qg := fun w (x y : Operand) (xs ys : Array Value) => vec_guard w .eql x y xs ys
  have C1 := Lib.hid c1; have C2 := Lib.hid c2; have C3 := Lib.hid c3; have C4 := Lib.hid c4
  clear c1 c2 c3 c4 hd
  have R0 := Lib.hid (Row.new w #[.bool b, .int .i64 t, .int .i64 v1, .int .i64 v2, .int .i64 v3] 37)
  have G0 := Lib.hid (show Below w.heap.size w (w.alloc (.cells #[.bool b, .int .i64 t, .int .i64 v1, .int .i64 v2, .int .i64 v3] 37)) from (Below.refl _ _).alloc (Nat.le_refl _) _)
  go_enter Try.func7, Try.ntmps7
  go_upto_region 1 with fail
  obtain ⟨w0, hw0⟩ : ∃ v, w.alloc (.cells #[.bool b, .int .i64 t, .int .i64 v1, .int .i64 v2, .int .i64 v3] 37) = v := ⟨_, rfl⟩
  rw [hw0] at R0 G0 ⊢
  clear hw0
  have d1 : w0.cell? ⟨w.heap.size, 1, none⟩ = some (.int .i64 t) := R0.out.at_ 1
  have d2 : w0.cell? ⟨w.heap.size, 2, none⟩ = some (.int .i64 v1) := R0.out.at_ 2
  have d3 : w0.cell? ⟨w.heap.size, 3, none⟩ = some (.int .i64 v2) := R0.out.at_ 3
  have d4 : w0.cell? ⟨w.heap.size, 4, none⟩ = some (.int .i64 v3) := R0.out.at_ 4
  go_wp2_with fail
  refine (C1.out _).mono ?_
  rintro er w1 ⟨rfl, b1⟩
  have R1 := Lib.hid (R0.out.under b1); have G1 := Lib.hid (below_trans G0.out b1)
  clear b1 d1 d2 d3 d4
  have d1 : w1.cell? ⟨w.heap.size, 1, none⟩ = some (.int .i64 t) := R1.out.at_ 1
  have d2 : w1.cell? ⟨w.heap.size, 2, none⟩ = some (.int .i64 v1) := R1.out.at_ 2
  have d3 : w1.cell? ⟨w.heap.size, 3, none⟩ = some (.int .i64 v2) := R1.out.at_ 3
  have d4 : w1.cell? ⟨w.heap.size, 4, none⟩ = some (.int .i64 v3) := R1.out.at_ 4
  go_wp2_with fail
  refine (C2.out _).mono ?_
  rintro er w2 ⟨rfl, b2⟩
  have R2 := Lib.hid (R1.out.under b2); have G2 := Lib.hid (below_trans G1.out b2)
  clear b2 d1 d2 d3 d4
  have d1 : w2.cell? ⟨w.heap.size, 1, none⟩ = some (.int .i64 t) := R2.out.at_ 1
  have d2 : w2.cell? ⟨w.heap.size, 2, none⟩ = some (.int .i64 v1) := R2.out.at_ 2
  have d3 : w2.cell? ⟨w.heap.size, 3, none⟩ = some (.int .i64 v2) := R2.out.at_ 3
  have d4 : w2.cell? ⟨w.heap.size, 4, none⟩ = some (.int .i64 v3) := R2.out.at_ 4
  go_wp2_with fail
  refine (C3.out _).mono ?_
  rintro er w3 ⟨rfl, b3⟩
  have R3 := Lib.hid (R2.out.under b3); have G3 := Lib.hid (below_trans G2.out b3)
  clear b3 d1 d2 d3 d4
  go_wp2_with fail
  refine (C4.out _).mono ?_
  rintro er w4 ⟨ao, cap, rfl, b4⟩
  have G4 := Lib.hid (below_trans G3.out b4)
  clear b4
  go_wp2_with fail
  refine (cA.out _).mono ?_
  rintro er w5 ⟨rfl, b5⟩
  have G5 := Lib.hid (below_trans G4.out b5)
  clear b5
  go_wp2_with fail
  go_ret
  exact ⟨rfl, G5.out⟩

end Go.Proofs.Ytkaikekibmgmmaa

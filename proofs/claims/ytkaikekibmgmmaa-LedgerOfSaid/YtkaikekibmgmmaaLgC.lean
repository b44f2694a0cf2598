/- Ledgers: what the program is held to; the statements' awake. -/
import Derived.Test.YtkaikekibmgmmaaLgN
import Derived.Test.YtkaikekibmgmmaaLgQ
import Derived.Test.YtkaikekibmgmmaaGe
namespace Go.Proofs.Ytkaikekibmgmmaa
open Go.RowKit
set_option linter.unusedVariables false

/-- Some blocks stand as they were. -/
structure Kp (F : Nat → Prop) (w w' : World) : Prop where
  os : w'.os = w.os
  tape : w'.tape = w.tape
  output : w'.output = w.output
  size : w.heap.size ≤ w'.heap.size
  block : ∀ k, F k → w'.heap[k]? = w.heap[k]?
theorem Kp.refl (F : Nat → Prop) (w : World) : Kp F w w := ⟨rfl, rfl, rfl, Nat.le_refl _, fun _ _ => rfl⟩
theorem Kp.trans {F : Nat → Prop} {a b c : World} (h : Kp F a b) (k : Kp F b c) : Kp F a c := ⟨k.os.trans h.os, k.tape.trans h.tape, k.output.trans h.output, Nat.le_trans h.size k.size, fun i hi => (k.block i hi).trans (h.block i hi)⟩
theorem Kp.less {F G : Nat → Prop} {w w' : World} (h : Kp F w w') (hG : ∀ k, G k → F k) : Kp G w w' := ⟨h.os, h.tape, h.output, h.size, fun k hk => h.block k (hG k hk)⟩
theorem Kp.of_below {F : Nat → Prop} {B : Nat} {w w' : World} (h : Below B w w') (hF : ∀ k, F k → k < B) : Kp F w w' := ⟨h.os, h.tape, h.output, h.size, fun k hk => h.block k (hF k hk)⟩
theorem Kp.below {F : Nat → Prop} {B : Nat} {w w' : World} (h : Kp F w w') (hF : ∀ k, k < B → F k) : Below B w w' := ⟨h.os, h.tape, h.output, h.size, fun k hk => h.block k (hF k hk)⟩

/-- A ledger at j, none of its blocks in F; what it was made of lies below D. -/
structure LgC where
  At : Nat → World → (Nat → Prop) → Nat → Cmd → List V3 → Prop
  mono : ∀ {D : Nat} {w w' : World} {F G K : Nat → Prop} {j : Nat} {c : Cmd} {L : List V3}, At D w F j c L → Kp (fun k => k < w.heap.size ∧ ¬ (G k ∧ D ≤ k)) w w' → (∀ k, G k → F k) → (∀ k, K k → F k ∨ (w.heap.size ≤ k ∧ k < w'.heap.size)) → At D w' K j c L
  new : ∀ {c : Cmd} {vn vh : Value} {w0 w : World}, CmAt c vn vh w0 → c.wide → Cf.check c = 0 → Below w0.heap.size w0 w → Calls Try.prog 10 #[.agg (c.f vn vh)] w fun e w' => ∃ j : Nat, e = .returned (.pointer (some ⟨j, 0, none⟩)) ∧ At w0.heap.size w' (fun k => k < w.heap.size) j c (List.replicate c.nodes.length Qt.z3) ∧ Below w.heap.size w w'
  take : ∀ {D : Nat} {w : World} {F : Nat → Prop} {j : Nat} {c : Cmd} {L : List V3}, At D w F j c L → ∀ (M t : Int) (v : V3), Lg.Ok c.nodes L M → M ≤ 1048576000 → In64 t → v.wide → Calls Try.prog 14 #[.pointer (some ⟨j, 0, none⟩), .int .i64 t, .agg v.c] w fun e w' => e = .returned (.int .i64 (Lg.take c.nodes L t v).2) ∧ At D w' F j c (Lg.take c.nodes L t v).1 ∧ Kp F w w'
  give : ∀ {D : Nat} {w : World} {F : Nat → Prop} {j : Nat} {c : Cmd} {L : List V3}, At D w F j c L → ∀ (M t : Int) (v : V3), Lg.Ok c.nodes L M → M ≤ 1048576000 → In64 t → v.wide → Calls Try.prog 12 #[.pointer (some ⟨j, 0, none⟩), .int .i64 t, .agg v.c] w fun e w' => e = .returned (.int .i64 (Lg.give c.nodes L t v).2) ∧ At D w' F j c (Lg.give c.nodes L t v).1 ∧ Kp F w w'
  used : ∀ {D : Nat} {w : World} {F : Nat → Prop} {j : Nat} {c : Cmd} {L : List V3}, At D w F j c L → ∀ (M t : Int), Lg.Ok c.nodes L M → M ≤ 1048576000 → In64 t → Calls Try.prog 18 #[.pointer (some ⟨j, 0, none⟩), .int .i64 t] w fun e w' => e = .returned (.agg (Qt.ath L t).c) ∧ At D w' F j c L ∧ Kp F w w'
  all : ∀ {D : Nat} {w : World} {F : Nat → Prop} {j : Nat} {c : Cmd} {L : List V3}, At D w F j c L → ∀ (M : Int), Lg.Ok c.nodes L M → M ≤ 1048576000 → Calls Try.prog 17 #[.pointer (some ⟨j, 0, none⟩)] w fun e w' => ∃ (ao : Option Addr) (cap bb : Nat), e = .returned (.slice ao L.length cap) ∧ Sl V3.c 41 3 w' ao cap bb 0 L ∧ w.heap.size ≤ bb ∧ At D w' (fun k => F k ∨ k = bb) j c L ∧ Kp F w w'
  take0 : ∀ (t : Int) (v : V3) w, In64 t → v.wide → Calls Try.prog 14 #[.pointer none, .int .i64 t, .agg v.c] w (RetBelow (.int .i64 1) w)
  give0 : ∀ (t : Int) (v : V3) w, In64 t → v.wide → Calls Try.prog 12 #[.pointer none, .int .i64 t, .agg v.c] w (RetBelow (.int .i64 1) w)
  used0 : ∀ (t : Int) w, In64 t → Calls Try.prog 18 #[.pointer none, .int .i64 t] w (RetBelow (.agg Qt.z3.c) w)
  all0 : ∀ w, Calls Try.prog 17 #[.pointer none] w fun e w' => ∃ (ao : Option Addr) (cap : Nat), e = .returned (.slice ao 0 cap) ∧ Below w.heap.size w w'
  of_ : ∀ {c : Cmd} {vn vh : Value} {w : World} {rs : List Rv} {ar : Option Addr} {cr rb ro : Nat}, CmAt c vn vh w → c.wide → Cf.check c = 0 → Sl Rv.c 48 14 w ar cr rb ro rs → (∀ x ∈ rs, x.r.wide ∧ x.at w) → rs.length ≤ 200 → Calls Try.prog 20 #[.agg (c.f vn vh), .slice ar rs.length cr] w fun e w' => ∃ (ao : Option Addr) (cap bb : Nat), e = .returned (.slice ao (Lg.ofAll c.nodes rs).length cap) ∧ Sl V3.c 41 3 w' ao cap bb 0 (Lg.ofAll c.nodes rs) ∧ Below w.heap.size w w'

namespace Lg
/-- The chapter's example. -/
def three : Cmd := ⟨0, [⟨-1, 1, ⟨0, 0, 0⟩, ⟨0, 0, 0⟩, ⟨0, 0, 0⟩⟩, ⟨0, 1, ⟨0, 0, 0⟩, ⟨0, 0, 0⟩, ⟨0, 0, 0⟩⟩, ⟨0, 1, ⟨0, 0, 0⟩, ⟨0, 0, 0⟩, ⟨0, 0, 0⟩⟩], [⟨0, 0, 0, ⟨0, 0, 0⟩⟩], 1, 0, Cm.zG, 0⟩
def l0 : List V3 := [⟨0, 0, 0⟩, ⟨0, 0, 0⟩, ⟨0, 0, 0⟩]
def l1 : List V3 := [⟨1, 0, 0⟩, ⟨1, 0, 0⟩, ⟨0, 0, 0⟩]
def l2 : List V3 := [⟨3, 0, 0⟩, ⟨1, 0, 0⟩, ⟨2, 0, 0⟩]
theorem three_check : Cf.check three = 0 := by decide
theorem three_0 : List.replicate three.nodes.length Qt.z3 = l0 := rfl
theorem three_1 : take three.nodes l0 1 ⟨1, 0, 0⟩ = (l1, 0) := by decide
theorem three_2 : take three.nodes l1 2 ⟨2, 0, 0⟩ = (l2, 0) := by decide
theorem three_3 : take three.nodes l2 0 ⟨0, 0, 0⟩ = (l2, 3) := by decide
theorem three_4 : Qt.ath l2 0 = ⟨3, 0, 0⟩ := by decide
theorem three_5 : give three.nodes l2 1 ⟨2, 0, 0⟩ = (l2, 1) := by decide
theorem in_small' {x : Int} (h0 : -100 ≤ x) (h1 : x ≤ 100) : In64 x := by unfold In64; omega
theorem v_small' {x y z : Int} (h0 : 0 ≤ x ∧ x ≤ 100) (h1 : 0 ≤ y ∧ y ≤ 100) (h2 : 0 ≤ z ∧ z ≤ 100) : V3.wide ⟨x, y, z⟩ := by
  refine ⟨?_, ?_, ?_⟩
  · show In64 x; exact in_small' (by omega) (by omega)
  · show In64 y; exact in_small' (by omega) (by omega)
  · show In64 z; exact in_small' (by omega) (by omega)
theorem three_wide : three.wide := by
  refine ⟨in64_zero, fun n h => ?_, fun n h => ?_, in_small' (by decide) (by decide), in64_zero, gg_zero, in64_zero⟩
  · simp only [three, List.mem_cons, List.not_mem_nil, or_false] at h
    rcases h with rfl | rfl | rfl
    · exact ⟨in_small' (by decide) (by decide), in_small' (by decide) (by decide), v_small' (by decide) (by decide) (by decide), v_small' (by decide) (by decide) (by decide), v_small' (by decide) (by decide) (by decide)⟩
    · exact ⟨in_small' (by decide) (by decide), in_small' (by decide) (by decide), v_small' (by decide) (by decide) (by decide), v_small' (by decide) (by decide) (by decide), v_small' (by decide) (by decide) (by decide)⟩
    · exact ⟨in_small' (by decide) (by decide), in_small' (by decide) (by decide), v_small' (by decide) (by decide) (by decide), v_small' (by decide) (by decide) (by decide), v_small' (by decide) (by decide) (by decide)⟩
  · simp only [three, List.mem_cons, List.not_mem_nil, or_false] at h
    subst h
    exact ⟨in_small' (by decide) (by decide), in_small' (by decide) (by decide), in_small' (by decide) (by decide), v_small' (by decide) (by decide) (by decide)⟩
theorem ok_0 : Ok three.nodes l0 0 := ok_zero three.nodes
theorem ok_1 : Ok three.nodes l1 1048576 := by have h := take_ok (M := 0) 1 ⟨1, 0, 0⟩ ok_0 (by decide); rw [three_1] at h; exact h
theorem ok_2 : Ok three.nodes l2 2097152 := by have h := take_ok (M := 1048576) 2 ⟨2, 0, 0⟩ ok_1 (by decide); rw [three_2] at h; exact h
end Lg

set_option maxHeartbeats 2000000 in
set_option maxRecDepth 8000 in
theorem lgAwake_any (C : LgC) (w : World) : Calls Try.prog 9 #[] w (RetBelow (.bool true) w) := by
  have e0 := fun vn vh w0 w h g => C.new (c := Lg.three) (vn := vn) (vh := vh) (w0 := w0) (w := w) h Lg.three_wide Lg.three_check g
  have e1 := fun D w F j h => C.take (D := D) (w := w) (F := F) (j := j) (c := Lg.three) (L := Lg.l0) h 0 1 ⟨1, 0, 0⟩ Lg.ok_0 (by decide) (Lg.in_small' (by decide) (by decide)) (Lg.v_small' (by decide) (by decide) (by decide))
  have e2 := fun D w F j h => C.take (D := D) (w := w) (F := F) (j := j) (c := Lg.three) (L := Lg.l1) h 1048576 2 ⟨2, 0, 0⟩ Lg.ok_1 (by decide) (Lg.in_small' (by decide) (by decide)) (Lg.v_small' (by decide) (by decide) (by decide))
  have e3 := fun D w F j h => C.take (D := D) (w := w) (F := F) (j := j) (c := Lg.three) (L := Lg.l2) h 2097152 0 ⟨0, 0, 0⟩ Lg.ok_2 (by decide) in64_zero (Lg.v_small' (by decide) (by decide) (by decide))
  have e4 := fun D w F j h => C.used (D := D) (w := w) (F := F) (j := j) (c := Lg.three) (L := Lg.l2) h 2097152 0 Lg.ok_2 (by decide) in64_zero
  have e5 := fun D w F j h => C.give (D := D) (w := w) (F := F) (j := j) (c := Lg.three) (L := Lg.l2) h 2097152 1 ⟨2, 0, 0⟩ Lg.ok_2 (by decide) (Lg.in_small' (by decide) (by decide)) (Lg.v_small' (by decide) (by decide) (by decide))
  have e6 := fun D w F j h => C.all (D := D) (w := w) (F := F) (j := j) (c := Lg.three) (L := Lg.l2) h 2097152 Lg.ok_2 (by decide)
  rw [Lg.three_0] at e0
  rw [Lg.three_1] at e1
  rw [Lg.three_2] at e2
  rw [Lg.three_3] at e3
  rw [Lg.three_4] at e4
  rw [Lg.three_5] at e5
  simp only [Cmd.f, V3.c] at e0 e1 e2 e3 e4 e5
  rw [show Lg.three.half = 1 from rfl, show Lg.three.age = 0 from rfl] at e0
  rw [show Lg.l2.length = 3 from rfl] at e6
  have q1 := fun w => vec_eql w 3 0 0 3 0 0
  have qg := fun w (x y : Operand) (xs ys : Array Value) => vec_guard w .eql x y xs ys
  have o1 := World.ownsRow_lit (e := 60) (base := 0) (size := 11) w (List.toArray (Value.int .i64 (-1) :: Value.int .i64 1 :: Value.int .i64 0 :: Value.int .i64 0 :: Value.int .i64 0 :: Value.int .i64 0 :: Value.int .i64 0 :: Value.int .i64 0 :: Value.int .i64 0 :: Value.int .i64 0 :: Value.int .i64 0 :: Value.int .i64 0 :: Value.int .i64 1 :: Value.int .i64 0 :: Value.int .i64 0 :: Value.int .i64 0 :: Value.int .i64 0 :: Value.int .i64 0 :: Value.int .i64 0 :: Value.int .i64 0 :: Value.int .i64 0 :: Value.int .i64 0 :: Value.int .i64 0 :: Value.int .i64 1 :: Value.int .i64 0 :: Value.int .i64 0 :: Value.int .i64 0 :: Value.int .i64 0 :: Value.int .i64 0 :: Value.int .i64 0 :: Value.int .i64 0 :: Value.int .i64 0 :: Value.int .i64 0 :: [])) 3 (Nat.zero_le _) (by decide) rfl
  have o2 := World.ownsRow_lit (e := 58) (base := 0) (size := 6) (w.alloc (.cells (List.toArray (Value.int .i64 (-1) :: Value.int .i64 1 :: Value.int .i64 0 :: Value.int .i64 0 :: Value.int .i64 0 :: Value.int .i64 0 :: Value.int .i64 0 :: Value.int .i64 0 :: Value.int .i64 0 :: Value.int .i64 0 :: Value.int .i64 0 :: Value.int .i64 0 :: Value.int .i64 1 :: Value.int .i64 0 :: Value.int .i64 0 :: Value.int .i64 0 :: Value.int .i64 0 :: Value.int .i64 0 :: Value.int .i64 0 :: Value.int .i64 0 :: Value.int .i64 0 :: Value.int .i64 0 :: Value.int .i64 0 :: Value.int .i64 1 :: Value.int .i64 0 :: Value.int .i64 0 :: Value.int .i64 0 :: Value.int .i64 0 :: Value.int .i64 0 :: Value.int .i64 0 :: Value.int .i64 0 :: Value.int .i64 0 :: Value.int .i64 0 :: [])) 60)) #[.int .i64 0, .int .i64 0, .int .i64 0, .int .i64 0, .int .i64 0, .int .i64 0] 1 (Nat.zero_le _) (by decide) rfl
  have o1' := World.ownsRow.alloc o1 (.cells #[.int .i64 0, .int .i64 0, .int .i64 0, .int .i64 0, .int .i64 0, .int .i64 0] 58)
  rw [World.size_alloc] at o2
  have H0 := Lib.hid (CmAt.of_rows (c := Lg.three) (A := 0) (B := 0) o1' o2)
  have G0 := Lib.hid (two_below w (.cells (List.toArray (Value.int .i64 (-1) :: Value.int .i64 1 :: Value.int .i64 0 :: Value.int .i64 0 :: Value.int .i64 0 :: Value.int .i64 0 :: Value.int .i64 0 :: Value.int .i64 0 :: Value.int .i64 0 :: Value.int .i64 0 :: Value.int .i64 0 :: Value.int .i64 0 :: Value.int .i64 1 :: Value.int .i64 0 :: Value.int .i64 0 :: Value.int .i64 0 :: Value.int .i64 0 :: Value.int .i64 0 :: Value.int .i64 0 :: Value.int .i64 0 :: Value.int .i64 0 :: Value.int .i64 0 :: Value.int .i64 0 :: Value.int .i64 1 :: Value.int .i64 0 :: Value.int .i64 0 :: Value.int .i64 0 :: Value.int .i64 0 :: Value.int .i64 0 :: Value.int .i64 0 :: Value.int .i64 0 :: Value.int .i64 0 :: Value.int .i64 0 :: [])) 60) (.cells #[.int .i64 0, .int .i64 0, .int .i64 0, .int .i64 0, .int .i64 0, .int .i64 0] 58))
  have E0 := Lib.hid e0; have E1 := Lib.hid e1; have E2 := Lib.hid e2; have E3 := Lib.hid e3; have E4 := Lib.hid e4; have E5 := Lib.hid e5; have E6 := Lib.hid e6
  clear e0 e1 e2 e3 e4 e5 e6 o1 o2 o1'
  go_enter Try.func9, Try.ntmps9
  go_upto_region 2 with fail
  obtain ⟨W, hW⟩ : ∃ v, (w.alloc (.cells (List.toArray (Value.int .i64 (-1) :: Value.int .i64 1 :: Value.int .i64 0 :: Value.int .i64 0 :: Value.int .i64 0 :: Value.int .i64 0 :: Value.int .i64 0 :: Value.int .i64 0 :: Value.int .i64 0 :: Value.int .i64 0 :: Value.int .i64 0 :: Value.int .i64 0 :: Value.int .i64 1 :: Value.int .i64 0 :: Value.int .i64 0 :: Value.int .i64 0 :: Value.int .i64 0 :: Value.int .i64 0 :: Value.int .i64 0 :: Value.int .i64 0 :: Value.int .i64 0 :: Value.int .i64 0 :: Value.int .i64 0 :: Value.int .i64 1 :: Value.int .i64 0 :: Value.int .i64 0 :: Value.int .i64 0 :: Value.int .i64 0 :: Value.int .i64 0 :: Value.int .i64 0 :: Value.int .i64 0 :: Value.int .i64 0 :: Value.int .i64 0 :: [])) 60)).alloc (.cells #[.int .i64 0, .int .i64 0, .int .i64 0, .int .i64 0, .int .i64 0, .int .i64 0] 58) = v := ⟨_, rfl⟩
  have zW : W.heap.size = w.heap.size + 1 + 1 := by rw [← hW, World.size_alloc, World.size_alloc]
  rw [hW] at H0 G0 ⊢
  clear hW
  have rc := Row.new W #[.slice (some ⟨w.heap.size, 0, none⟩) 3 3, .slice (some ⟨w.heap.size + 1, 0, none⟩) 1 1, .int .i64 1, .int .i64 0] 25
  have g1 := Lib.hid ((Below.refl W.heap.size W).alloc (Nat.le_refl _) (.cells #[.slice (some ⟨w.heap.size, 0, none⟩) 3 3, .slice (some ⟨w.heap.size + 1, 0, none⟩) 1 1, .int .i64 1, .int .i64 0] 25))
  rw [zW] at rc
  obtain ⟨w1, hw1⟩ : ∃ v, W.alloc (.cells #[.slice (some ⟨w.heap.size, 0, none⟩) 3 3, .slice (some ⟨w.heap.size + 1, 0, none⟩) 1 1, .int .i64 1, .int .i64 0] 25) = v := ⟨_, rfl⟩
  rw [hw1] at rc g1 ⊢
  clear hw1
  have d0 := rc.at_ 0
  have d1 := rc.at_ 1
  have d2 := rc.at_ 2
  have d3 := rc.at_ 3
  simp only [List.getElem?_toArray, List.getElem?_cons_zero, List.getElem?_cons_succ] at d0 d1 d2 d3
  clear rc
  have LOW1 := Lib.hid (below_trans G0.out g1.out)
  go_wp2_with fail
  refine (E0.out _ _ _ _ H0.out g1.out).mono ?_
  rintro er w2 ⟨j, rfl, a2, b2⟩
  have A2 := Lib.hid a2; have LOW2 := Lib.hid (below_trans LOW1.out b2)
  have hF : Hid (∀ k, k < w.heap.size → k < w1.heap.size) := Lib.hid (fun k hk => Nat.lt_of_lt_of_le hk LOW1.out.size)
  clear a2 b2 d0 d1 d2 d3
  go_wp2_with fail
  refine (E1.out _ _ _ _ A2.out).mono ?_
  rintro er w3 ⟨rfl, a3, b3⟩
  have A3 := Lib.hid a3; have LOW3 := Lib.hid (LOW2.out.trans (b3.below hF.out))
  clear a3 b3
  go_wp2_with fail
  refine (E2.out _ _ _ _ A3.out).mono ?_
  rintro er w4 ⟨rfl, a4, b4⟩
  have A4 := Lib.hid a4; have LOW4 := Lib.hid (LOW3.out.trans (b4.below hF.out))
  clear a4 b4
  go_wp2_with fail
  refine (E3.out _ _ _ _ A4.out).mono ?_
  rintro er w5 ⟨rfl, a5, b5⟩
  have A5 := Lib.hid a5; have LOW5 := Lib.hid (LOW4.out.trans (b5.below hF.out))
  clear a5 b5
  go_wp2_with fail
  refine (E4.out _ _ _ _ A5.out).mono ?_
  rintro er w6 ⟨rfl, a6, b6⟩
  have A6 := Lib.hid a6; have LOW6 := Lib.hid (LOW5.out.trans (b6.below hF.out))
  clear a6 b6
  have al := (Below.refl w6.heap.size w6).alloc (Nat.le_refl w6.heap.size) (.cells #[.int .i64 3, .int .i64 0, .int .i64 0] 35)
  have a7 := C.mono A6.out (G := fun _ => False) (K := fun k => k < w1.heap.size ∨ k = w6.heap.size) (Kp.of_below al (fun k hk => hk.1)) (fun k hk => hk.elim) (fun k hk => hk.elim .inl (fun e => .inr ⟨by omega, by rw [World.size_alloc]; omega⟩))
  have r7 := Row.new w6 #[.int .i64 3, .int .i64 0, .int .i64 0] 35
  go_upto_region 7 with fail
  obtain ⟨w7, hw7⟩ : ∃ v, w6.alloc (.cells #[.int .i64 3, .int .i64 0, .int .i64 0] 35) = v := ⟨_, rfl⟩
  rw [hw7] at al a7 r7 ⊢
  have A7 := Lib.hid a7; have LOW7 := Lib.hid (below_trans LOW6.out al); have R7 := Lib.hid r7
  clear al a7 r7 hw7
  go_wp2_with fail
  refine (E5.out _ _ _ _ A7.out).mono ?_
  rintro er w8 ⟨rfl, a8, b8⟩
  have r8 : Row w8 w6.heap.size #[.int .i64 3, .int .i64 0, .int .i64 0] 35 := (b8.block _ (.inr rfl)).trans R7.out
  have A8 := Lib.hid a8; have LOW8 := Lib.hid (LOW7.out.trans (b8.below (fun k hk => .inl (hF.out k hk))))
  have p0 : w8.cell? ⟨w6.heap.size, 0, none⟩ = some (.int .i64 3) := r8.at_ 0
  have p1 : w8.cell? ⟨w6.heap.size, 1, none⟩ = some (.int .i64 0) := r8.at_ 1
  have p2 : w8.cell? ⟨w6.heap.size, 2, none⟩ = some (.int .i64 0) := r8.at_ 2
  clear a8 b8 r8
  go_wp2_with fail
  refine (E6.out _ _ _ _ A8.out).mono ?_
  rintro er w9 ⟨ao, cap, bb, rfl, sl, hb, a9, b9⟩
  have LOW9 := Lib.hid (LOW8.out.trans (b9.below (fun k hk => .inl (hF.out k hk))))
  clear sl a9 b9 p0 p1 p2
  go_wp2_with fail
  go_ret
  exact ⟨rfl, LOW9.out⟩

end Go.Proofs.Ytkaikekibmgmmaa

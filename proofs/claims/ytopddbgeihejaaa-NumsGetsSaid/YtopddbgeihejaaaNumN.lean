/- Numbers as bytes: the statements' walks: NumsVecs, NumsGets. -/
import Derived.Test.YtopddbgeihejaaaNumC
namespace Go.Proofs.Ytopddbgeihejaaa
open Go.RowKit
set_option linter.unusedVariables false

set_option maxHeartbeats 1000000 in
theorem NumsVecs_walk (C : NC) (a : Nat → Int) (ha : ∀ i, i < 3 → -9223372036854775808 ≤ a i ∧ a i < 9223372036854775808) (s : ByteArray) (w : World) :
    Calls Try.prog 7 #[.agg #[.int .i64 (a 0), .int .i64 (a 1), .int .i64 (a 2)], .string s] w (RetBelow (.bool true) w) := by
  have cA := Lib.hid (nAwake_any C)
  have c1 := fun w => C.putVec a ha w
  have hb := Nu.getV_back (a 0).toNat (a 1).toNat (a 2).toNat (by have := ha 0 (by decide); omega) (by have := ha 1 (by decide); omega) (by have := ha 2 (by decide); omega) s
  have c2 := fun w => C.getVec (Nu.putV (a 0).toNat (a 1).toNat (a 2).toNat ++ s) w
  rw [hb] at c2
  have hz27 : (Nu.putV (a 0).toNat (a 1).toNat (a 2).toNat).size ≤ 27 := by
    unfold Nu.putV
    rw [ByteArray.size_append, ByteArray.size_append]
    have q0 := Nu.put_size (a 0).toNat (by have := ha 0 (by decide); omega)
    have q1 := Nu.put_size (a 1).toNat (by have := ha 1 (by decide); omega)
    have q2 := Nu.put_size (a 2).toNat (by have := ha 2 (by decide); omega)
    omega
  obtain ⟨p, hp⟩ : ∃ p, Nu.putV (a 0).toNat (a 1).toNat (a 2).toNat = p := ⟨_, rfl⟩
  rw [hp] at c1 c2 hz27
  unfold Nu.ansV at c2
  simp only at c2
  clear hb hp ha
  obtain ⟨z, hz⟩ : ∃ z : Int, (s.size : Int) = z := ⟨_, rfl⟩
  obtain ⟨x0, h0⟩ : ∃ x, a 0 = x := ⟨_, rfl⟩
  obtain ⟨x1, h1⟩ : ∃ x, a 1 = x := ⟨_, rfl⟩
  obtain ⟨x2, h2⟩ : ∃ x, a 2 = x := ⟨_, rfl⟩
  rw [h0, h1, h2] at c1 c2 ⊢
  clear h0 h1 h2
  by_cases hbad : x0 < 0 ∨ x1 < 0 ∨ x2 < 0 ∨ 10000 < z
  · clear c1 c2
    have cases4 : x0 < 0 ∨ (¬ x0 < 0 ∧ x1 < 0) ∨ (¬ x0 < 0 ∧ ¬ x1 < 0 ∧ x2 < 0) ∨ (¬ x0 < 0 ∧ ¬ x1 < 0 ∧ ¬ x2 < 0 ∧ 10000 < z) := by omega
    clear hbad
    rcases cases4 with h | ⟨h, h'⟩ | ⟨h, h', h''⟩ | ⟨h, h', h'', h'''⟩ <;>
    (go_enter Try.func7, Try.ntmps7
     go_wp2_with fail
     refine (cA.out _).mono ?_
     rintro e w1 ⟨rfl, b1⟩
     have B1 := Lib.hid (((Below.refl w.heap.size w).alloc (Nat.le_refl _) (.cells #[.int .i64 x0, .int .i64 x1, .int .i64 x2] 23)).trans (b1.mono (by simp))); clear b1
     go_wp2_with fail
     go_ret
     exact ⟨rfl, B1.out⟩)
  · have k0 : ¬ x0 < 0 := fun h => hbad (.inl h)
    have k1 : ¬ x1 < 0 := fun h => hbad (.inr (.inl h))
    have k2 : ¬ x2 < 0 := fun h => hbad (.inr (.inr (.inl h)))
    have k3 : ¬ 10000 < z := fun h => hbad (.inr (.inr (.inr h)))
    clear hbad
    rw [show ((x0.toNat : Nat) : Int) = x0 by omega, show ((x1.toNat : Nat) : Int) = x1 by omega, show ((x2.toNat : Nat) : Int) = x2 by omega] at c2
    obtain ⟨l, hl⟩ : ∃ l : Int, (p.size : Int) = l := ⟨_, rfl⟩
    have hl9 : 0 ≤ l ∧ l ≤ 27 := by omega
    rw [hl] at c2
    clear hz27
    have C1 := Lib.hid c1; have C2 := Lib.hid c2
    clear c1 c2
    have hEq := fun w => vec_same w x0 x1 x2
    go_enter Try.func7, Try.ntmps7
    go_wp2_with fail
    refine (C1.out _).mono ?_
    rintro e w1 ⟨rfl, b1⟩
    have hh : w1.heap[w.heap.size]? = some (.cells #[.int .i64 x0, .int .i64 x1, .int .i64 x2] 23 (0, 0)) := (b1.block _ (by simp)).trans (heap_top w _ 0 _ rfl)
    have B1 := Lib.hid (((Below.refl w.heap.size w).alloc (Nat.le_refl _) (.cells #[.int .i64 x0, .int .i64 x1, .int .i64 x2] 23)).trans (b1.mono (by simp))); clear b1
    have HH := Lib.hid hh; clear hh
    go_wp2_with fail
    refine (C2.out _).mono ?_
    rintro e w2 ⟨rfl, b2⟩
    have hh2 := (b2.block _ (lt_of_block HH.out)).trans HH.out
    have B2 := Lib.hid (below_trans B1.out b2); clear b2
    have hld : ∀ (w' : World), w'.heap[w.heap.size]? = some (.cells #[.int .i64 x0, .int .i64 x1, .int .i64 x2] 23 (0, 0)) → w'.rangeAt w.heap.size 0 [.int .i64 x0, .int .i64 x1, .int .i64 x2] := fun w' h j v hj => by
      rw [cell_of_row _ _ _ _ _ _ h, Nat.zero_add]; simpa using hj
    have hr1 := hld _ ((Below.heap_alloc w2 (.cells #[.int .i64 x0, .int .i64 x1, .int .i64 x2] 23) _ (lt_of_block hh2)).trans hh2)
    have d0 : (w2.alloc (.cells #[.int .i64 x0, .int .i64 x1, .int .i64 x2] 23)).cell? ⟨w.heap.size, 0, none⟩ = some (.int .i64 x0) := hr1 0 _ rfl
    have d1 : (w2.alloc (.cells #[.int .i64 x0, .int .i64 x1, .int .i64 x2] 23)).cell? ⟨w.heap.size, 1, none⟩ = some (.int .i64 x1) := hr1 1 _ rfl
    have d2 : (w2.alloc (.cells #[.int .i64 x0, .int .i64 x1, .int .i64 x2] 23)).cell? ⟨w.heap.size, 2, none⟩ = some (.int .i64 x2) := hr1 2 _ rfl
    have HB : Hid (Below w.heap.size w (w2.alloc (.cells #[.int .i64 x0, .int .i64 x1, .int .i64 x2] 23))) := Lib.hid (B2.out.alloc B2.out.size _)
    clear hld hh2 hr1 HH B1 B2
    go_wp2_with fail
    refine (cA.out _).mono ?_
    rintro e w3 ⟨rfl, b3⟩
    have B3 := Lib.hid (below_trans HB.out b3); clear b3
    go_wp2_with fail
    go_ret
    exact ⟨rfl, B3.out⟩

end Go.Proofs.Ytopddbgeihejaaa

/- Numbers as bytes: the statements' walks: NumsBack, NumsOnly. -/
import Derived.Test.YtopddbgeihejaaaNumC
namespace Go.Proofs.Ytopddbgeihejaaa
open Go.RowKit
set_option linter.unusedVariables false

set_option maxHeartbeats 1000000 in
theorem NumsBack_walk (C : NC) (n : Int) (n0 : -9223372036854775808 ≤ n) (n1 : n < 9223372036854775808) (x : Nat) (hx : x < 18446744073709551616) (s : ByteArray) (w : World) :
    Calls Try.prog 5 #[.int .i64 n, .int .u64 (x : Int), .string s] w (RetBelow (.bool true) w) := by
  have cA := Lib.hid (nAwake_any C)
  have c1 := fun w => C.put n n0 n1 w
  have c2 := fun w => C.get (Nu.put n.toNat ++ s) w
  have c3 := fun w => C.putFix x hx w
  have c4 := fun w => C.getFix (Nu.fix x ++ s) w
  rw [Nu.get_back n.toNat (by omega) s] at c2
  rw [Nu.getF_back x hx s] at c4
  have hp9 := (Nu.put_size n.toNat (by omega)).2
  have hf8 := Nu.fix_size x
  obtain ⟨z, hz⟩ : ∃ z : Int, (s.size : Int) = z := ⟨_, rfl⟩
  obtain ⟨X, hX⟩ : ∃ X : Int, (x : Int) = X := ⟨_, rfl⟩
  obtain ⟨p, hp⟩ : ∃ p, Nu.put n.toNat = p := ⟨_, rfl⟩
  obtain ⟨f, hf⟩ : ∃ p, Nu.fix x = p := ⟨_, rfl⟩
  rw [hp] at c1 c2 hp9
  rw [hf] at c3 c4 hf8
  unfold Nu.ans at c2
  unfold Nu.ansF at c4
  simp only at c2 c4
  rw [hX] at c3 c4 ⊢
  clear hp hf hX hx
  have fin : ∀ (K : Ending → World → Prop), True := fun _ => trivial
  clear fin
  by_cases hneg : n < 0
  · clear n0 n1 c1 c2 c3 c4
    go_enter Try.func5, Try.ntmps5
    go_wp2_with fail
    refine (cA.out _).mono ?_
    rintro e w1 ⟨rfl, b1⟩
    have B1 := Lib.hid b1; clear b1
    go_wp2_with fail
    go_ret
    exact ⟨rfl, B1.out⟩
  have hn : ((n.toNat : Nat) : Int) = n := by omega
  rw [hn] at c2
  obtain ⟨l, hl⟩ : ∃ l : Int, (p.size : Int) = l := ⟨_, rfl⟩
  have hl9 : 0 ≤ l ∧ l ≤ 9 := by omega
  rw [hl] at c2
  have hf8' : (f.size : Int) = 8 := by omega
  clear hn hp9 hf8
  by_cases hbig : 10000 < z
  · clear c1 c2 c3 c4
    go_enter Try.func5, Try.ntmps5
    go_wp2_with fail
    refine (cA.out _).mono ?_
    rintro e w1 ⟨rfl, b1⟩
    have B1 := Lib.hid b1; clear b1
    go_wp2_with fail
    go_ret
    exact ⟨rfl, B1.out⟩
  · have C1 := Lib.hid c1; have C2 := Lib.hid c2; have C3 := Lib.hid c3; have C4 := Lib.hid c4
    clear c1 c2 c3 c4
    go_enter Try.func5, Try.ntmps5
    go_wp2_with fail
    refine (C1.out _).mono ?_
    rintro e w1 ⟨rfl, b1⟩
    have B1 := Lib.hid b1; clear b1
    go_wp2_with fail
    refine (C2.out _).mono ?_
    rintro e w2 ⟨rfl, b2⟩
    have B2 := Lib.hid (below_trans B1.out b2); clear b2
    go_wp2_with fail
    refine (C3.out _).mono ?_
    rintro e w3 ⟨rfl, b3⟩
    have B3 := Lib.hid (below_trans B2.out b3); clear b3
    go_wp2_with fail
    refine (C4.out _).mono ?_
    rintro e w4 ⟨rfl, b4⟩
    have B4 := Lib.hid (below_trans B3.out b4); clear b4
    go_wp2_with fail
    refine (cA.out _).mono ?_
    rintro e w5 ⟨rfl, b5⟩
    have B5 := Lib.hid (below_trans B4.out b5); clear b5
    go_wp2_with fail
    go_ret
    exact ⟨rfl, B5.out⟩

set_option maxHeartbeats 1000000 in
theorem NumsOnly_walk (C : NC) (s : ByteArray) (w : World) : Calls Try.prog 6 #[.string s] w (RetBelow (.bool true) w) := by
  have cA := Lib.hid (nAwake_any C)
  have c1 := fun w => C.get s w
  rcases Nu.get_err s with h | h
  · obtain ⟨g, hg⟩ : ∃ g, Nu.get s = g := ⟨_, rfl⟩
    rw [hg] at h
    obtain ⟨n, k, e⟩ := g
    simp only at h
    subst h
    have ho := Nu.get_only hg
    have cp := fun w => C.put (n : Int) (by omega) (by omega) w
    rw [Int.toNat_natCast, ho.2.2.2.1] at cp
    rw [hg] at c1
    unfold Nu.ans at c1
    simp only at c1
    have hcut := fun w => str_to s k ho.2.2.1 w
    obtain ⟨z, hz⟩ : ∃ z : Int, (s.size : Int) = z := ⟨_, rfl⟩
    obtain ⟨N, hN⟩ : ∃ N : Int, (n : Int) = N := ⟨_, rfl⟩
    obtain ⟨t, ht⟩ : ∃ t, s.extract 0 k = t := ⟨_, rfl⟩
    rw [ht] at cp hcut
    have hk : (1 : Int) ≤ k ∧ (k : Int) ≤ 9 ∧ (k : Int) ≤ z := by omega
    obtain ⟨K, hK⟩ : ∃ K : Int, (k : Int) = K := ⟨_, rfl⟩
    rw [hN] at c1 cp
    rw [hK] at c1 hcut hk
    clear hg ho hN hK ht
    have k1 := hk.1; have k2 := hk.2.1; have k3 := hk.2.2
    have C1 := Lib.hid c1; have CP := Lib.hid cp
    clear hk c1 cp
    go_enter Try.func6, Try.ntmps6
    go_wp2_with fail
    refine (C1.out _).mono ?_
    rintro e w1 ⟨rfl, b1⟩
    have B1 := Lib.hid b1; clear b1
    go_wp2_with fail
    refine region_quiet (fun w2 => Below w1.heap.size w1 w2) (by kernel_rfl) (by kernel_rfl) (below_drewN (Below.refl _ _) 1) ?_
    repeat (first
      | (go_big_quiet_skip)
      | (go_big_quiet_step ((intro g2; first
        | (with_reducible rfl)
        | (with_reducible exact quiet_below g2 (CP.out _))
        | (with_reducible exact quiet_below g2 (cA.out _))))))
    refine wpQuiet_nil ?_
    intro w2 g2
    go_wp2_with fail
    go_ret
    exact ⟨rfl, below_trans B1.out g2⟩
  · rw [h] at c1
    unfold Nu.ans at c1
    have C1 := Lib.hid c1
    clear c1 h
    go_enter Try.func6, Try.ntmps6
    go_wp2_with fail
    refine (C1.out _).mono ?_
    rintro e w1 ⟨rfl, b1⟩
    have B1 := Lib.hid b1; clear b1
    go_wp2_with fail
    refine (cA.out _).mono ?_
    rintro e w2 ⟨rfl, b2⟩
    have B2 := Lib.hid (below_trans B1.out b2); clear b2
    go_wp2_with fail
    go_ret
    exact ⟨rfl, B2.out⟩

end Go.Proofs.Ytopddbgeihejaaa

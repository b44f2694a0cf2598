/- The landed numbers: PutVec, Get. -/
import Derived.Test.YtpnfhcpapjomnaaPnA
namespace Go.Proofs.Ytpnfhcpapjomnaa
open Go.RowKit
set_option linter.unusedVariables false

set_option maxHeartbeats 400000 in
theorem PutVec_any (a : Nat → Int) (h : ∀ i, i < 3 → -9223372036854775808 ≤ a i ∧ a i < 9223372036854775808) (w : World) : Calls Try.prog 41 #[.agg #[.int .i64 (a 0), .int .i64 (a 1), .int .i64 (a 2)]] w (RetBelow (.string (Nu.putV (a 0).toNat (a 1).toNat (a 2).toNat)) w) := by
  have c0 := fun w => Put_any (a 0).toNat (a 0) (Nat.le_refl _) (h 0 (by decide)).1 (h 0 (by decide)).2 w
  have c1 := fun w => Put_any (a 1).toNat (a 1) (Nat.le_refl _) (h 1 (by decide)).1 (h 1 (by decide)).2 w
  have c2 := fun w => Put_any (a 2).toNat (a 2) (Nat.le_refl _) (h 2 (by decide)).1 (h 2 (by decide)).2 w
  have z0 := (Nu.put_size (a 0).toNat (by have := h 0 (by decide); omega)).2
  have z1 := (Nu.put_size (a 1).toNat (by have := h 1 (by decide); omega)).2
  have z2 := (Nu.put_size (a 2).toNat (by have := h 2 (by decide); omega)).2
  unfold Nu.putV
  clear h
  obtain ⟨p0, e0⟩ : ∃ p, Nu.put (a 0).toNat = p := ⟨_, rfl⟩
  obtain ⟨p1, e1⟩ : ∃ p, Nu.put (a 1).toNat = p := ⟨_, rfl⟩
  obtain ⟨p2, e2⟩ : ∃ p, Nu.put (a 2).toNat = p := ⟨_, rfl⟩
  rw [e0] at c0 z0 ⊢
  rw [e1] at c1 z1 ⊢
  rw [e2] at c2 z2 ⊢
  clear e0 e1 e2
  have hcat : Nu.cat [p0, p1, p2] = p0 ++ (p1 ++ p2) := by
    apply ba_ext
    rw [cat_flat, ba_app, ba_app]
    simp
  have hz : (Nu.cat [p0, p1, p2]).size ≤ 1000 := by rw [hcat, ByteArray.size_append, ByteArray.size_append]; omega
  rw [← hcat]
  clear hcat z0 z1 z2
  obtain ⟨x, hx⟩ : ∃ x, a 0 = x := ⟨_, rfl⟩
  obtain ⟨y, hy⟩ : ∃ x, a 1 = x := ⟨_, rfl⟩
  obtain ⟨z, hz'⟩ : ∃ x, a 2 = x := ⟨_, rfl⟩
  rw [hx] at c0 ⊢
  rw [hy] at c1 ⊢
  rw [hz'] at c2 ⊢
  clear hx hy hz'
  have C0 := Lib.hid c0; have C1 := Lib.hid c1; have C2 := Lib.hid c2; have HZ := Lib.hid hz
  clear c0 c1 c2 hz
  go_enter Try.func41, Try.ntmps41
  go_wp2_with fail
  have gW : Below w.heap.size w (w.alloc (.cells #[.int .i64 x, .int .i64 y, .int .i64 z] 27)) := (Below.refl _ _).alloc (Nat.le_refl _) _
  have hcl : ∀ i v, (#[Value.int .i64 x, .int .i64 y, .int .i64 z])[i]? = some v → (w.alloc (.cells #[.int .i64 x, .int .i64 y, .int .i64 z] 27)).cell? ⟨w.heap.size, i, none⟩ = some v := fun i v hv => (World.cell?_alloc_at (w := w) _ _ _ i rfl).trans hv
  have h0 := hcl 0 (.int .i64 x) rfl
  have h1 := hcl 1 (.int .i64 y) rfl
  have h2 := hcl 2 (.int .i64 z) rfl
  have hlt : w.heap.size < (w.alloc (.cells #[.int .i64 x, .int .i64 y, .int .i64 z] 27)).heap.size := by simp
  clear hcl
  obtain ⟨W, hW⟩ : ∃ W, w.alloc (.cells #[.int .i64 x, .int .i64 y, .int .i64 z] 27) = W := ⟨_, rfl⟩
  rw [hW] at gW h0 h1 h2 hlt ⊢
  clear hW
  have GW := Lib.hid gW; clear gW
  have q0 := fun w2 (g : Below W.heap.size W w2) => (g.cell (p := ⟨w.heap.size, 0, none⟩) hlt).trans h0
  have q1 := fun w2 (g : Below W.heap.size W w2) => (g.cell (p := ⟨w.heap.size, 1, none⟩) hlt).trans h1
  have q2 := fun w2 (g : Below W.heap.size W w2) => (g.cell (p := ⟨w.heap.size, 2, none⟩) hlt).trans h2
  clear h0 h1 h2 hlt
  refine region_quiet_tail 9 (fun w2 => Below W.heap.size W w2) (by kernel_rfl) (by kernel_rfl) (below_drewN (Below.refl _ _) 1) ?_
  simp only [List.take_succ_cons, List.take_zero, List.drop_succ_cons, List.drop_zero]
  repeat (first
    | (go_big_quiet_skip)
    | (refine quiet_cell _ _ 3 _ _ q0 rfl rfl ?_ Try.underlying3 rfl ?_; (focus kernel_rfl); simp only [Act.put, List.setIfInBounds_toArray, List.set_cons_zero, List.set_cons_succ])
    | (refine quiet_cell _ _ 3 _ _ q1 rfl rfl ?_ Try.underlying3 rfl ?_; (focus kernel_rfl); simp only [Act.put, List.setIfInBounds_toArray, List.set_cons_zero, List.set_cons_succ])
    | (refine quiet_cell _ _ 3 _ _ q2 rfl rfl ?_ Try.underlying3 rfl ?_; (focus kernel_rfl); simp only [Act.put, List.setIfInBounds_toArray, List.set_cons_zero, List.set_cons_succ])
    | (go_big_quiet_step ((intro g2; first
      | (with_reducible rfl)
      | (with_reducible exact quiet_below g2 (C0.out _))
      | (with_reducible exact quiet_below g2 (C1.out _))
      | (with_reducible exact quiet_below g2 (C2.out _))))))
  refine wpQuiet_nil ?_
  intro w2 g2
  have G2 := Lib.hid g2; clear g2
  have hj := join_any w2.heap.size 0 3 [p0, p1, p2] (w2.alloc (.cells #[.string p0, .string p1, .string p2] 9)) (fun j x hx => by
        rw [Nat.zero_add]
        refine (World.cell?_alloc_at (w := w2) _ _ _ j rfl).trans ?_
        rcases j with _ | _ | _ | j
        · simp at hx; subst hx; rfl
        · simp at hx; subst hx; rfl
        · simp at hx; subst hx; rfl
        · simp at hx) (by simp) (by simp) (by simp) HZ.out
  have HJ := Lib.hid hj; clear hj
  go_wp2_with fail
  refine HJ.out.mono ?_
  rintro e w3 ⟨rfl, b3⟩
  have B3 := Lib.hid (below_trans ((below_trans GW.out G2.out).alloc (below_trans GW.out G2.out).size _) b3); clear b3
  go_wp2_with fail
  go_ret
  exact ⟨rfl, B3.out⟩

/-- A group of bits ahead of those that were read. -/
theorem group_bits {m j c : Int} (hj0 : 0 ≤ j) (hj : j < 9) (hm0 : 0 ≤ m) (hm : m < 128 ^ j.toNat) (hc0 : 0 ≤ c) (hc : c < 256) :
    bits .or .i64 m (wrap64 (c % 128 * 2 ^ (7 * j).toNat)) = m + c % 128 * 128 ^ j.toNat := by
  have hp := nu_pow j.toNat (by omega)
  have hst := nu_step hj0 hj hm0 hm hc0 hc
  have e7 : (7 * j).toNat = 7 * j.toNat := by omega
  obtain ⟨i, hi⟩ : ∃ i, j.toNat = i := ⟨_, rfl⟩
  rw [e7] at hst ⊢
  rw [hi] at hp hst hm ⊢
  have hx : c % 128 * 2 ^ (7 * i) % 2 ^ (7 * i) = 0 := Int.mul_emod_left _ _
  rw [hp.1] at hst hx ⊢
  have p1 := hp.2.2.1; have p2 := hp.2.2.2
  have hpn : (128 : Int) ^ i = 2 ^ (7 * i) := hp.1.symm
  clear hp
  have t1 : c % 128 * 128 ^ i ≤ 127 * 128 ^ i := Int.mul_le_mul_of_nonneg_right (by omega) (by omega)
  have t0 : 0 ≤ c % 128 * 128 ^ i := Int.mul_nonneg (by omega) (by omega)
  have w1 : wrap64 (c % 128 * 128 ^ i) = c % 128 * 128 ^ i := by unfold wrap64; omega
  rw [w1]
  have hcomm : bits .or .i64 m (c % 128 * 128 ^ i) = bits .or .i64 (c % 128 * 128 ^ i) m := by simp only [bits, BitVec.or_comm]
  rw [hcomm, bits_join .i64 63 (by decide) (fun n h0 h1 => by rw [IntKind.wrap_i64]; omega) (7 * i) _ _ t0 (by rw [← hpn]; exact hx) (by omega) hm0 (by rw [← hpn]; exact hm) (by omega)]
  omega

set_option maxHeartbeats 400000 in
theorem Get_any (s : ByteArray) (w : World) : Calls Try.prog 56 #[.string s] w fun e w' => e = .returned (Nu.ans (Nu.get s)) ∧ w = w' := by
  obtain ⟨q, hq⟩ : ∃ q, Nu.get s = q := ⟨_, rfl⟩
  rw [hq]
  have HQ := Lib.hid hq; clear hq
  obtain ⟨z, hz⟩ : ∃ z : Int, (s.size : Int) = z := ⟨_, rfl⟩
  obtain ⟨lim, hlim⟩ : ∃ l : Int, min z 9 = l := ⟨_, rfl⟩
  go_enter Try.func56, Try.ntmps56
  go_wp2_with fail
  go_loopw [5, 11] (fun n i wr => ∃ (m j : Int), n = .int .i64 m ∧ i = .int .i64 j ∧ 0 ≤ j ∧ j ≤ 9 ∧ j ≤ z ∧ 0 ≤ m ∧ Hid (m < 128 ^ j.toNat ∧ Nu.getL j.toNat m.toNat (s.data.toList.drop j.toNat) = q) ∧ wr = w) (fun _ i _ => 9 - (intOf i).toNat)
  case atStart => exact ⟨0, 0, rfl, rfl, by omega, by omega, by omega, by omega, ⟨by simp, HQ.out⟩, rfl⟩
  case round =>
    obtain ⟨m, j, rfl, rfl, hj0, hj9, hjz, hm, hd, rfl⟩ := hrel
    clear HQ
    by_cases hlt : j < z
    · have hi := fun w => index_at s j.toNat (by omega) w
      have hb := Cr.bt_lt s j.toNat
      have hc0 : (0 : Int) ≤ (Cr.bt s j.toNat : Int) := by omega
      have hc1 : (Cr.bt s j.toNat : Int) < 256 := by omega
      rw [show ((j.toNat : Nat) : Int) = j by omega] at hi
      obtain ⟨c, hc⟩ : ∃ c : Int, (Cr.bt s j.toNat : Int) = c := ⟨_, rfl⟩
      rw [hc] at hi hc0 hc1
      clear hb
      by_cases hk9 : j < 9
      · have hby := nu_byte hj0 hk9 (by omega) hm hc hd.out.2
        have hst := nu_step hj0 hk9 hm hd.out.1 hc0 hc1
        have hg := group_bits hj0 hk9 hm hd.out.1 hc0 hc1
        clear hc
        obtain ⟨t, ht⟩ : ∃ t, m + c % 128 * 128 ^ j.toNat = t := ⟨_, rfl⟩
        rw [ht] at hby hst hg
        clear ht
        have t0 := hst.2.1; have t1 := hst.2.2.2
        have HB := Lib.hid hby; have HS := Lib.hid hst.2.2.1; have HG := Lib.hid hg
        clear hby hst hg
        by_cases hge : 128 ≤ c
        · go_wp2_with fail
          go_roundw
          case rel => exact ⟨t, j + 1, congrArg (Value.int .i64) HG.out, rfl, by omega, by omega, by omega, t0, ⟨HS.out, HB.out.1 hge⟩, trivial⟩
          case measure => simp [intOf]; omega
        · by_cases hz0 : c = 0
          · by_cases hj1 : 0 < j
            · have hq := HB.out.2.1 hz0 hj1
              subst hq
              go_wp2_with fail
              go_ret3
              exact ⟨rfl, rfl⟩
            · have hq := HB.out.2.2 (by omega) (by omega)
              subst hq
              go_wp2_with fail
              go_ret3
              have e1 := HG.out
              exact ⟨ans_of (by rw [← e1, hz0]; simp [wrap64]) t0 hj0, rfl⟩
          · have hq := HB.out.2.2 (by omega) (by omega)
            subst hq
            go_wp2_with fail
            go_ret3
            exact ⟨ans_of HG.out t0 hj0, rfl⟩
      · have hq := nu_none hj0 (.inl (by omega)) hd.out.2
        subst hq
        go_wp2_with fail
        go_ret3
        exact ⟨rfl, rfl⟩
    · have hq := nu_none hj0 (.inr (by omega)) hd.out.2
      subst hq
      go_wp2_with fail
      go_ret3
      exact ⟨rfl, rfl⟩

end Go.Proofs.Ytpnfhcpapjomnaa

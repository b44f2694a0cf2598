/- Numbers as bytes: the plain answer. -/
import Derived.Test.YtpnfhcpapjomnaaNum
import Derived.Test.YtpnfhcpapjomnaaCell
namespace Go.Proofs.Ytpnfhcpapjomnaa
open Go.RowKit
set_option linter.unusedVariables false

theorem one_conv (b : UInt8) (x : Int) (hx : x = (b.toNat : Int)) (w : World) :
    (convert 70 9 (.slice (some ⟨w.heap.size, 0, none⟩) 1 1)).run Try.prog (w.alloc (.cells #[.int .u8 x] 5)) = .ok (.string ⟨#[b]⟩) (w.alloc (.cells #[.int .u8 x] 5)) := by
  subst hx
  refine run_convert_bytes_back (w := w.alloc (.cells #[.int .u8 (b.toNat : Int)] 5)) 70 9 5 ⟨w.heap.size, 0, none⟩ 1 [b] Try.underlying70 Try.underlying5 Try.underlying9 (fun j hj => ?_)
  have hc := fun j => World.cell?_alloc_mark w #[.int .u8 (b.toNat : Int)] 5 (0, 0) j
  have e : (⟨w.heap.size, 0, none⟩ : Addr).add j = ⟨w.heap.size, j, none⟩ := by simp [Addr.add]; omega
  rw [e, hc j]
  have : j = 0 := by simpa using hj
  subst this
  rfl

theorem put_go (t : ByteArray) (k : Nat) (h : 128 ≤ k) : t ++ Nu.put k = (t ++ ⟨#[UInt8.ofNat (128 + k % 128)]⟩) ++ Nu.put (k / 128) := by
  rw [ba_cat]
  congr 1
  unfold Nu.put
  rw [Nu.putL_ge h, show (⟨#[UInt8.ofNat (128 + k % 128)]⟩ : ByteArray) = ⟨[UInt8.ofNat (128 + k % 128)].toArray⟩ from rfl, ba_join]
  rfl
theorem put_end (t : ByteArray) (k : Nat) (h : k < 128) : t ++ Nu.put k = t ++ ⟨#[UInt8.ofNat k]⟩ := by
  unfold Nu.put
  rw [Nu.putL_lt h]

set_option maxHeartbeats 400000 in
theorem rPut_any (n : Int) (h : n < 9223372036854775808) (w : World) : Calls Try.prog 43 #[.int .i64 n] w (RetBelow (.string (Nu.put n.toNat)) w) := by
  obtain ⟨p, hp⟩ : ∃ p, Nu.put n.toNat = p := ⟨_, rfl⟩
  rw [hp]
  have hpz : p.size ≤ 9 := hp ▸ (Nu.put_size n.toNat (by omega)).2
  have HP := Lib.hid hp; clear hp
  go_enter Try.func43, Try.ntmps43
  go_wp2_with fail
  all_goals (
    go_loopw [0, 3] (fun i s wr => ∃ (k : Int) (t : ByteArray), i = .int .i64 k ∧ s = .string t ∧ 0 ≤ k ∧ k < 9223372036854775808 ∧ Hid (t ++ Nu.put k.toNat = p ∧ Below w.heap.size w wr)) (fun i _ _ => (intOf i).toNat)
    case atStart => first | exact ⟨max n 0, ⟨#[]⟩, rfl, rfl, by omega, by omega, by rw [ba_none, show (max n 0).toNat = n.toNat by omega]; exact HP.out, Below.refl _ _⟩ | exact ⟨n, ⟨#[]⟩, rfl, rfl, by omega, by omega, by rw [ba_none]; exact HP.out, Below.refl _ _⟩ | exact ⟨0, ⟨#[]⟩, rfl, rfl, by omega, by omega, by rw [ba_none, show Int.toNat 0 = n.toNat by omega]; exact HP.out, Below.refl _ _⟩
    case round =>
      obtain ⟨k, t, rfl, rfl, hk0, hk, hd⟩ := hrel
      clear HP
      have hz : t.size ≤ 9 := by
        have := congrArg ByteArray.size hd.out.1
        rw [ByteArray.size_append] at this
        omega
      by_cases hge : 128 ≤ k
      · have hc := one_conv (UInt8.ofNat (128 + k.toNat % 128)) (128 + k % 128) (by simp; omega)
        have hp : Hid (t ++ Nu.put k.toNat = (t ++ ⟨#[UInt8.ofNat (128 + k.toNat % 128)]⟩) ++ Nu.put (k.toNat / 128)) := Lib.hid (put_go t k.toNat (by omega))
        obtain ⟨c, hcc⟩ : ∃ c, UInt8.ofNat (128 + k.toNat % 128) = c := ⟨_, rfl⟩
        rw [hcc] at hc hp
        clear hcc
        go_wp2_with fail
        go_roundw
        case rel => exact ⟨k / 128, t ++ ⟨#[c]⟩, by go_num, rfl, by omega, by omega, by rw [show (k / 128).toNat = k.toNat / 128 by omega, ← hp.out]; exact hd.out.1, hd.out.2.alloc hd.out.2.size _⟩
        case measure => simp [intOf]; omega
      · have hc := one_conv (UInt8.ofNat k.toNat) k (by simp; omega)
        have hp : Hid (t ++ Nu.put k.toNat = t ++ ⟨#[UInt8.ofNat k.toNat]⟩) := Lib.hid (put_end t k.toNat (by omega))
        obtain ⟨c, hcc⟩ : ∃ c, UInt8.ofNat k.toNat = c := ⟨_, rfl⟩
        rw [hcc] at hc hp
        clear hcc
        go_wp2_with fail
        go_ret
        exact ⟨congrArg (fun x => Ending.returned (.string x)) (hp.out.symm.trans hd.out.1), hd.out.2.alloc hd.out.2.size _⟩)

set_option maxHeartbeats 400000 in
theorem rPutVec_any (a : Nat → Int) (h : ∀ i, i < 3 → a i < 9223372036854775808) (w : World) : Calls Try.prog 44 #[.agg #[.int .i64 (a 0), .int .i64 (a 1), .int .i64 (a 2)]] w (RetBelow (.string (Nu.putV (a 0).toNat (a 1).toNat (a 2).toNat)) w) := by
  have c0 := fun w => rPut_any (a 0) (h 0 (by decide)) w
  have c1 := fun w => rPut_any (a 1) (h 1 (by decide)) w
  have c2 := fun w => rPut_any (a 2) (h 2 (by decide)) w
  have z0 := (Nu.put_size (a 0).toNat (by have := h 0 (by decide); omega)).2
  have z1 := (Nu.put_size (a 1).toNat (by have := h 1 (by decide); omega)).2
  have z2 := (Nu.put_size (a 2).toNat (by have := h 2 (by decide); omega)).2
  unfold Nu.putV
  rw [← ba_cat]
  clear h
  obtain ⟨p0, e0⟩ : ∃ p, Nu.put (a 0).toNat = p := ⟨_, rfl⟩
  obtain ⟨p1, e1⟩ : ∃ p, Nu.put (a 1).toNat = p := ⟨_, rfl⟩
  obtain ⟨p2, e2⟩ : ∃ p, Nu.put (a 2).toNat = p := ⟨_, rfl⟩
  rw [e0] at c0 z0 ⊢
  rw [e1] at c1 z1 ⊢
  rw [e2] at c2 z2 ⊢
  clear e0 e1 e2
  obtain ⟨x, hx⟩ : ∃ x, a 0 = x := ⟨_, rfl⟩
  obtain ⟨y, hy⟩ : ∃ x, a 1 = x := ⟨_, rfl⟩
  obtain ⟨z, hz⟩ : ∃ x, a 2 = x := ⟨_, rfl⟩
  rw [hx] at c0 ⊢
  rw [hy] at c1 ⊢
  rw [hz] at c2 ⊢
  clear hx hy hz
  have C0 := Lib.hid c0; have C1 := Lib.hid c1; have C2 := Lib.hid c2
  clear c0 c1 c2
  go_enter Try.func44, Try.ntmps44
  go_wp2_with fail
  have gW : Below w.heap.size w (w.alloc (.cells #[.int .i64 x, .int .i64 y, .int .i64 z] 27)) := (Below.refl _ _).alloc (Nat.le_refl _) _
  have hcl : ∀ i v, (#[Value.int .i64 x, .int .i64 y, .int .i64 z])[i]? = some v → (w.alloc (.cells #[.int .i64 x, .int .i64 y, .int .i64 z] 27)).cell? ⟨w.heap.size, i, none⟩ = some v := fun i v hv => (World.cell?_alloc_at (w := w) _ _ _ i rfl).trans hv
  have h0 := hcl 0 (.int .i64 x) rfl
  have h1 := hcl 1 (.int .i64 y) rfl
  have h2 := hcl 2 (.int .i64 z) rfl
  have hlt : w.heap.size < (w.alloc (.cells #[.int .i64 x, .int .i64 y, .int .i64 z] 27)).heap.size := by simp
  clear hcl
  obtain ⟨W, hW⟩ : ∃ W, w.alloc (.cells #[.int .i64 x, .int .i64 y, .int .i64 z] 27) = W := ⟨_, rfl⟩
  rw [hW] at gW h0 h1 h2 hlt ⊢
  clear hW
  have GW := Lib.hid gW; clear gW
  have q0 := fun w2 (g : Below W.heap.size W w2) => (g.cell (p := ⟨w.heap.size, 0, none⟩) hlt).trans h0
  have q1 := fun w2 (g : Below W.heap.size W w2) => (g.cell (p := ⟨w.heap.size, 1, none⟩) hlt).trans h1
  have q2 := fun w2 (g : Below W.heap.size W w2) => (g.cell (p := ⟨w.heap.size, 2, none⟩) hlt).trans h2
  clear h0 h1 h2 hlt
  refine region_quiet (fun w2 => Below W.heap.size W w2) (by kernel_rfl) (by kernel_rfl) (below_drewN (Below.refl _ _) 1) ?_
  repeat (first
    | (go_big_quiet_skip)
    | (refine quiet_cell _ _ 3 _ _ q0 rfl rfl ?_ Try.underlying3 rfl ?_; (focus kernel_rfl); simp only [Act.put, List.setIfInBounds_toArray, List.set_cons_zero, List.set_cons_succ])
    | (refine quiet_cell _ _ 3 _ _ q1 rfl rfl ?_ Try.underlying3 rfl ?_; (focus kernel_rfl); simp only [Act.put, List.setIfInBounds_toArray, List.set_cons_zero, List.set_cons_succ])
    | (refine quiet_cell _ _ 3 _ _ q2 rfl rfl ?_ Try.underlying3 rfl ?_; (focus kernel_rfl); simp only [Act.put, List.setIfInBounds_toArray, List.set_cons_zero, List.set_cons_succ])
    | (go_big_quiet_step ((intro g2; first
      | (with_reducible rfl)
      | (with_reducible exact quiet_below g2 (C0.out _))
      | (with_reducible exact quiet_below g2 (C1.out _))
      | (with_reducible exact quiet_below g2 (C2.out _))))))
  refine wpQuiet_nil ?_
  intro w2 g2
  go_wp2_with fail
  go_ret
  exact ⟨rfl, below_trans GW.out g2⟩

end Go.Proofs.Ytpnfhcpapjomnaa

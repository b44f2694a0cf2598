/- The landed commands: a gang's bytes. -/
import Derived.Test.YtpnfhcpapjomnaaPcW
namespace Go.Proofs.Ytpnfhcpapjomnaa
open Go.RowKit
set_option linter.unusedVariables false

set_option maxHeartbeats 1000000 in
set_option maxRecDepth 8000 in
theorem cPutGang_any (g : Gg) (hg : Cm.okG g = true) (w : World) : Calls Try.prog 20 #[.agg g.c] w (RetBelow (.string (Cm.pG g)) w) := by
  have hk := hg
  simp only [Cm.okG, Bool.and_eq_true] at hk
  have c0 := fun w => cPn_any g.id (by have := (Cm.ok_iff _).1 hk.1.1.1.1.1.1; omega) (by have := (Cm.ok_iff _).1 hk.1.1.1.1.1.1; omega) w
  have c1 := fun w => cPn_any g.ten (by have := (Cm.ok_iff _).1 hk.1.1.1.1.1.2; omega) (by have := (Cm.ok_iff _).1 hk.1.1.1.1.1.2; omega) w
  have c2 := fun w => cPn_any g.pods (by have := (Cm.ok_iff _).1 hk.1.1.1.1.2; omega) (by have := (Cm.ok_iff _).1 hk.1.1.1.1.2; omega) w
  have c3 := fun w => cPv_any g.need hk.2 w
  have c4 := fun w => cPn_any g.run (by have := (Cm.ok_iff _).1 hk.1.1.1.2; omega) (by have := (Cm.ok_iff _).1 hk.1.1.1.2; omega) w
  have c5 := fun w => cPn_any g.lev (by have := (Cm.ok_iff _).1 hk.1.1.2; omega) (by have := (Cm.ok_iff _).1 hk.1.1.2; omega) w
  have c6 := fun w => cPn_any g.pre (by have := (Cm.ok_iff _).1 hk.1.2; omega) (by have := (Cm.ok_iff _).1 hk.1.2; omega) w
  have z0 := Cm.pn_size _ (Cm.ok_lt hk.1.1.1.1.1.1)
  have z1 := Cm.pn_size _ (Cm.ok_lt hk.1.1.1.1.1.2)
  have z2 := Cm.pn_size _ (Cm.ok_lt hk.1.1.1.1.2)
  have z3 := Cm.pv_size hk.2
  have z4 := Cm.pn_size _ (Cm.ok_lt hk.1.1.1.2)
  have z5 := Cm.pn_size _ (Cm.ok_lt hk.1.1.2)
  have z6 := Cm.pn_size _ (Cm.ok_lt hk.1.2)
  unfold Cm.pG
  clear hk hg
  obtain ⟨p0, e0⟩ : ∃ p, Cm.pn g.id = p := ⟨_, rfl⟩
  obtain ⟨p1, e1⟩ : ∃ p, Cm.pn g.ten = p := ⟨_, rfl⟩
  obtain ⟨p2, e2⟩ : ∃ p, Cm.pn g.pods = p := ⟨_, rfl⟩
  obtain ⟨p3, e3⟩ : ∃ p, Cm.pv g.need = p := ⟨_, rfl⟩
  obtain ⟨p4, e4⟩ : ∃ p, Cm.pn g.run = p := ⟨_, rfl⟩
  obtain ⟨p5, e5⟩ : ∃ p, Cm.pn g.lev = p := ⟨_, rfl⟩
  obtain ⟨p6, e6⟩ : ∃ p, Cm.pn g.pre = p := ⟨_, rfl⟩
  rw [e0] at c0 z0 ⊢
  rw [e1] at c1 z1 ⊢
  rw [e2] at c2 z2 ⊢
  rw [e3] at c3 z3 ⊢
  rw [e4] at c4 z4 ⊢
  rw [e5] at c5 z5 ⊢
  rw [e6] at c6 z6 ⊢
  clear e0 e1 e2 e3 e4 e5 e6
  have hE : Hid (p0 ++ (p1 ++ (p2 ++ (p3 ++ (p4 ++ (p5 ++ p6))))) = p0 ++ p1 ++ p2 ++ p3 ++ p4 ++ p5 ++ p6) := Lib.hid (by simp only [ba_cat])
  obtain ⟨a, b, c, ⟨x, y, z⟩, d, e, f⟩ := g
  simp only [Gg.c] at *
  have C0 := Lib.hid c0; have C1 := Lib.hid c1; have C2 := Lib.hid c2; have C3 := Lib.hid c3; have C4 := Lib.hid c4; have C5 := Lib.hid c5; have C6 := Lib.hid c6
  clear c0 c1 c2 c3 c4 c5 c6
  go_enter Try.func20, Try.ntmps20
  go_wp2_with fail
  have gW : Below w.heap.size w (w.alloc (.cells #[.int .i64 a, .int .i64 b, .int .i64 c, .int .i64 x, .int .i64 y, .int .i64 z, .int .i64 d, .int .i64 e, .int .i64 f] 29)) := (Below.refl _ _).alloc (Nat.le_refl _) _
  have hh := Holds.new w #[.int .i64 a, .int .i64 b, .int .i64 c, .int .i64 x, .int .i64 y, .int .i64 z, .int .i64 d, .int .i64 e, .int .i64 f] 29
  have hlt : w.heap.size < (w.alloc (.cells #[.int .i64 a, .int .i64 b, .int .i64 c, .int .i64 x, .int .i64 y, .int .i64 z, .int .i64 d, .int .i64 e, .int .i64 f] 29)).heap.size := by simp
  obtain ⟨W, hW⟩ : ∃ W, w.alloc (.cells #[.int .i64 a, .int .i64 b, .int .i64 c, .int .i64 x, .int .i64 y, .int .i64 z, .int .i64 d, .int .i64 e, .int .i64 f] 29) = W := ⟨_, rfl⟩
  rw [hW] at gW hh hlt ⊢
  clear hW
  have GW := Lib.hid gW; clear gW
  have HQ := Lib.hid (fun w2 (g : Below W.heap.size W w2) => hh.kept hlt g); clear hh hlt
  refine region_quiet (fun w2 => Below W.heap.size W w2) (by kernel_rfl) (by kernel_rfl) (below_drewN (Below.refl _ _) 1) ?_
  repeat (first
    | (go_big_quiet_skip)
    | (with_reducible refine quiet_hold HQ.out 3 _ Try.underlying3 rfl _ _ _ rfl rfl rfl ?_ ?_; (focus kernel_rfl); simp only [Act.put, List.setIfInBounds_toArray, List.set_cons_zero, List.set_cons_succ])
    | (with_reducible refine quiet_hold3 HQ.out 27 _ Try.underlying27 rfl vec_len _ _ _ _ _ rfl rfl rfl rfl rfl ?_ ?_; (focus kernel_rfl); simp only [Act.put, List.setIfInBounds_toArray, List.set_cons_zero, List.set_cons_succ])
    | (go_big_quiet_step ((intro g2; first
      | (with_reducible rfl)
      | (with_reducible exact quiet_below g2 (C0.out _))
      | (with_reducible exact quiet_below g2 (C1.out _))
      | (with_reducible exact quiet_below g2 (C2.out _))
      | (with_reducible exact quiet_below g2 (C3.out _))
      | (with_reducible exact quiet_below g2 (C4.out _))
      | (with_reducible exact quiet_below g2 (C5.out _))
      | (with_reducible exact quiet_below g2 (C6.out _))))))
  refine wpQuiet_nil ?_
  intro w2 g2
  have GW2 := Lib.hid (below_trans GW.out g2)
  clear g2
  go_wp2_with fail
  go_ret
  exact ⟨by rw [hE.out]; rfl, GW2.out⟩

end Go.Proofs.Ytpnfhcpapjomnaa
